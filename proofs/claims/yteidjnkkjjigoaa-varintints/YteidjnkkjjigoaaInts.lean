/- Of any int and any bytes the law VarintInts answers true, and leaves its arguments: zigzag there and back, laid and read as the document says. No conditions. -/
import Derived.Test.YteidjnkkjjigoaaPureB
import Derived.Test.YteidjnkkjjigoaaZig
import Derived.Test.YteidjnkkjjigoaaRefC
import Derived.Test.YteidjnkkjjigoaaAwake1
import Derived.Test.YteidjnkkjjigoaaFrame
import Derived.Deep.RegionWith
import Derived.Deep.CutRange
import Derived.Deep.RegionHeld
namespace Go.Proofs.Yteidjnkkjjigoaa
open Go.ChangeShapes Go.WideShapes Go.ChangeAt Go.RowKit

/-- AppendInt of no bytes. -/
theorem appendInt_nil (n : Int) (w : World) (h0 : -9223372036854775808 ≤ n) (h1 : n ≤ 9223372036854775807) : Calls Try.prog 20 #[.slice none 0 0, .int .i64 n] w fun e w' =>
    e = .returned (.slice (some ⟨w.heap.size, 0, none⟩) (enc (zigv n)).length (enc (zigv n)).length) ∧ Row w' (some ⟨w.heap.size, 0, none⟩) (enc (zigv n)) ∧ Below w.heap.size w w' := by
  have hz := zigv_bound n h0 h1
  go_enter Try.func20, Try.ntmps20
  go_wp2_with (first
    | (go_at_call 19; refine (zig_any _ _ h0 h1).mono ?_; rintro e w' ⟨rfl, rfl⟩)
    | (go_at_call 13; refine (append_nil _ _ hz.1 hz.2).mono ?_; rintro e w1 ⟨rfl, hr1, hb1⟩))
  go_ret
  exact ⟨rfl, hr1, hb1⟩

/-- What ReadInt answers. -/
def rdi (zs : List Int) : Int × Int × Int := if (rd zs).2.2 = 0 then (zagv (rd zs).1, (rd zs).2.1, 0) else (0, 0, (rd zs).2.2)
theorem readInt_any (a : Option Addr) (zs : List Int) (cap : Nat) (w : World) (hr : Row w a zs) (hm : zs.length ≤ 9223372036854775807) :
    Calls Try.prog 21 #[.slice a zs.length cap] w fun e w' => e = .returned (.tuple #[.int .i64 (rdi zs).1, .int .i64 (rdi zs).2.1, .int .i64 (rdi zs).2.2]) ∧ w = w' := by
  by_cases h0 : (rd zs).2.2 = 0
  · obtain ⟨hn0, hn1, -, -⟩ := rd_ok zs hr.byte h0
    have HR : Hid (rdi zs = (zagv (rd zs).1, (rd zs).2.1, 0)) := by show rdi zs = _; simp [rdi, h0]
    generalize hq : rd zs = q at *
    obtain ⟨n, sz, e⟩ := q
    simp only at h0 hn0 hn1
    subst h0
    have HQ : Hid (rd zs = (n, sz, 0)) := hq
    clear hq
    go_enter Try.func21, Try.ntmps21
    go_wp2_with fail
    refine (read_any a zs cap _ hr hm).mono ?_
    rintro e w1 ⟨rfl, rfl⟩
    rw [HQ.out]
    go_wp2_with fail
    refine (zag_any _ _ hn0 hn1).mono ?_
    rintro e w1 ⟨rfl, rfl⟩
    go_wp2
    go_ret3
    exact ⟨by rw [HR.out]; rfl, rfl⟩
  · have HR : Hid (rdi zs = (0, 0, (rd zs).2.2)) := by show rdi zs = _; simp [rdi, h0]
    generalize hq : rd zs = q at *
    obtain ⟨n, sz, e⟩ := q
    simp only at h0
    have HQ : Hid (rd zs = (n, sz, e)) := hq
    have hne : (e != 0) = true := by simpa using h0
    clear hq h0
    go_enter Try.func21, Try.ntmps21
    go_wp2_with fail
    refine (read_any a zs cap _ hr hm).mono ?_
    rintro e w1 ⟨rfl, rfl⟩
    rw [HQ.out]
    go_wp2
    go_ret3
    exact ⟨by rw [HR.out]; rfl, rfl⟩

theorem rdi_enc (n : Int) (h0 : -9223372036854775808 ≤ n) (h1 : n ≤ 9223372036854775807) : rdi (enc (zigv n)) = (n, ((enc (zigv n)).length : Int), 0) := by
  have hz := zigv_bound n h0 h1
  rw [rdi, rd_enc' _ hz.1 hz.2]
  simp [zag_zig]

set_option maxHeartbeats 20000000 in
set_option maxRecDepth 100000 in
theorem ints_walk (n : Int) (a : Option Addr) (zs : List Int) (cap : Nat) (w : World) (hn : -9223372036854775808 ≤ n ∧ n ≤ 9223372036854775807) (h : BytesIn w a zs.length cap zs) :
    Calls Try.prog 5 #[.int .i64 n, .slice a zs.length cap] w fun e w' => e = .returned (.bool true) ∧ Below w.heap.size w w' := by
  obtain ⟨hn0, hn1⟩ := hn
  by_cases hlong : 40 < zs.length
  · clear h
    go_enter Try.func5, Try.ntmps5
    go_wp2_with (go_at_call 12; refine (awake1_any _).mono ?_; rintro e w4 ⟨rfl, hb4⟩)
    go_ret
    exact ⟨rfl, hb4⟩
  have hr := h.hrow
  have hlc := h.hcap
  have hz := zigv_bound n hn0 hn1
  have hl := enc_len (zigv n)
  have CZ : Hid (∀ W, Calls Try.prog 19 #[.int .i64 n] W fun e w' => e = .returned (.int .u64 (zigv n)) ∧ W = w') := fun W => zig_any n W hn0 hn1
  have CRZ : Hid (∀ W, Calls Try.prog 22 #[.int .i64 n] W fun e w' => e = .returned (.int .u64 (zigv n)) ∧ W = w') := fun W => rzig_any n W hn0 hn1
  have CZA : Hid (∀ W, Calls Try.prog 23 #[.int .u64 (zigv n)] W fun e w' => e = .returned (.int .i64 n) ∧ W = w') := fun W => by
    have := zag_any (zigv n) W hz.1 hz.2
    rw [zag_zig] at this; exact this
  have CA : Hid (∀ W, Calls Try.prog 20 #[.slice none 0 0, .int .i64 n] W fun e w' =>
      e = .returned (.slice (some ⟨W.heap.size, 0, none⟩) (enc (zigv n)).length (enc (zigv n)).length) ∧ Row w' (some ⟨W.heap.size, 0, none⟩) (enc (zigv n)) ∧ Below W.heap.size W w') := fun W => appendInt_nil n W hn0 hn1
  have CRI : Hid (∀ a c W, Row W a (enc (zigv n)) → Calls Try.prog 21 #[.slice a (enc (zigv n)).length c] W fun e w' => e = .returned (.tuple #[.int .i64 n, .int .i64 (enc (zigv n)).length, .int .i64 0]) ∧ W = w') := fun a c W h => by
    have := readInt_any a (enc (zigv n)) c W h (by omega)
    rw [rdi_enc n hn0 hn1] at this; exact this
  clear h
  generalize zigv n = u at *
  have hall : ((rd zs).2.2 = 0 ∧ rdi zs = (zagv (rd zs).1, (rd zs).2.1, 0) ∧ 0 ≤ (rd zs).1 ∧ (rd zs).1 < 18446744073709551616) ∨ (((rd zs).2.2 = 4 ∨ (rd zs).2.2 = 5) ∧ rdi zs = (0, 0, (rd zs).2.2) ∧ (rd zs).1 = 0 ∧ (rd zs).2.1 = 0) := by
    rcases rd_err zs with h0 | ⟨h45, h1, h2⟩
    · obtain ⟨hv0, hv1, -, -⟩ := rd_ok zs hr.byte h0
      exact Or.inl ⟨h0, by simp [rdi, h0], hv0, hv1⟩
    · exact Or.inr ⟨h45, by rcases h45 with h | h <;> simp [rdi, h], h1, h2⟩
  have HA := fun (X : Prop) (h : Hid X) => h.out
  clear HA
  have HALL : Hid (((rd zs).2.2 = 0 ∧ rdi zs = (zagv (rd zs).1, (rd zs).2.1, 0) ∧ 0 ≤ (rd zs).1 ∧ (rd zs).1 < 18446744073709551616) ∨ (((rd zs).2.2 = 4 ∨ (rd zs).2.2 = 5) ∧ rdi zs = (0, 0, (rd zs).2.2) ∧ (rd zs).1 = 0 ∧ (rd zs).2.1 = 0)) := hall
  clear hall
  have CRD := fun W (h : Row W a zs) => readInt_any a zs cap W h (by omega)
  have CRR := fun W (h : Row W a zs) => rread_any a zs cap W h hlc (by omega)
  generalize rdi zs = qi at *
  generalize rd zs = q at *
  obtain ⟨k, ksz, ke⟩ := qi
  obtain ⟨v, sz, e⟩ := q
  simp only at HALL CRD CRR
  have CRD' : Hid (∀ W, Row W a zs → Calls Try.prog 21 #[.slice a zs.length cap] W fun e w' => e = .returned (.tuple #[.int .i64 k, .int .i64 ksz, .int .i64 ke]) ∧ W = w') := CRD
  have CRR' : Hid (∀ W, Row W a zs → Calls Try.prog 17 #[.slice a zs.length cap] W fun e' w' => e' = .returned (.tuple #[.int .u64 v, .int .i64 sz, .int .i64 e]) ∧ Below W.heap.size W w') := CRR
  clear CRD CRR
  go_enter Try.func5, Try.ntmps5
  go_wp2_with fail
  refine (CZ.out _).mono ?_
  rintro e' w1 ⟨rfl, rfl⟩
  go_wp2_with fail
  refine (CA.out _).mono ?_
  rintro e' w2 ⟨rfl, hx2, hb2⟩
  have hr2 := hr.below hb2
  clear hr
  go_wp2_with fail
  refine (CRI.out _ _ _ hx2).mono ?_
  rintro e' w3 ⟨rfl, rfl⟩
  go_wp2_with fail
  refine (CRD'.out _ hr2).mono ?_
  rintro e' w3 ⟨rfl, rfl⟩
  go_wp2_with fail
  refine (CRR'.out _ hr2).mono ?_
  rintro e' w4 ⟨rfl, hb4⟩
  have hx4 := hx2.below hb4
  have hb := hb2.trans (hb4.mono hb2.size)
  have t1 := hx4.text (enc u).length (enc u).length rfl
  have t2 := hx4.drew.text (enc u).length (enc u).length rfl
  clear hx2 hr2 hb2 hb4 CZ CA CRI CRD' CRR' hlc
  go_upto_region 8 with fail
  go_cut [67, 1, 10, 11, 12, 13, 14, 15] from 16 (fun s67 _ _ _ _ _ _ _ wx => s67 = .bool false ∧ wx = w4)
  case first =>
    rcases HALL.out with ⟨h0, h1, hv0, hv1⟩ | ⟨h45, h1, h2, h3⟩
    · simp only [Prod.mk.injEq] at h1
      obtain ⟨rfl, rfl, rfl⟩ := h1
      subst h0
      have hvb := zagv_bound v hv0 hv1
      have CRV : Hid (∀ W, Calls Try.prog 22 #[.int .i64 (zagv v)] W fun e w' => e = .returned (.int .u64 v) ∧ W = w') := fun W => by
        have := rzig_any (zagv v) W hvb.1 hvb.2
        rw [zig_zag v hv0] at this; exact this
      clear HALL t1 t2
      generalize zagv v = k at *
      go_wp2_with fail
      refine (CRV.out _).mono ?_
      rintro e w5 ⟨rfl, rfl⟩
      go_wp2_with fail
      go_meet
      case rel => exact ⟨rfl, rfl⟩
    · simp only [Prod.mk.injEq] at h1
      obtain ⟨rfl, rfl, rfl⟩ := h1
      subst h2 h3
      have hne : (ke == 0) = false := by rcases h45 with rfl | rfl <;> rfl
      have hne' : (ke != 0) = true := by rcases h45 with rfl | rfl <;> rfl
      clear HALL t1 t2 h45
      go_wp2_with fail
      go_meet
      case rel => exact ⟨rfl, rfl⟩
  case rest =>
    obtain ⟨h67, hw⟩ := hcut
    subst h67
    subst hw
    clear HALL
    go_wp2
    go_region_held (fun _ => True) (exact trivial) (first
      | (go_at_call 22; refine (CRZ.out _).mono ?_; rintro e w8 ⟨rfl, rfl⟩)
      | (go_at_call 23; refine (CZA.out _).mono ?_; rintro e w8 ⟨rfl, rfl⟩)
      | (go_at_call 14; refine (rbytes_any u _ hz.1 hz.2).mono ?_; rintro e w9 ⟨g9, c9, rfl, hg9, hc9, hown9, hb9⟩; have t3 := (Row.own (enc_byte u hz.1) rfl hown9).text (enc u).length c9 rfl; have t4 := (hx4.drew.below hb9).text (enc u).length (enc u).length rfl; clear hown9)
      | (go_at_call 12; refine (awake1_any _).mono ?_; rintro e w10 ⟨rfl, hb10⟩))
    all_goals
      go_wp2
      go_ret
      exact ⟨rfl, (hb.drew.trans (hb9.mono hb.size)).trans (hb10.mono (Nat.le_trans hb.size hb9.size))⟩
set_option maxRecDepth 100000 in
theorem varintInts_lifted (os : Os) (started : os.Started) (H : Type) (tok : TypeId × Value → H) :
    ReturnsInHanded {} Try.checked os 5 .any (Rows.varintIntsSpec.pre6 tok Try.prog Try.f5 Rows.varintIntsRow.domain false) (Rows.varintIntsSpec.post tok Try.prog Try.f5 false true false false) := by
  refine returnsInHanded_of_change (C := Try.checked) own_knob started (by kernel_rfl) Try.func5
    (ChangeSpec.witness6 (enc := tok) (C := Try.checked) false ⟨#[], #[.int .i64 0, .slice none 0 0], []⟩ 8 (by kernel_rfl) (by kernel_rfl) (by kernel_rfl) (by kernel_rfl)) ?_
  intro W base args ds gs before hval0 hW hcnd _
  have hval : ∀ (j : Nat) t v, Try.f5.params[j]? = some t → args[j]? = some v → Value.okWide Try.prog W .any base t v := hval0
  have hW' := hW
  obtain ⟨p, q, hA0, hV, rfl, hfz, hnd⟩ := hW
  have hA : DataW.TrodAll tok Try.prog W 0 (fun _ => true) true Try.f5.params.toList args.toList ds p := hA0
  rw [Try.params5] at hA hval
  obtain ⟨v0, vs0, d0, ds0, p0, q0, hargs, rfl, rfl, h0, r0⟩ := trodAll_cons hA
  obtain ⟨v1, vs1, d1, ds1, p1, q1, rfl, rfl, rfl, h1, r1⟩ := trodAll_cons r0
  obtain ⟨rfl, rfl, rfl⟩ := trodAll_nil r1
  obtain rfl : args = #[v0, v1] := by cases args; simp_all
  obtain ⟨rfl, rfl⟩ := trodVars_none hV
  obtain ⟨a0, rfl, rfl, rfl, w0⟩ := open_int Try.underlying3 (hval 0 3 v0 rfl rfl) h0
  obtain ⟨a1, len1, cap1, rfl⟩ := okWide_slice Try.underlying22 (hval 1 22 v1 rfl rfl)
  have k1 := h1
  have lt1 : ∀ x ∈ p1, x.block < W.heap.size := by obtain ⟨m, hm⟩ := k1; exact DataW.trod_lt m _ _ _ hm
  obtain ⟨z1, w1⟩ : ∃ zs, BytesIn W a1 len1 cap1 zs := by obtain ⟨fuel, hf⟩ := h1; exact bytes_in hf
  obtain rfl := w1.hlen
  clear hA0 hval0
  refine (ints_walk a0 a1 z1 cap1 W (i64_of_wf w0) w1).mono fun e W' ⟨he, bel⟩ => ?_
  subst he
  exact ⟨_, rfl, _, _, _, [], _, [], hW', trodAll_mk1 (shut_bool Try.underlying4 _), (trodAll_cons_mk (shut_int Try.underlying3 w0) (trodAll_cons_mk (Below.trod laid_out (by kernel_rfl) (of_decide_eq_true (by kernel_rfl)) k1 bel lt1) trodAll_mk0)), rfl, bel.frame _, fun h => by cases h⟩

theorem varintInts_holds : Rows.VarintIntsSaid :=
  OpenClaim.holds_of_wide 5 Try.f5 rfl rfl rfl rfl rfl rfl rfl ⟨rfl, rfl, rfl, rfl, rfl⟩ rfl rfl rfl rfl rfl (by kernel_rfl) Try.func5 (by kernel_rfl)
    (of_decide_eq_true (by kernel_rfl)) (by unfold Func.isWrapper; first | (rw [if_pos (by decide +kernel)]; kernel_rfl) | (rw [if_neg (by decide +kernel)]; exact ⟨rfl, rfl⟩))
    (fun os started H tok _ => varintInts_lifted os started H tok)
#print axioms varintInts_holds
end Go.Proofs.Yteidjnkkjjigoaa
