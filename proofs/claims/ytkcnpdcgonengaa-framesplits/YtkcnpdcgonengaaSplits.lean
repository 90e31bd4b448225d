/- Of any bytes and any int the law FrameSplits answers true, and leaves its argument: Split and Wrap answer what the document says. No conditions. -/
import Derived.Test.YtkcnpdcgonengaaAwake3
import Derived.Test.YtkcnpdcgonengaaFrD
import Derived.Test.YtkcnpdcgonengaaRCut
import Derived.Test.YtkcnpdcgonengaaWrap
import Derived.Test.YtkcnpdcgonengaaFrame
import Derived.Test.YtkcnpdcgonengaaStr
import Derived.Deep.RegionHeld
import Derived.BigRegion
namespace Go.Proofs.Ytkcnpdcgonengaa
open Go.ChangeShapes Go.WideShapes Go.ChangeAt Go.RowKit

set_option maxRecDepth 100000 in
theorem wrap_len (n : Nat) (h : n ≤ 600) : IntKind.u64.wrap (n : Int) = (n : Int) := by
  rw [IntKind.wrap_u64]; exact Int.emod_eq_of_lt (by omega) (by omega)

set_option maxRecDepth 100000 in
set_option maxHeartbeats 20000000 in
theorem splits_walk (a : Option Addr) (zs : List Int) (cap : Nat) (L : Int) (w : World) (h : BytesIn w a zs.length cap zs) (_hL : -9223372036854775808 ≤ L ∧ L ≤ 9223372036854775807) :
    Calls Try.prog 5 #[.slice a zs.length cap, .int .i64 L] w fun e w' => e = .returned (.bool true) ∧ Below w.heap.size w w' := by
  have hmax := h.hmax
  have hcap := h.hcap
  have hr := h.hrow
  have hnil := h.hnil
  clear h
  by_cases hl : 600 < zs.length
  · go_enter Try.func5, Try.ntmps5
    go_wp2_with (go_at_call 19; refine (awake3_any _).mono ?_; rintro e w4 ⟨rfl, hb4⟩)
    go_ret
    exact ⟨rfl, hb4⟩
  have hl' : zs.length ≤ 600 := by omega
  clear hl
  cases hm : mayL L with
  | false =>
    have CS : Hid (∀ W, Calls Try.prog 28 #[.slice a zs.length cap, .int .i64 L] W fun e w' => e = .returned (.tuple #[.slice none 0 0, .int .i64 0, .int .i64 1]) ∧ Below W.heap.size W w') := fun W => split_no hm
    have CW : Hid (∀ W, Calls Try.prog 29 #[.slice a zs.length cap, .int .i64 L] W fun e w' => e = .returned (.tuple #[.slice none 0 0, .int .i64 1]) ∧ W = w') := fun W => wrap_no hm
    have hLL : L < 0 ∨ (0 ≤ L ∧ 4096 < L) := by
      simp [mayL] at hm
      by_cases h0 : 0 ≤ L
      · exact Or.inr ⟨h0, hm h0⟩
      · exact Or.inl (by omega)
    clear hm
    rcases hLL with hL | ⟨hL0, hL1⟩
    all_goals
      go_enter Try.func5, Try.ntmps5
      go_wp2_with fail
      refine (awake3_any _).mono ?_
      rintro e w1 ⟨rfl, hb1⟩
      go_wp2_with fail
      refine (CS.out _).mono ?_
      rintro e w2 ⟨rfl, hb2⟩
      go_wp2_with fail
      refine (CW.out _).mono ?_
      rintro e w3 ⟨rfl, rfl⟩
      go_wp2
      go_ret
      exact ⟨rfl, hb1.trans (hb2.mono hb1.size)⟩
  | true =>
    obtain ⟨hL0, hL1⟩ := mayL_true hm
    have CS : Hid (∀ W, Row W a zs → Calls Try.prog 28 #[.slice a zs.length cap, .int .i64 L] W (SplitPost L zs W)) := fun W h => split_yes a zs cap L W h hnil hcap (by omega) hL0 hL1
    have CC : Hid (∀ W, Row W a zs → Calls Try.prog 25 #[.slice a zs.length cap, .int .i64 L] W fun e w' => ∃ v ps, e = .returned (.tuple #[v, .int .i64 ((cut L zs).2.1 : Nat), .int .i64 (cut L zs).2.2]) ∧ BOwn w' W.heap.size v ps ∧ ps.map (·.1) = (cut L zs).1 ∧ Below W.heap.size W w') := fun W h => rcut_any a zs cap L W h hcap (by omega) hL0 hL1
    have hcn := cut_ok L zs hr.byte
    have hfl : (cut L zs).1.length ≤ 600 := by omega
    have hcb : Hid (∀ b ∈ (cut L zs).1, Byt b ∧ b.length ≤ zs.length) := hcn.2.2.1
    by_cases hle : (zs.length : Int) ≤ L
    · have CW : Hid (∀ W, Row W a zs → Calls Try.prog 29 #[.slice a zs.length cap, .int .i64 L] W fun e w' => ∃ va vc, e = .returned (.tuple #[.slice va ((enc zs.length).length + zs.length) vc, .int .i64 0]) ∧ Shown w' va (enc zs.length ++ zs) vc ∧ (∀ x, va = some x → W.heap.size ≤ x.block) ∧ Below W.heap.size W w') := fun W h => wrap_yes hm hle h hnil
      have hdl : decide ((zs.length : Int) ≤ L) = true := decide_eq_true hle
      have hel := enc_len (zs.length : Int)
      have CRB : Hid (∀ W, Calls Try.prog 30 #[.int .u64 (zs.length : Int)] W fun e w' => ∃ g cap, e = .returned (.slice (some ⟨g, 0, none⟩) (enc zs.length).length cap) ∧ Row w' (some ⟨g, 0, none⟩) (enc zs.length) ∧ Below W.heap.size W w') := fun W => by
        refine (rbytes_any (zs.length : Int) W (by omega) (by omega)).mono ?_
        rintro e w4 ⟨g4, c4, rfl, hg4, hc4, hown4, hb4⟩
        exact ⟨g4, c4, rfl, Row.own (enc_byte _ (by omega)) rfl hown4, hb4⟩
      have HSS : Hid (∀ W, (Op.stringOp .add (strOfNums (enc zs.length)) (strOfNums zs)).run Try.prog W = .ok (.string (strOfNums (enc zs.length) ++ strOfNums zs)) W) := fun W => run_string_add_sum (P := Try.prog) (w := W) (strOfNums (enc zs.length)) (strOfNums zs) (by rw [strOfNums_size, strOfNums_size]; omega)
      have hwr := wrap_len zs.length hl'
      clear hm hcn _hL hel hmax
      go_enter Try.func5, Try.ntmps5
      go_wp2_with fail
      refine (awake3_any _).mono ?_
      rintro e w1 ⟨rfl, hb1⟩
      go_wp2_with fail
      refine (CS.out _ (hr.below hb1)).mono ?_
      rintro e w2 (⟨he0, va, vc, rfl, hbr, hb2⟩ | ⟨he0, rfl, hb2⟩)
      · have HE0 : Hid ((cut L zs).2.2 = 0) := he0
        clear he0
        go_wp2_with fail
        refine (CW.out _ (hr.below (hb1.trans (hb2.mono hb1.size)))).mono ?_
        rintro e w3 ⟨wa, wc, rfl, hsh, -, hb3⟩
        have hB3 := (hb1.trans (hb2.mono hb1.size)).trans (hb3.mono (Nat.le_trans hb1.size hb2.size))
        have hr3 := (hr.below hB3).drew
        have hs3 := hsh.1.drew
        have u1 := hs3.text ((enc zs.length).length + zs.length) wc (by simp)
        have u2 := hr3.text zs.length cap rfl
        go_wp2
        have hsa := str_append (enc zs.length) zs
        have hss := HSS.out
        go_region_held (fun _ => True) (exact trivial) ((go_at_call 30; refine (CRB.out _).mono ?_; rintro e w4 ⟨g4, c4, rfl, hr4, hb4⟩; have u3 := hr4.text (enc zs.length).length c4 rfl; have u4 := (hs3.below hb4).text ((enc zs.length).length + zs.length) wc (by simp); have u5 := (hr3.below hb4).text zs.length cap rfl; clear hr4))
        all_goals
          have hB := hB3.drew.trans (hb4.mono hB3.size)
          have hbr9 := ((hbr.below hb3).below (Below.drew (Below.refl _ _))).below hb4
          go_wp2_with fail
          refine (CC.out _ (hr.below hB)).mono ?_
          rintro e w6 ⟨v6, ps6, rfl, hbo6, hps6, hb6⟩
          rw [HE0.out]
          obtain ⟨a6, c6, hv6, hbr6⟩ := hbo6.view
          have hpl6 : ps6.length = (cut L zs).1.length := by rw [← hps6, List.length_map]
          rw [hps6] at hbr6
          rw [hpl6] at hv6
          subst hv6
          have hbl6 := hbr9.below hb6
          have hB6 := hB.trans (hb6.mono hB.size)
          clear hbo6 hps6 hpl6 hbr9 hbr hb6 hB CC
          have HBB : Hid (∀ b ∈ (cut L zs).1, Byt b) := fun b hb => (hcb.out b hb).1
          generalize (cut L zs).1 = F at *
          generalize (cut L zs).2.1 = at0 at *
          clear HE0 hcb
          go_wp2
          go_loopw [13] (fun si wr => ∃ i : Nat, i ≤ F.length ∧ si = .int .i64 i ∧ Below w6.heap.size w6 wr) (fun si _ => F.length - (intOf si).toNat)
          case atStart => exact ⟨0, Nat.zero_le _, rfl, Below.refl _ _⟩
          case round =>
            obtain ⟨i, hi, rfl, hbw⟩ := hrel
            by_cases hlt : i < F.length
            · have hz : F ≠ [] := by intro h; rw [h] at hlt; simp at hlt
              obtain ⟨g1, rfl, q1⟩ := hbl6 hz
              obtain ⟨g2, rfl, q2⟩ := hbr6 hz
              obtain ⟨x1, y1, z1, r1⟩ := q1 i hlt
              obtain ⟨x2, y2, z2, r2⟩ := q2 i hlt
              have l1 := World.block_lt_of_cell? w6 ⟨g1, i, none⟩ z1
              have l2 := World.block_lt_of_cell? w6 ⟨g2, i, none⟩ z2
              have d1 := (hbw.cell (p := ⟨g1, i, none⟩) l1).trans z1
              have d2 := (hbw.cell (p := ⟨g2, i, none⟩) l2).trans z2
              have t1 := (r1.below hbw).drew.text F[i].length y1 rfl
              have t2 := (r2.below hbw).drew.text F[i].length y2 rfl
              have hi0 : (0 : Int) ≤ (i : Int) := by omega
              have hi1 : (i : Int) < (F.length : Int) := by omega
              clear q1 q2 z1 z2 r1 r2 hbl6 hbr6
              generalize F[i] = Fi at *
              go_wp2
              go_region_held (fun w' => w'.cell? ⟨g1, i, none⟩ = some (.slice x1 Fi.length y1) ∧ w'.cell? ⟨g2, i, none⟩ = some (.slice x2 Fi.length y2)) (first | go_keep | fail) (fail)
              all_goals
                go_wp2
                go_roundw
                case rel => exact ⟨i + 1, by omega, by go_num, hbw.drew⟩
                case measure => simp [intOf]; omega
            · have hie : (i : Int) = (F.length : Int) := by omega
              go_wp2
              go_ret
              exact ⟨rfl, hB6.trans (hbw.mono hB6.size)⟩
      · have HE0 : Hid ((cut L zs).2.2 ≠ 0) := he0
        clear he0
        go_wp2_with fail
        refine (CW.out _ (hr.below (hb1.trans (hb2.mono hb1.size)))).mono ?_
        rintro e w3 ⟨wa, wc, rfl, hsh, -, hb3⟩
        have hB3 := (hb1.trans (hb2.mono hb1.size)).trans (hb3.mono (Nat.le_trans hb1.size hb2.size))
        have hr3 := (hr.below hB3).drew
        have hs3 := hsh.1.drew
        have u1 := hs3.text ((enc zs.length).length + zs.length) wc (by simp)
        have u2 := hr3.text zs.length cap rfl
        go_wp2
        have hsa := str_append (enc zs.length) zs
        have hss := HSS.out
        go_region_held (fun _ => True) (exact trivial) ((go_at_call 30; refine (CRB.out _).mono ?_; rintro e w4 ⟨g4, c4, rfl, hr4, hb4⟩; have u3 := hr4.text (enc zs.length).length c4 rfl; have u4 := (hs3.below hb4).text ((enc zs.length).length + zs.length) wc (by simp); have u5 := (hr3.below hb4).text zs.length cap rfl; clear hr4))
        all_goals
          have hB := hB3.drew.trans (hb4.mono hB3.size)
          go_wp2_with fail
          refine (CC.out _ (hr.below hB)).mono ?_
          rintro e w6 ⟨v6, ps6, rfl, hbo6, -, hb6⟩
          obtain ⟨a6, c6, hv6, -⟩ := hbo6.view
          subst hv6
          have hB6 := hB.trans (hb6.mono hB.size)
          have hne : ((cut L zs).2.2 != 0) = true := by simpa using HE0.out
          clear hbo6 hb6 hB CC HE0 hcb
          generalize (cut L zs).2.2 = er at *
          generalize (cut L zs).2.1 = at0 at *
          go_wp2
          go_ret
          exact ⟨rfl, hB6⟩
    · have CW : Hid (∀ W, Calls Try.prog 29 #[.slice a zs.length cap, .int .i64 L] W fun e w' => e = .returned (.tuple #[.slice none 0 0, .int .i64 3]) ∧ W = w') := fun W => wrap_long hm (by omega)
      have hle' : L < (zs.length : Int) := by omega
      have hdl : decide ((zs.length : Int) ≤ L) = false := decide_eq_false hle
      clear hm hle hcn _hL
      go_enter Try.func5, Try.ntmps5
      go_wp2_with fail
      refine (awake3_any _).mono ?_
      rintro e w1 ⟨rfl, hb1⟩
      go_wp2_with fail
      refine (CS.out _ (hr.below hb1)).mono ?_
      rintro e w2 (⟨he0, va, vc, rfl, hbr, hb2⟩ | ⟨he0, rfl, hb2⟩)
      · have HE0 : Hid ((cut L zs).2.2 = 0) := he0
        clear he0
        go_wp2_with fail
        refine (CW.out _).mono ?_
        rintro e w3 ⟨rfl, rfl⟩
        go_wp2
        go_region
        have hB := (hb1.trans (hb2.mono hb1.size)).drew
        have hbr9 := hbr.below (Below.drew (Below.refl _ _))
        go_wp2_with fail
        refine (CC.out _ (hr.below hB)).mono ?_
        rintro e w6 ⟨v6, ps6, rfl, hbo6, hps6, hb6⟩
        rw [HE0.out]
        obtain ⟨a6, c6, hv6, hbr6⟩ := hbo6.view
        have hpl6 : ps6.length = (cut L zs).1.length := by rw [← hps6, List.length_map]
        rw [hps6] at hbr6
        rw [hpl6] at hv6
        subst hv6
        have hbl6 := hbr9.below hb6
        have hB6 := hB.trans (hb6.mono hB.size)
        clear hbo6 hps6 hpl6 hbr9 hbr hb6 hB CC
        have HBB : Hid (∀ b ∈ (cut L zs).1, Byt b) := fun b hb => (hcb.out b hb).1
        generalize (cut L zs).1 = F at *
        generalize (cut L zs).2.1 = at0 at *
        clear HE0 hcb
        go_wp2
        go_loopw [13] (fun si wr => ∃ i : Nat, i ≤ F.length ∧ si = .int .i64 i ∧ Below w6.heap.size w6 wr) (fun si _ => F.length - (intOf si).toNat)
        case atStart => exact ⟨0, Nat.zero_le _, rfl, Below.refl _ _⟩
        case round =>
          obtain ⟨i, hi, rfl, hbw⟩ := hrel
          by_cases hlt : i < F.length
          · have hz : F ≠ [] := by intro h; rw [h] at hlt; simp at hlt
            obtain ⟨g1, rfl, q1⟩ := hbl6 hz
            obtain ⟨g2, rfl, q2⟩ := hbr6 hz
            obtain ⟨x1, y1, z1, r1⟩ := q1 i hlt
            obtain ⟨x2, y2, z2, r2⟩ := q2 i hlt
            have l1 := World.block_lt_of_cell? w6 ⟨g1, i, none⟩ z1
            have l2 := World.block_lt_of_cell? w6 ⟨g2, i, none⟩ z2
            have d1 := (hbw.cell (p := ⟨g1, i, none⟩) l1).trans z1
            have d2 := (hbw.cell (p := ⟨g2, i, none⟩) l2).trans z2
            have t1 := (r1.below hbw).drew.text F[i].length y1 rfl
            have t2 := (r2.below hbw).drew.text F[i].length y2 rfl
            have hi0 : (0 : Int) ≤ (i : Int) := by omega
            have hi1 : (i : Int) < (F.length : Int) := by omega
            clear q1 q2 z1 z2 r1 r2 hbl6 hbr6
            generalize F[i] = Fi at *
            go_wp2
            go_region_held (fun w' => w'.cell? ⟨g1, i, none⟩ = some (.slice x1 Fi.length y1) ∧ w'.cell? ⟨g2, i, none⟩ = some (.slice x2 Fi.length y2)) (first | go_keep | fail) (fail)
            all_goals
              go_wp2
              go_roundw
              case rel => exact ⟨i + 1, by omega, by go_num, hbw.drew⟩
              case measure => simp [intOf]; omega
          · have hie : (i : Int) = (F.length : Int) := by omega
            go_wp2
            go_ret
            exact ⟨rfl, hB6.trans (hbw.mono hB6.size)⟩
      · have HE0 : Hid ((cut L zs).2.2 ≠ 0) := he0
        clear he0
        go_wp2_with fail
        refine (CW.out _).mono ?_
        rintro e w3 ⟨rfl, rfl⟩
        go_wp2
        go_region
        have hB := (hb1.trans (hb2.mono hb1.size)).drew
        go_wp2_with fail
        refine (CC.out _ (hr.below hB)).mono ?_
        rintro e w6 ⟨v6, ps6, rfl, hbo6, -, hb6⟩
        obtain ⟨a6, c6, hv6, -⟩ := hbo6.view
        subst hv6
        have hB6 := hB.trans (hb6.mono hB.size)
        have hne : ((cut L zs).2.2 != 0) = true := by simpa using HE0.out
        clear hbo6 hb6 hB CC HE0 hcb
        generalize (cut L zs).2.2 = er at *
        generalize (cut L zs).2.1 = at0 at *
        go_wp2
        go_ret
        exact ⟨rfl, hB6⟩
set_option maxRecDepth 100000 in
theorem frameSplits_lifted (os : Os) (started : os.Started) (H : Type) (tok : TypeId × Value → H) :
    ReturnsInHanded {} Try.checked os 5 .any (Rows.frameSplitsSpec.pre6 tok Try.prog Try.f5 Rows.frameSplitsRow.domain false) (Rows.frameSplitsSpec.post tok Try.prog Try.f5 false true false false) := by
  refine returnsInHanded_of_change (C := Try.checked) own_knob started (by kernel_rfl) Try.func5
    (ChangeSpec.witness6 (enc := tok) (C := Try.checked) false ⟨#[], #[.slice none 0 0, .int .i64 0], []⟩ 8 (by kernel_rfl) (by kernel_rfl) (by kernel_rfl) (by kernel_rfl)) ?_
  intro W base args ds gs before hval0 hW hcnd _
  have hval : ∀ (j : Nat) t v, Try.f5.params[j]? = some t → args[j]? = some v → Value.okWide Try.prog W .any base t v := hval0
  have hW' := hW
  obtain ⟨p, q, hA0, hV, rfl, hfz, hnd⟩ := hW
  have hA : DataW.TrodAll tok Try.prog W 0 (fun _ => true) true Try.f5.params.toList args.toList ds p := hA0
  rw [Try.params5] at hA hval
  obtain ⟨v0, vs0, d0, ds0, p0, q0, hargs, rfl, rfl, h0, r0⟩ := trodAll_cons hA
  obtain ⟨v1, vs1, d1, ds1, p1, q1, rfl, rfl, rfl, h1, r1⟩ := trodAll_cons r0
  obtain ⟨rfl, rfl, rfl⟩ := trodAll_nil r1
  obtain rfl : args = #[v0, v1] := by cases args; simp_all
  obtain ⟨rfl, rfl⟩ := trodVars_none hV
  obtain ⟨a0, len0, cap0, rfl⟩ := okWide_slice Try.underlying29 (hval 0 29 v0 rfl rfl)
  have k0 := h0
  have lt0 : ∀ x ∈ p0, x.block < W.heap.size := by obtain ⟨m, hm⟩ := k0; exact DataW.trod_lt m _ _ _ hm
  obtain ⟨z0, w0⟩ : ∃ zs, BytesIn W a0 len0 cap0 zs := by obtain ⟨fuel, hf⟩ := h0; exact bytes_in hf
  obtain rfl := w0.hlen
  obtain ⟨a1, rfl, rfl, rfl, w1⟩ := open_int Try.underlying3 (hval 1 3 v1 rfl rfl) h1
  clear hA0 hval0
  refine (splits_walk a0 z0 cap0 a1 W w0 (i64_of_wf w1)).mono fun e W' ⟨he, bel⟩ => ?_
  subst he
  exact ⟨_, rfl, _, _, _, [], _, [], hW', trodAll_mk1 (shut_bool Try.underlying4 _), (trodAll_cons_mk (Below.trod laid_out (by kernel_rfl) (of_decide_eq_true (by kernel_rfl)) k0 bel lt0) (trodAll_cons_mk (shut_int Try.underlying3 w1) trodAll_mk0)), rfl, bel.frame _, fun h => by cases h⟩

set_option maxRecDepth 100000 in
theorem frameSplits_holds : Rows.FrameSplitsSaid :=
  OpenClaim.holds_of_wide 5 Try.f5 rfl rfl rfl rfl rfl rfl rfl ⟨rfl, rfl, rfl, rfl, rfl⟩ rfl rfl rfl rfl rfl (by kernel_rfl) Try.func5 (by kernel_rfl)
    (of_decide_eq_true (by kernel_rfl)) (by unfold Func.isWrapper; first | (rw [if_pos (by decide +kernel)]; kernel_rfl) | (rw [if_neg (by decide +kernel)]; exact ⟨rfl, rfl⟩))
    (fun os started H tok _ => frameSplits_lifted os started H tok)
#print axioms frameSplits_holds
end Go.Proofs.Ytkcnpdcgonengaa
