/- MarkCleans. No conditions. -/
import Derived.Test.YtgknefpefeghcaaMkN
import Derived.Test.YtgknefpefeghcaaStrA
namespace Go.Proofs.Ytgknefpefeghcaa
open Go.RowKit Go.ChangeShapes Go.WideShapes Go.ChangeAt

/-- No secret so far has a star. -/
def NoStar (l : List ByteArray) : Prop := ∀ s ∈ l, (42 : Int) ∉ bsI s
set_option maxRecDepth 100000 in
theorem NoStar.snoc {l : List ByteArray} {i : Nat} (h : NoStar (l.take i)) (hi : i < l.length) (h2 : (42 : Int) ∉ bsI l[i]) : NoStar (l.take (i + 1)) := by
  intro s hs
  rw [List.take_succ_eq_append_getElem hi, List.mem_append] at hs
  rcases hs with hs | hs
  · exact h s hs
  · simp at hs; subst hs; exact h2
set_option maxRecDepth 100000 in
theorem small_snoc {l : List ByteArray} {i n : Nat} (h : ∀ s ∈ l.take i, s.size ≤ n) (hi : i < l.length) (h2 : l[i].size ≤ n) : ∀ s ∈ l.take (i + 1), s.size ≤ n := by
  intro s hs
  rw [List.take_succ_eq_append_getElem hi, List.mem_append] at hs
  rcases hs with hs | hs
  · exact h s hs
  · simp at hs; subst hs; exact h2
set_option maxRecDepth 100000 in
set_option maxHeartbeats 3200000 in
theorem cleans_walk (T : ByteArray) (p : Option Addr) (l : List ByteArray) (cap : Nat) (W : World) (_ : T.size ≤ maxLen) (h : StrsArg W p l.length cap l) :
    Calls Try.prog 3 #[.string T, .slice p l.length cap] W fun e w' => e = .returned (.bool true) ∧ Below W.heap.size W w' := by
  have hin := h.hin
  clear h
  have CA : Hid (∀ W, Calls Try.prog 8 #[] W fun e w' => e = .returned (.bool true) ∧ Below W.heap.size W w') := awake11_any
  go_enter Try.func3, Try.ntmps3
  by_cases hT : 300 < T.size
  · go_wp2_with fail
    refine (CA.out _).mono ?_
    rintro e w1 ⟨rfl, hb⟩
    go_wp2_with fail
    go_ret
    exact ⟨rfl, hb⟩
  by_cases hL : 20 < l.length
  · go_wp2_with fail
    refine (CA.out _).mono ?_
    rintro e w1 ⟨rfl, hb⟩
    go_wp2_with fail
    go_ret
    exact ⟨rfl, hb⟩
  go_wp2_with fail
  refine (CA.out _).mono ?_
  rintro e w1 ⟨rfl, hb1⟩
  have hin1 := hin.below hb1
  clear hin CA
  go_wp2_with fail
  go_loopw [5, 6] (fun s5 s6 wr => ∃ (st : Bool) (i : Nat), i ≤ l.length ∧ s5 = .bool st ∧ s6 = .int .i64 (i : Int) ∧ Hid (st = false → NoStar (l.take i)) ∧ Hid (∀ s ∈ l.take i, s.size ≤ 100) ∧ wr = w1) (fun _ s6 _ => l.length - (intOf s6).toNat)
  case atStart => exact ⟨false, 0, by omega, rfl, rfl, (fun _ s hs => by simp at hs), (fun s hs => by simp at hs), rfl⟩
  case round =>
    obtain ⟨st, i, hi, rfl, rfl, hst, hsm, rfl⟩ := hrel
    by_cases hlt : i < l.length
    · obtain ⟨b, off, rfl, hcc⟩ := hin1.hrow (by intro e; rw [e] at hlt; simp at hlt)
      have hc := hcc i hlt
      have hbl := World.block_lt_of_cell? _ _ hc
      clear hcc
      by_cases hbig : 100 < l[i].size
      · generalize l[i] = s at *
        go_wp2_with fail
        go_ret
        exact ⟨rfl, hb1⟩
      · have hsm2 : Hid (∀ s ∈ l.take (i + 1), s.size ≤ 100) := small_snoc hsm.out hlt (by omega)
        have hsn : Hid (NoStar (l.take i) → (42 : Int) ∉ bsI l[i] → NoStar (l.take (i + 1))) := fun h1 h2 => h1.snoc hlt h2
        clear hsm
        generalize l[i] = s at *
        go_wp2_with fail
        go_loopw [5, 7] (fun s5 s7 wv => ∃ (st2 : Bool) (j : Nat), j ≤ s.size ∧ s5 = .bool st2 ∧ s7 = .int .i64 (j : Int) ∧ Hid (st2 = false → NoStar (l.take i) ∧ (42 : Int) ∉ (bsI s).take j) ∧ wv = wr) (fun _ s7 _ => s.size - (intOf s7).toNat)
        case atStart => exact ⟨st, 0, by omega, rfl, rfl, (fun e => ⟨hst.out e, by simp⟩), rfl⟩
        case round =>
          clear hst
          obtain ⟨st2, j, hj, rfl, rfl, hst, rfl⟩ := hrel
          by_cases hjl : j < s.size
          · cases st2 with
            | true =>
              go_wp2_with fail
              go_roundw
              case rel => exact ⟨true, j + 1, by omega, rfl, by go_num, (fun e => by cases e), trivial⟩
              case measure => simp [intOf]; omega
            | false =>
              go_wp2_with fail
              go_roundw
              case rel =>
                refine ⟨_, j + 1, by omega, rfl, by go_num, fun e => ?_, trivial⟩
                obtain ⟨h1, h2⟩ := hst.out rfl
                refine ⟨h1, fun hm => ?_⟩
                have hjb : j < (bsI s).length := by rw [bsI_len]; exact hjl
                rw [List.take_succ_eq_append_getElem hjb, List.mem_append, bsI_at s j hjl hjb] at hm
                rcases hm with hm | hm
                · exact h2 hm
                · simp only [List.mem_singleton] at hm
                  rw [← hm] at e
                  simp at e
              case measure => simp [intOf]; omega
          · have hjn : j = s.size := by omega
            subst hjn
            go_wp2_with fail
            go_roundw
            case rel =>
              refine ⟨st2, i + 1, by omega, rfl, by go_num, fun e => ?_, hsm2, trivial⟩
              obtain ⟨h1, h2⟩ := hst.out e
              rw [List.take_of_length_le (by rw [bsI_len]; exact Nat.le_refl _)] at h2
              exact hsn.out h1 h2
            case measure => simp [intOf]; omega
    · have hil : i = l.length := by omega
      subst hil
      rw [List.take_length] at hst hsm
      have hsm : Hid (∀ s ∈ l, s.size ≤ 1000000) := fun s hs => Nat.le_trans (hsm.out s hs) (by omega)
      have h90 : T.size * l.length ≤ 90000 := Nat.le_trans (Nat.mul_le_mul (show T.size ≤ 300 by omega) (show l.length ≤ 20 by omega)) (by omega)
      have C1 : Hid (Calls Try.prog 9 #[.string T, .slice p l.length cap] wr fun e w' => (∃ c : ByteArray, e = .returned (.string c) ∧ bsI c = cleanS (sec l) (bsI T)) ∧ Below wr.heap.size wr w') := mclean_any T hin1 (by omega) (by omega) h90
      go_wp2_with fail
      refine C1.out.mono ?_
      rintro e w2 ⟨⟨c, rfl, hc⟩, hb2⟩
      have hin2 := hin1.below hb2
      have hb2 := hb1.trans (hb2.mono hb1.size)
      have hcs : c.size ≤ 3 * T.size := by
        have := clean_size (sec l) _ (bsI T) (Nat.le_refl _)
        rw [← hc, bsI_len, bsI_len] at this
        exact this
      have hc : Hid (bsI c = cleanS (sec l) (bsI T)) := hc
      have C2 : Hid (Calls Try.prog 10 #[.string T, .slice p l.length cap] w2 fun e w' => e = .returned (.string c) ∧ Below w2.heap.size w2 w') := by
        refine (rclean_any T hin2 (by omega) (by omega) hsm.out).mono ?_
        rintro e w' ⟨⟨c', rfl, hc'⟩, hb⟩
        rw [bsI_inj (hc'.trans hc.out.symm)]
        exact ⟨rfl, hb⟩
      clear C1 hin1 hb1
      have hbe := strEq (rfl : c = c)
      go_wp2_with fail
      refine C2.out.mono ?_
      rintro e w3 ⟨rfl, hb3⟩
      have hin3 := hin2.below hb3
      have hb3 := hb2.trans (hb3.mono hb2.size)
      have C3 : Hid (Calls Try.prog 11 #[.string T, .slice p l.length cap] w3 fun e w' => e = .returned (.bool (leaksS (sec l) (bsI T))) ∧ Below w3.heap.size w3 w') := leaks_any T hin3 (by omega) (by omega) h90
      clear C2 hin2 hb2
      go_wp2_with fail
      refine C3.out.mono ?_
      rintro e w4 ⟨rfl, hb4⟩
      have hin4 := hin3.below hb4
      have hb4 := hb3.trans (hb4.mono hb3.size)
      have C4 : Hid (Calls Try.prog 12 #[.string T, .slice p l.length cap] w4 fun e w' => e = .returned (.bool (leaksS (sec l) (bsI T))) ∧ Below w4.heap.size w4 w') := rleaks_any T hin4 (by omega) (by omega) hsm.out
      clear C3 hin3 hb3
      generalize leaksS (sec l) (bsI T) = lk at *
      go_wp2_with fail
      refine C4.out.mono ?_
      rintro e w5 ⟨rfl, hb5⟩
      have hin5 := hin4.below hb5
      have hb5 := hb4.trans (hb5.mono hb4.size)
      clear C4 hin4 hb4
      have hlk : (lk == lk) = true := by simp
      cases st with
      | true =>
        go_wp2_with fail
        go_ret
        exact ⟨by simp, hb5⟩
      | false =>
        have h900 : c.size * l.length ≤ 90000 := Nat.le_trans (Nat.mul_le_mul (show c.size ≤ 900 by omega) (show l.length ≤ 20 by omega)) (by omega)
        have C5 : Hid (Calls Try.prog 11 #[.string c, .slice p l.length cap] w5 fun e w' => e = .returned (.bool false) ∧ Below w5.heap.size w5 w') := by
          have h5 := leaks_any c hin5 (by omega) (by omega) h900
          rwa [hc.out, clean_tells (star_sec (hst.out rfl))] at h5
        go_wp2_with fail
        refine C5.out.mono ?_
        rintro e w6 ⟨rfl, hb6⟩
        have hb6 := hb5.trans (hb6.mono hb5.size)
        go_wp2_with fail
        go_ret
        exact ⟨by simp, hb6⟩
set_option maxRecDepth 100000 in
theorem markCleans_lifted (os : Os) (started : os.Started) (H : Type) (tok : TypeId × Value → H) :
    ReturnsInHanded {} Try.checked os 3 .any (Rows.markCleansSpec.pre6 tok Try.prog Try.f3 Rows.markCleansRow.domain false) (Rows.markCleansSpec.post tok Try.prog Try.f3 false true false false) := by
  refine returnsInHanded_of_change (C := Try.checked) own_knob started (by kernel_rfl) Try.func3
    (ChangeSpec.witness6 (enc := tok) (C := Try.checked) false ⟨#[], #[.string ByteArray.empty, .slice none 0 0], []⟩ 8 (by kernel_rfl) (by kernel_rfl) (by kernel_rfl) (by kernel_rfl)) ?_
  intro W base args ds gs before hval0 hW hcnd _
  have hval : ∀ (j : Nat) t v, Try.f3.params[j]? = some t → args[j]? = some v → Value.okWide Try.prog W .any base t v := hval0
  have hW' := hW
  obtain ⟨p, q, hA0, hV, rfl, hfz, hnd⟩ := hW
  have hA : DataW.TrodAll tok Try.prog W 0 (fun _ => true) true Try.f3.params.toList args.toList ds p := hA0
  rw [Try.params3] at hA hval
  obtain ⟨v0, vs0, d0, ds0, p0, q0, hargs, rfl, rfl, h0, r0⟩ := trodAll_cons hA
  obtain ⟨v1, vs1, d1, ds1, p1, q1, rfl, rfl, rfl, h1, r1⟩ := trodAll_cons r0
  obtain ⟨rfl, rfl, rfl⟩ := trodAll_nil r1
  obtain rfl : args = #[v0, v1] := by cases args; simp_all
  obtain ⟨rfl, rfl⟩ := trodVars_none hV
  obtain ⟨a0, rfl, rfl, rfl, w0⟩ := Go.ChangeMaps.open_string Try.underlying9 (hval 0 9 v0 rfl rfl) h0
  obtain ⟨a1, len1, cap1, rfl⟩ := okWide_slice Try.underlying22 (hval 1 22 v1 rfl rfl)
  have k1 := h1
  have lt1 : ∀ x ∈ p1, x.block < W.heap.size := by obtain ⟨m, hm⟩ := k1; exact DataW.trod_lt m _ _ _ hm
  obtain ⟨z1, w1⟩ : ∃ zs, StrsArg W a1 len1 cap1 zs := by obtain ⟨fuel, hf⟩ := h1; exact strs_in hf
  obtain rfl := w1.hlen
  clear hA0 hval0
  refine (cleans_walk a0 a1 z1 cap1 W w0 w1).mono fun e W' ⟨he, bel⟩ => ?_
  subst he
  exact ⟨_, rfl, _, _, _, [], _, [], hW', trodAll_mk1 (shut_bool Try.underlying4 _), (trodAll_cons_mk (Go.ChangeMaps.shut_string Try.underlying9 w0) (trodAll_cons_mk (Below.trod laid_out (by kernel_rfl) (of_decide_eq_true (by kernel_rfl)) k1 bel lt1) trodAll_mk0)), rfl, bel.frame _, fun h => by cases h⟩

set_option maxRecDepth 100000 in
theorem markCleans_holds : Rows.MarkCleansSaid :=
  OpenClaim.holds_of_wide 3 Try.f3 rfl rfl rfl rfl rfl rfl rfl ⟨rfl, rfl, rfl, rfl, rfl⟩ rfl rfl rfl rfl rfl (by kernel_rfl) Try.func3 (by kernel_rfl)
    (of_decide_eq_true (by kernel_rfl)) (by unfold Func.isWrapper; first | (rw [if_pos (by decide +kernel)]; kernel_rfl) | (rw [if_neg (by decide +kernel)]; exact ⟨rfl, rfl⟩))
    (fun os started H tok _ => markCleans_lifted os started H tok)
#print axioms markCleans_holds
end Go.Proofs.Ytgknefpefeghcaa
