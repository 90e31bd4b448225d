/- Of any two uint64 the law VarintApart answers true, and leaves its arguments: no number's bytes begin with another one's; a greater number hasn't fewer bytes. No conditions. -/
import Derived.Test.YteidjnkkjjigoaaVarC
import Derived.Test.YteidjnkkjjigoaaRefB
import Derived.Test.YteidjnkkjjigoaaAwake1
import Derived.Test.YteidjnkkjjigoaaFrame
namespace Go.Proofs.Yteidjnkkjjigoaa
open Go.ChangeShapes Go.WideShapes Go.ChangeAt Go.RowKit

set_option maxHeartbeats 1600000 in
set_option maxRecDepth 100000 in
theorem apart_walk (n m : Int) (w : World) (hn : 0 ≤ n ∧ n < 18446744073709551616) (hm : 0 ≤ m ∧ m < 18446744073709551616) :
    Calls Try.prog 6 #[.int .u64 n, .int .u64 m] w fun e w' => e = .returned (.bool true) ∧ Below w.heap.size w w' := by
  obtain ⟨hn0, hn1⟩ := hn
  obtain ⟨hm0, hm1⟩ := hm
  have hln := enc_len n
  have hlm := enc_len m
  by_cases hnm : n = m
  · subst hnm
    go_enter Try.func6, Try.ntmps6
    go_wp2_with fail
    refine (append_nil n _ hn0 hn1).mono ?_
    rintro e w1 ⟨rfl, hr1, hb1⟩
    go_wp2_with fail
    refine (append_nil n _ hn0 hn1).mono ?_
    rintro e w2 ⟨rfl, hr2, hb2⟩
    have t1 := (hr1.below hb2).text (enc n).length (enc n).length rfl
    have t2 := hr2.text (enc n).length (enc n).length rfl
    have hb := hb1.trans (hb2.mono hb1.size)
    clear hr1 hr2 hb1 hb2
    go_wp2_with (first
      | (go_at_call 16; refine (size_any _ _ hn0 hn1).mono ?_; rintro e w3 ⟨rfl, rfl⟩)
      | (go_at_call 12; refine (awake1_any _).mono ?_; rintro e w4 ⟨rfl, hb4⟩))
    go_ret
    exact ⟨rfl, hb.trans (hb4.mono hb.size)⟩
  · have s1 : startsB (enc n) (enc m) = false := by
      simp only [startsB, decide_eq_false_iff_not]
      intro h; exact hnm (enc_apart m n hm0 hn0 hm1 hn1 h).symm
    have s2 : startsB (enc m) (enc n) = false := by
      simp only [startsB, decide_eq_false_iff_not]
      intro h; exact hnm (enc_apart n m hn0 hm0 hn1 hm1 h)
    have e1 : (n == m) = false := by simpa using hnm
    have e2 : (n != m) = true := by simpa using hnm
    go_enter Try.func6, Try.ntmps6
    go_wp2_with fail
    refine (append_nil n _ hn0 hn1).mono ?_
    rintro e w1 ⟨rfl, hr1, hb1⟩
    go_wp2_with fail
    refine (append_nil m _ hm0 hm1).mono ?_
    rintro e w2 ⟨rfl, hr2, hb2⟩
    have hr1' := hr1.below hb2
    have hb := hb1.trans (hb2.mono hb1.size)
    clear hr1 hb1 hb2
    go_wp2_with fail
    refine (starts_any _ _ _ _ _ _ _ hr1' hr2 (Nat.le_refl _) (by omega)).mono ?_
    rintro e w3 ⟨rfl, q3, rfl⟩
    rw [s1]
    go_wp2_with fail
    refine (starts_any _ _ _ _ _ _ _ (hr2.drewN q3) (hr1'.drewN q3) (Nat.le_refl _) (by omega)).mono ?_
    rintro e w4 ⟨rfl, q4, rfl⟩
    rw [s2]
    clear hr1' hr2
    have hb' : Below w.heap.size w (w2.drewN (q3 + q4)) := Below.drewN' hb (q3 + q4)
    by_cases hlt : m < n
    · go_wp2_with (first
        | (go_at_call 12; refine (awake1_any _).mono ?_; rintro e w4 ⟨rfl, hb4⟩))
      go_ret
      exact ⟨rfl, hb'.trans (hb4.mono hb'.size)⟩
    · have hle : ((enc n).length : Int) ≤ ((enc m).length : Int) := by have := enc_mono n m (by omega); omega
      go_wp2_with fail
      refine (size_any _ _ hn0 hn1).mono ?_
      rintro e w5 ⟨rfl, rfl⟩
      go_wp2_with fail
      refine (size_any _ _ hm0 hm1).mono ?_
      rintro e w5 ⟨rfl, rfl⟩
      go_wp2_with (first
        | (go_at_call 12; refine (awake1_any _).mono ?_; rintro e w4 ⟨rfl, hb4⟩))
      go_ret
      exact ⟨rfl, hb'.trans (hb4.mono hb'.size)⟩

set_option maxRecDepth 100000 in
theorem varintApart_lifted (os : Os) (started : os.Started) (H : Type) (tok : TypeId × Value → H) :
    ReturnsInHanded {} Try.checked os 6 .any (Rows.varintApartSpec.pre6 tok Try.prog Try.f6 Rows.varintApartRow.domain false) (Rows.varintApartSpec.post tok Try.prog Try.f6 false true false false) := by
  refine returnsInHanded_of_change (C := Try.checked) own_knob started (by kernel_rfl) Try.func6
    (ChangeSpec.witness6 (enc := tok) (C := Try.checked) false ⟨#[], #[.int .u64 0, .int .u64 0], []⟩ 8 (by kernel_rfl) (by kernel_rfl) (by kernel_rfl) (by kernel_rfl)) ?_
  intro W base args ds gs before hval0 hW hcnd _
  have hval : ∀ (j : Nat) t v, Try.f6.params[j]? = some t → args[j]? = some v → Value.okWide Try.prog W .any base t v := hval0
  have hW' := hW
  obtain ⟨p, q, hA0, hV, rfl, hfz, hnd⟩ := hW
  have hA : DataW.TrodAll tok Try.prog W 0 (fun _ => true) true Try.f6.params.toList args.toList ds p := hA0
  rw [Try.params6] at hA hval
  obtain ⟨v0, vs0, d0, ds0, p0, q0, hargs, rfl, rfl, h0, r0⟩ := trodAll_cons hA
  obtain ⟨v1, vs1, d1, ds1, p1, q1, rfl, rfl, rfl, h1, r1⟩ := trodAll_cons r0
  obtain ⟨rfl, rfl, rfl⟩ := trodAll_nil r1
  obtain rfl : args = #[v0, v1] := by cases args; simp_all
  obtain ⟨rfl, rfl⟩ := trodVars_none hV
  obtain ⟨a0, rfl, rfl, rfl, w0⟩ := open_int Try.underlying23 (hval 0 23 v0 rfl rfl) h0
  obtain ⟨a1, rfl, rfl, rfl, w1⟩ := open_int Try.underlying23 (hval 1 23 v1 rfl rfl) h1
  clear hA0 hval0
  refine (apart_walk a0 a1 W (u64_of_wf w0) (u64_of_wf w1)).mono fun e W' ⟨he, bel⟩ => ?_
  subst he
  exact ⟨_, rfl, _, _, _, [], _, [], hW', trodAll_mk1 (shut_bool Try.underlying4 _), (trodAll_cons_mk (shut_int Try.underlying23 w0) (trodAll_cons_mk (shut_int Try.underlying23 w1) trodAll_mk0)), rfl, bel.frame _, fun h => by cases h⟩

theorem varintApart_holds : Rows.VarintApartSaid :=
  OpenClaim.holds_of_wide 6 Try.f6 rfl rfl rfl rfl rfl rfl rfl ⟨rfl, rfl, rfl, rfl, rfl⟩ rfl rfl rfl rfl rfl (by kernel_rfl) Try.func6 (by kernel_rfl)
    (of_decide_eq_true (by kernel_rfl)) (by unfold Func.isWrapper; first | (rw [if_pos (by decide +kernel)]; kernel_rfl) | (rw [if_neg (by decide +kernel)]; exact ⟨rfl, rfl⟩))
    (fun os started H tok _ => varintApart_lifted os started H tok)
#print axioms varintApart_holds
end Go.Proofs.Yteidjnkkjjigoaa
