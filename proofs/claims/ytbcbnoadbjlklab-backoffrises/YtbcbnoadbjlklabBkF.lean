/- The document's example of layer 15: awake answers true; a rule that came in. No conditions. -/
import Derived.Test.YtbcbnoadbjlklabBkE
import Derived.ProofKit
import Derived.OpenShut
import Derived.Lib.SmallJoins
namespace Go.Proofs.Ytbcbnoadbjlklab
open Go.RowKit Go.ChangeShapes Go.WideShapes Go.ChangeAt Go.Joins

set_option maxRecDepth 100000 in
theorem own_knob : ownKnob Try.prog.godebug = none := by kernel_rfl
set_option maxRecDepth 100000 in
theorem laid_out : laidOutB Try.prog = true := by kernel_rfl
set_option maxRecDepth 100000 in
theorem i64_of_wf {n : Int} (h : (Lit.int .i64 n).wf = true) : I64 n := by
  have := bounds_i64 h
  simp only [I64]; omega
section
variable {H : Type} {tok : TypeId × Value → H} {W : World} {base : Nat} {sp : Nat → Bool} {held : Bool}
set_option maxRecDepth 100000 in
theorem rule_arg {r : Reach} {b0 : Nat} {v0 : Value} {d : DataW H} {ps : List MemPlace} (hval : Value.okWide Try.prog W r b0 23 v0) (h : DataW.Trod tok Try.prog W base sp held 23 v0 d ps) :
    ∃ b c t m : Int, v0 = .agg #[.int .i64 b, .int .i64 c, .int .i64 t, .int .i64 m] := by
  obtain ⟨c0, c1, c2, c3, y0, y1, y2, y3, n, rfl, -, -, h0, h1, h2, h3⟩ := open_agg4 Try.underlying23 (by kernel_rfl) (by kernel_rfl) hval h
  obtain ⟨a0, e0, -, -⟩ := DataW.trod_int (k := .i64) (by kernel_rfl) h0
  obtain ⟨a1, e1, -, -⟩ := DataW.trod_int (k := .i64) (by kernel_rfl) h1
  obtain ⟨a2, e2, -, -⟩ := DataW.trod_int (k := .i64) (by kernel_rfl) h2
  obtain ⟨a3, e3, -, -⟩ := DataW.trod_int (k := .i64) (by kernel_rfl) h3
  simp at e0 e1 e2 e3
  subst e0 e1 e2 e3
  exact ⟨_, _, _, _, rfl⟩
end
set_option maxRecDepth 100000 in
set_option maxHeartbeats 800000 in
theorem awake15_any (w : World) : Calls Try.prog 14 #[] w fun e w' => e = .returned (.bool true) ∧ Below w.heap.size w w' := by
  have h0 := Rul.start w 2 10 5 100
  have CR : Hid (∀ W, Calls Try.prog 11 #[.agg #[.int .i64 2, .int .i64 10, .int .i64 5, .int .i64 100]] W fun e w' => e = .returned (.bool true) ∧ Below W.heap.size W w') := fun W => right_any 2 10 5 100 W
  have C1 : Hid (∀ W, Calls Try.prog 12 #[.agg #[.int .i64 2, .int .i64 10, .int .i64 5, .int .i64 100], .int .i64 1] W fun e w' => e = .returned (.int .i64 2) ∧ Below W.heap.size W w') := fun W => delay_any 2 10 5 100 1 ⟨by decide, by decide⟩ W
  have C3 : Hid (∀ W, Calls Try.prog 12 #[.agg #[.int .i64 2, .int .i64 10, .int .i64 5, .int .i64 100], .int .i64 3] W fun e w' => e = .returned (.int .i64 8) ∧ Below W.heap.size W w') := fun W => delay_any 2 10 5 100 3 ⟨by decide, by decide⟩ W
  have C4 : Hid (∀ W, Calls Try.prog 12 #[.agg #[.int .i64 2, .int .i64 10, .int .i64 5, .int .i64 100], .int .i64 4] W fun e w' => e = .returned (.int .i64 10) ∧ Below W.heap.size W w') := fun W => delay_any 2 10 5 100 4 ⟨by decide, by decide⟩ W
  have C5 : Hid (∀ W, Calls Try.prog 13 #[.agg #[.int .i64 2, .int .i64 10, .int .i64 5, .int .i64 100], .int .i64 5] W fun e w' => e = .returned (.int .i64 34) ∧ Below W.heap.size W w') := fun W => total_any 2 10 5 100 5 ⟨by decide, by decide⟩ W
  go_enter Try.func14, Try.ntmps14
  go_wp2_with fail
  refine (CR.out _).mono ?_
  rintro e w1 ⟨rfl, hb⟩
  have h1 := h0.below hb
  clear h0 hb
  obtain ⟨z0, z1, z2, z3⟩ := h1.cells
  go_wp2_with fail
  refine (C1.out _).mono ?_
  rintro e w2 ⟨rfl, hb⟩
  have h2 := h1.below hb
  clear h1 hb z0 z1 z2 z3
  obtain ⟨z0, z1, z2, z3⟩ := h2.cells
  go_wp2_with fail
  refine (C3.out _).mono ?_
  rintro e w3 ⟨rfl, hb⟩
  have h3 := h2.below hb
  clear h2 hb z0 z1 z2 z3
  obtain ⟨z0, z1, z2, z3⟩ := h3.cells
  go_wp2_with fail
  refine (C4.out _).mono ?_
  rintro e w4 ⟨rfl, hb⟩
  have h4 := h3.below hb
  clear h3 hb z0 z1 z2 z3
  obtain ⟨z0, z1, z2, z3⟩ := h4.cells
  go_wp2_with fail
  refine (C5.out _).mono ?_
  rintro e w5 ⟨rfl, hb⟩
  have hB := (h4.below hb).2
  clear h4 hb z0 z1 z2 z3
  go_wp2_with fail
  go_ret
  exact ⟨rfl, hB⟩
end Go.Proofs.Ytbcbnoadbjlklab
