/- The document's example of layer 1 holds: 300 is 172, 2. No conditions. -/
import Derived.Test.YteidjnkkjjigoaaVarB
namespace Go.Proofs.Yteidjnkkjjigoaa
open Go.RowKit

theorem enc300 : enc 300 = [172, 2] := by decide
theorem append300 (w : World) : Calls Try.prog 13 #[.slice none 0 0, .int .u64 300] w fun e w' =>
    e = .returned (.slice (some ⟨w.heap.size, 0, none⟩) 2 2) ∧ w'.cell? ⟨w.heap.size, 0, none⟩ = some (.int .u8 172) ∧ w'.cell? ⟨w.heap.size, 1, none⟩ = some (.int .u8 2) ∧ Below w.heap.size w w' := by
  refine (append_any none [] 0 300 w (Row.nil _ _) (fun _ => ⟨rfl, rfl⟩) (by simp) (by decide) (by decide)).mono ?_
  rintro e w' ⟨he, hown, hb⟩
  rw [enc300] at he hown
  refine ⟨he, ?_, ?_, hb⟩
  · exact hown.cellAt 0 (by decide)
  · exact hown.cellAt 1 (by decide)
theorem size300 (w : World) : Calls Try.prog 16 #[.int .u64 300] w fun e w' => e = .returned (.int .i64 2) ∧ w = w' := by
  refine (size_any 300 w (by decide) (by decide)).mono ?_
  rintro e w' ⟨he, hw⟩
  rw [enc300] at he
  exact ⟨he, hw⟩

set_option maxRecDepth 100000 in
theorem awake1_any (w : World) : Calls Try.prog 12 #[] w fun e w' => e = .returned (.bool true) ∧ Below w.heap.size w w' := by
  go_enter Try.func12, Try.ntmps12
  go_wp2_with (first
    | (go_at_call 13; refine (append300 _).mono ?_; rintro e w1 ⟨rfl, hc0, hc1, hb⟩)
    | (go_at_call 16; refine (size300 _).mono ?_; rintro e w2 ⟨rfl, rfl⟩))
  go_ret
  exact ⟨rfl, hb⟩
end Go.Proofs.Yteidjnkkjjigoaa
