/- What Right answers of any rule: whether it may be. It only reads. No conditions. -/
import Derived.Test.YtbcbnoadbjlklabBkB
namespace Go.Proofs.Ytbcbnoadbjlklab
open Go.RowKit

set_option maxRecDepth 100000 in
theorem right_near (b c t m : Int) : rightB b c t m = decide (b = brought 1 (brought 1 1000000 c) b ∧ c = brought 1 1000000 c ∧ t = brought 1 100 t ∧ m = brought 1 1000000 m) := by
  refine decide_eq_decide.2 ?_
  simp only [brought]
  omega
set_option maxRecDepth 100000 in
theorem four_ifs {α : Type} (A B C D : Prop) [Decidable A] [Decidable B] [Decidable C] [Decidable D] [Decidable (A ∧ B ∧ C ∧ D)] (f : Bool → α) :
    (if A then if B then if C then if D then f true else f false else f false else f false else f false) = f (decide (A ∧ B ∧ C ∧ D)) := by
  by_cases a : A <;> by_cases b : B <;> by_cases c : C <;> by_cases d : D <;> simp [a, b, c, d]
set_option maxRecDepth 100000 in
theorem right_any (b c t m : Int) (w : World) : Calls Try.prog 11 #[.agg #[.int .i64 b, .int .i64 c, .int .i64 t, .int .i64 m]] w fun e w' =>
    e = .returned (.bool (rightB b c t m)) ∧ Below w.heap.size w w' := by
  have hR : Hid (rightB b c t m = decide (b = brought 1 (brought 1 1000000 c) b ∧ c = brought 1 1000000 c ∧ t = brought 1 100 t ∧ m = brought 1 1000000 m)) := right_near b c t m
  have h0 := Rul.start w b c t m
  go_enter Try.func11, Try.ntmps11
  go_wp2_with fail
  generalize w.alloc _ = W0 at *
  refine wp_region_held_drew (S := fun w' => Rul w w' b c t m) (by kernel_rfl) h0.drew (fun hSS => ?_)
  refine wpAnyH_take (i := 0) (v := ?_) rfl (by kernel_rfl) (by kernel_rfl) (by kernel_rfl) (fun _ _ _ h => h) (Or.inl ⟨by rfl, ?_⟩) hSS ?_
  rotate_left
  · intro wz hSz
    obtain ⟨z0, z1, z2, z3⟩ := hSz.cells
    go_simp
    try with_reducible rfl
  simp only [List.getElem_toArray, List.getElem_cons_zero, Act.put, List.setIfInBounds_toArray, List.set_cons_zero, List.set_cons_succ]
  refine wpAnyH_take (i := 1) (v := ?_) rfl (by kernel_rfl) (by kernel_rfl) (by kernel_rfl) (fun _ _ _ h => h) (Or.inl ⟨by rfl, ?_⟩) hSS ?_
  rotate_left
  · intro wz hSz
    obtain ⟨z0, z1, z2, z3⟩ := hSz.cells
    go_simp
    try with_reducible rfl
  simp only [List.getElem_toArray, List.getElem_cons_zero, List.getElem_cons_succ, Act.put, List.setIfInBounds_toArray, List.set_cons_zero, List.set_cons_succ]
  refine wpAnyH_ready (rs := [2]) (by kernel_rfl) (by simp) (AllReadyH.cons rfl (fun K hK => ?_) AllReadyH.nil)
  go_simp
  go_at_call 20
  refine (nearest_any _ _ _ _ _).mono ?_
  rintro e wk ⟨rfl, hbk⟩
  go_simp
  refine hK.out _ _ (hSS.below hbk) (fun hSS => ?_)
  clear hK
  refine wpAnyH_take (i := 3) (v := .bool (rightB b c t m)) rfl (by kernel_rfl) (by kernel_rfl) (by kernel_rfl) (fun _ _ _ h => h) (Or.inl ⟨by rfl, ?_⟩) hSS ?_
  · intro wz hSz
    go_simp
    rw [hR.out]
    exact four_ifs _ _ _ _ (fun x => Result.ok (Next.value (Value.bool x)) wz)
  simp only [List.getElem_toArray, List.getElem_cons_zero, List.getElem_cons_succ, Act.put, List.setIfInBounds_toArray, List.set_cons_zero, List.set_cons_succ]
  refine wpAnyH_take (i := 4) (v := ?_) rfl (by kernel_rfl) (by kernel_rfl) (by kernel_rfl) (fun _ _ _ h => h) (Or.inl ⟨by rfl, ?_⟩) hSS ?_
  rotate_left
  · intro wz hSz
    go_simp
    try with_reducible rfl
  simp only [List.getElem_toArray, List.getElem_cons_zero, List.getElem_cons_succ, Act.put, List.setIfInBounds_toArray, List.set_cons_zero, List.set_cons_succ]
  refine wpAnyH_done (by kernel_rfl) ?_ _
  go_wp2_with fail
  go_ret
  exact ⟨rfl, hSS.2⟩
end Go.Proofs.Ytbcbnoadbjlklab
