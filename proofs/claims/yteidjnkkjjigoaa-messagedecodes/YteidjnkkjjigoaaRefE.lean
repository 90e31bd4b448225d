/- What the document's Fits answers. No conditions. -/
import Derived.Test.YteidjnkkjjigoaaMsgB
namespace Go.Proofs.Yteidjnkkjjigoaa
open Go.RowKit

/-- May a field stand behind another one? -/
def fitsB (f l : Fld) : Bool := if f.tag < 1 ∨ 1000 < f.tag ∨ mixedB f = true ∨ f.tag < l.tag then false else decide (l.tag < f.tag) || f.isB && l.isB

set_option maxHeartbeats 3200000 in
set_option maxRecDepth 100000 in
theorem rfits_any (f : Fld) (fa : Option Addr) (fc : Nat) (l : Fld) (la : Option Addr) (lc : Nat) (w : World) :
    Calls Try.prog 44 #[f.val fa fc, l.val la lc] w fun e w' => e = .returned (.bool (fitsB f l)) ∧ Below w.heap.size w w' := by
  have hb : ∀ o o', Below w.heap.size w ((w.alloc o).alloc o') := fun o o' => ((Below.refl _ _).alloc (Nat.le_refl _) _).alloc (by simp) _
  obtain ⟨tag, isB, n, b⟩ := f
  obtain ⟨ltag, lB, ln, lb⟩ := l
  unfold Fld.val
  by_cases h1 : tag < 1
  · have E : Hid (fitsB ⟨tag, isB, n, b⟩ ⟨ltag, lB, ln, lb⟩ = false) := by show fitsB _ _ = _; simp [fitsB, h1]
    go_enter Try.func44, Try.ntmps44
    go_wp2
    go_ret
    exact ⟨ret_bool E.out.symm, hb _ _⟩
  by_cases h2 : 1000 < tag
  · have E : Hid (fitsB ⟨tag, isB, n, b⟩ ⟨ltag, lB, ln, lb⟩ = false) := by show fitsB _ _ = _; simp [fitsB, h2]
    go_enter Try.func44, Try.ntmps44
    go_wp2
    go_ret
    exact ⟨ret_bool E.out.symm, hb _ _⟩
  have h1' : 1 ≤ tag := by omega
  have h2' : tag ≤ 1000 := by omega
  by_cases h3 : mixedB ⟨tag, isB, n, b⟩ = true
  · have E : Hid (fitsB ⟨tag, isB, n, b⟩ ⟨ltag, lB, ln, lb⟩ = false) := by show fitsB _ _ = _; simp [fitsB, h3]
    cases isB
    · have hp : 0 < b.length := by simpa [mixedB] using h3
      clear h3
      go_enter Try.func44, Try.ntmps44
      go_wp2
      go_ret
      exact ⟨ret_bool E.out.symm, hb _ _⟩
    · have hp : (n != 0) = true := by simpa [mixedB] using h3
      clear h3
      go_enter Try.func44, Try.ntmps44
      go_wp2
      go_ret
      exact ⟨ret_bool E.out.symm, hb _ _⟩
  by_cases h4 : tag < ltag
  · have E : Hid (fitsB ⟨tag, isB, n, b⟩ ⟨ltag, lB, ln, lb⟩ = false) := by show fitsB _ _ = _; simp [fitsB, h4]
    cases isB
    · have hp : ¬ 0 < b.length := by simpa [mixedB] using h3
      clear h3
      go_enter Try.func44, Try.ntmps44
      go_wp2
      go_ret
      exact ⟨ret_bool E.out.symm, hb _ _⟩
    · have hp : (n != 0) = false := by simpa [mixedB] using h3
      clear h3
      go_enter Try.func44, Try.ntmps44
      go_wp2
      go_ret
      exact ⟨ret_bool E.out.symm, hb _ _⟩
  have E : Hid (fitsB ⟨tag, isB, n, b⟩ ⟨ltag, lB, ln, lb⟩ = (decide (ltag < tag) || isB && lB)) := by
    show fitsB _ _ = _
    have : ¬ (tag < 1 ∨ 1000 < tag ∨ mixedB ⟨tag, isB, n, b⟩ = true ∨ tag < ltag) := by rintro (h | h | h | h) <;> contradiction
    simp only [fitsB, if_neg this]
  cases isB
  · have hp : ¬ 0 < b.length := by simpa [mixedB] using h3
    clear h3
    by_cases h5 : ltag < tag
    · go_enter Try.func44, Try.ntmps44
      go_wp2
      go_ret
      exact ⟨ret_bool (by rw [E.out]; simp [h5]), hb _ _⟩
    · go_enter Try.func44, Try.ntmps44
      go_wp2
      go_ret
      exact ⟨ret_bool (by rw [E.out]; simp [h5]), hb _ _⟩
  · have hp : (n != 0) = false := by simpa [mixedB] using h3
    clear h3
    by_cases h5 : ltag < tag
    · go_enter Try.func44, Try.ntmps44
      go_wp2
      go_ret
      exact ⟨ret_bool (by rw [E.out]; simp [h5]), hb _ _⟩
    · go_enter Try.func44, Try.ntmps44
      go_wp2
      go_ret
      exact ⟨ret_bool (by rw [E.out, decide_eq_false (by omega)]; simp), hb _ _⟩
end Go.Proofs.Yteidjnkkjjigoaa
