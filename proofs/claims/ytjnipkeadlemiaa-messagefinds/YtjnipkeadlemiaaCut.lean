/- Cuts of a slice of bytes: where they lie, and what they show. No conditions; no function of the program. -/
import Derived.Test.YtjnipkeadlemiaaRow
namespace Go.Proofs.Ytjnipkeadlemiaa
open Go.RowKit

/-- Where a cut of a slice of bytes lies. -/
def cutA (a : Option Addr) (cap i : Nat) : Option Addr := if cap = i then a else a.map (·.add (i * 1))
set_option maxRecDepth 100000 in
theorem cutA_row {zs : List Int} {a : Option Addr} {cap : Nat} (i k : Nat) (hc : zs.length ≤ cap) (W : World) (h : Row W a zs) : Row W (cutA a cap i) ((zs.drop i).take k) := by
  unfold cutA
  by_cases hz : (zs.drop i).take k = []
  · rw [hz]; exact Row.nil _ _
  have hz1 : zs.drop i ≠ [] := by intro e; rw [e] at hz; simp at hz
  have hz2 : zs ≠ [] := by intro e; rw [e] at hz1; simp at hz1
  have hi : i < zs.length := by
    by_cases h : i < zs.length
    · exact h
    · exact absurd (List.drop_eq_nil_of_le (by omega)) hz1
  rw [if_neg (by omega)]
  obtain ⟨b, off, rfl, hc'⟩ := h.2 hz2
  have e : (some (⟨b, off, none⟩ : Addr)).map (·.add (i * 1)) = some ⟨b, off + i, none⟩ := by simp [Addr.add_lit]
  rw [e]
  exact (Row.drop h i).take k
set_option maxRecDepth 100000 in
theorem cutA_nil {a : Option Addr} {cap n : Nat} (i : Nat) (hnil : a = none → n = 0 ∧ cap = 0) (h : cutA a cap i = none) : n = 0 ∧ cap = 0 := by
  unfold cutA at h
  split at h
  · exact hnil h
  · exact hnil (by simpa using h)
set_option maxRecDepth 100000 in
theorem size8 : ∀ W, (sizeOf (Try.prog.elem 29)).run Try.prog W = .ok 1 W := fun W => by
  have e : Try.prog.elem 29 = 5 := by kernel_rfl
  rw [e]; simp [go_sem]
set_option maxRecDepth 100000 in
theorem run_cut_lh (a : Option Addr) (n cap i j : Nat) (x y : Int) (hx : x = i) (hy : y = j) (hij : i ≤ j) (hj : j ≤ cap) (W : World) :
    (Instr.slice 29 (.slice a n cap) (some (.int .i64 x)) (some (.int .i64 y)) none).run Try.prog W = .ok (.slice (cutA a cap i) (j - i) (cap - i)) W := by
  subst hx hy
  rw [run_slice_lh W 29 a n cap Try.underlying29 .i64 .i64 (i : Int) (j : Int) (by omega) (by omega) (by omega), size8]
  simp [Result.andThen, sliced, cutA]
set_option maxRecDepth 100000 in
theorem run_cut_l (a : Option Addr) (n cap i : Nat) (x : Int) (hx : x = i) (hi : i ≤ n) (W : World) :
    (Instr.slice 29 (.slice a n cap) (some (.int .i64 x)) none none).run Try.prog W = .ok (.slice (cutA a cap i) (n - i) (cap - i)) W := by
  subst hx
  rw [run_slice_l W 29 a n cap Try.underlying29 .i64 (i : Int) (by omega) (by omega), size8]
  simp [Result.andThen, sliced, cutA]
end Go.Proofs.Ytjnipkeadlemiaa
