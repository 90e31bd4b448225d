/- Where two ways part, in plain mathematics; a value is the same as itself. No conditions, but a value of at most 1048576 values and letters in the last. -/
import Derived.Test.YtheabeapmhoclaaVWith
import Derived.Test.YtheabeapmhoclaaVSame
namespace Go.Proofs.Ytheabeapmhoclaa
open Go.RowKit

/-- How many steps and letters. -/
def sumSt (l : List St) : Nat := (l.map (fun s => 1 + s.key.size)).sum
set_option maxRecDepth 100000 in
theorem sumSt_cons (s : St) (l : List St) : sumSt (s :: l) = 1 + s.key.size + sumSt l := by simp [sumSt]
set_option maxRecDepth 100000 in
theorem sumSt_len : ∀ l : List St, l.length ≤ sumSt l
  | [] => by simp
  | s :: l => by rw [sumSt_cons]; have := sumSt_len l; simp only [List.length_cons]; omega
set_option maxRecDepth 100000 in
theorem sumSt_mem : ∀ (l : List St), ∀ s ∈ l, 1 + s.key.size ≤ sumSt l
  | [], s, h => by cases h
  | t :: l, s, h => by
    rw [sumSt_cons]
    rcases List.mem_cons.1 h with rfl | h
    · omega
    · have := sumSt_mem l s h; omega
/-- Do two steps that are not the same lead elsewhere? -/
def leadB (s t : St) : Bool := decide (s.key ≠ t.key) || (decide (s.key = ByteArray.empty) && decide (0 ≤ s.at_) && decide (0 ≤ t.at_))
set_option maxRecDepth 100000 in
theorem puts_part {v x : V} {l m : List St} (hv : v.cl) (hx : x.cl) (k : Nat) (h1 : k < l.length) (h2 : k < m.length) (h3 : l.take k = m.take k) (h4 : l[k] ≠ m[k]) (h5 : leadB l[k] m[k] = true) (h6 : (v.withR x l).2 = 0) (h7 : (v.goTo m).2 = 0) : (v.withR x l).1.goTo m = v.goTo m := by
  have e1 : l = l.take k ++ l[k] :: l.drop (k + 1) := by rw [← List.drop_eq_getElem_cons h1, List.take_append_drop]
  have e2 : m = l.take k ++ m[k] :: m.drop (k + 1) := by rw [h3, ← List.drop_eq_getElem_cons h2, List.take_append_drop]
  have hl : l[k].key ≠ m[k].key ∨ l[k].key = ByteArray.empty ∧ 0 ≤ l[k].at_ ∧ 0 ≤ m[k].at_ := by
    unfold leadB at h5
    simpa [and_assoc] using h5
  have := withR_part hx l[k] m[k] (l.drop (k + 1)) (m.drop (k + 1)) h4 hl (l.take k) hv (by rw [← e1]; exact h6) (by rw [← e2]; exact h7)
  rw [← e1, ← e2] at this
  exact this
set_option maxRecDepth 100000 in
theorem withR_null {v x : V} (l : List St) (h : (v.withR x l).2 ≠ 0) : (v.withR x l).1 = V.null := by
  cases l with
  | nil => exact absurd rfl h
  | cons s r =>
    rw [V.withR] at h ⊢
    split at h <;> rename_i h1
    · rw [if_pos h1, put_err h]
    · rw [if_neg h1]
      split at h <;> rename_i h2
      · rw [if_pos h2]
        split at h <;> rename_i h3
        · rw [if_pos h3, put_err h]
        · rw [if_neg h3]
      · rw [if_neg h2]
set_option maxRecDepth 100000 in
theorem goTo_bulk : ∀ {v : V} (_ : v.cl) (l : List St), (v.goTo l).1.bulk ≤ v.bulk
  | v, h, [] => Nat.le_refl _
  | v, h, s :: r => by
    unfold V.goTo
    split
    · exact Nat.le_trans (goTo_bulk (follow_cl h s) r) (follow_bulk h s)
    · rw [bulk_null]; exact v.bulk_pos
set_option maxRecDepth 100000 in
theorem same_self {w : World} {a b : Value} {v : V} (ra : Rep w (fun _ => True) a v) (rb : Rep w (fun _ => True) b v) (hbk : v.bulk ≤ 1048576) :
    Calls Try.prog 28 #[.agg #[a], .agg #[b]] w fun e w' => e = .returned (.bool true) ∧ Below w.heap.size w w' := by
  refine (same_any ra rb hbk).mono ?_
  rintro e w' ⟨⟨r, rfl, hr⟩, hb⟩
  obtain rfl := hr.2 rfl
  exact ⟨rfl, hb⟩
end Go.Proofs.Ytheabeapmhoclaa
