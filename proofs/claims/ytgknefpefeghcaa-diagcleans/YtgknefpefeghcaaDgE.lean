/- Whether two notes are the same: what == of them answers. No conditions; no function of the program. -/
import Derived.Test.YtgknefpefeghcaaDgM
namespace Go.Proofs.Ytgknefpefeghcaa
open Go.RowKit Go.Maps
/-- Are two notes the same? -/
def sameNt (s t : Bool × ByteArray) : Bool := decide (s.1 = t.1) && decide (s.2 = t.2)
set_option maxRecDepth 100000 in
theorem sameNt_iff (s t : Bool × ByteArray) : sameNt s t = true ↔ s = t := by
  obtain ⟨a, i⟩ := s
  obtain ⟨b, j⟩ := t
  unfold sameNt
  rw [Bool.and_eq_true, decide_eq_true_iff, decide_eq_true_iff, Prod.mk.injEq]
set_option maxRecDepth 100000 in
theorem list_text {a b : ByteArray} (h : a.toList = b.toList) : a = b := by
  rw [ByteArray.toList_eq, ByteArray.toList_eq] at h
  cases a; cases b
  simp only [ByteArray.mk.injEq]
  exact Array.toList_inj.1 h
set_option maxRecDepth 100000 in
theorem same_ite {α : Type} (x y : Bool × ByteArray) (a b : α) : (if x.1 = y.1 then if x.2.toList = y.2.toList then a else b else b) = if sameNt x y = true then a else b := by
  by_cases h1 : x.1 = y.1
  · rw [if_pos h1]
    by_cases h2 : x.2.toList = y.2.toList
    · rw [if_pos h2, if_pos ((sameNt_iff x y).2 (Prod.ext h1 (list_text h2)))]
    · rw [if_neg h2, if_neg (fun h => h2 (by rw [(sameNt_iff x y).1 h]))]
  · rw [if_neg h1, if_neg (fun h => h1 (by rw [(sameNt_iff x y).1 h]))]
end Go.Proofs.Ytgknefpefeghcaa
