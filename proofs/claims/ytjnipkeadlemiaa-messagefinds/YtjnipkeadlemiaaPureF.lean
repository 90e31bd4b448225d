/- What the law MessageFinds counts, field by field. No function of the program. -/
import Derived.Test.YtjnipkeadlemiaaFindB
import Derived.Test.YtjnipkeadlemiaaFindC
import Derived.Test.YtjnipkeadlemiaaFindD
namespace Go.Proofs.Ytjnipkeadlemiaa

set_option maxRecDepth 100000 in
theorem idxF_snoc (p : Fld → Bool) (fs : List Fld) (f : Fld) : idxF p (fs ++ [f]) = if 0 ≤ idxF p fs then idxF p fs else if p f then (fs.length : Int) else -1 := by
  by_cases h : fs.any p = true
  · have h1 : (fs ++ [f]).any p = true := by simp only [List.any_append, h, Bool.true_or]
    have hlt := any_lt h
    have h2 : (fs ++ [f]).findIdx p = fs.findIdx p := by rw [List.findIdx_append, if_pos hlt]
    have h3 : idxF p fs = ((fs.findIdx p : Nat) : Int) := by rw [idxF, if_pos h]
    rw [idxF, if_pos h1, h2, h3, if_pos (by omega)]
  · have h0 : fs.any p = false := by simpa using h
    have h3 : idxF p fs = -1 := by rw [idxF, if_neg h]
    have hlen : fs.findIdx p = fs.length := by
      apply List.findIdx_eq_length_of_false
      intro x hx
      cases hp : p x with
      | false => rfl
      | true => rw [List.any_eq_true.2 ⟨x, hx, hp⟩] at h0; cases h0
    rw [h3, if_neg (by omega)]
    cases hp : p f with
    | true =>
      have h1 : (fs ++ [f]).any p = true := by simp [hp]
      have h2 : (fs ++ [f]).findIdx p = fs.length := by
        rw [List.findIdx_append, hlen, if_neg (by omega)]
        simp [List.findIdx_cons, hp]
      rw [idxF, if_pos h1, h2]; rfl
    | false =>
      have h1 : ¬ (fs ++ [f]).any p = true := by simp only [List.any_append, h0, List.any_cons, hp, List.any_nil]; simp
      rw [idxF, if_neg h1]; rfl
set_option maxRecDepth 100000 in
theorem manyB_snoc (tag : Int) (fs : List Fld) (f : Fld) : manyB tag (fs ++ [f]) = manyB tag fs ++ (if fitB tag true f then [f.b] else []) := by
  simp only [manyB, List.filter_append, List.map_append]
  congr 1
  by_cases h : fitB tag true f = true <;> simp [h]
set_option maxRecDepth 100000 in
theorem manyB_at (tag : Int) (fs : List Fld) (i : Nat) (hi : i < fs.length) (h : fitB tag true fs[i] = true) : (manyB tag fs)[(manyB tag (fs.take i)).length]? = some fs[i].b := by
  have e : manyB tag fs = manyB tag (fs.take i) ++ (fs[i].b :: manyB tag (fs.drop (i + 1))) := by
    have e1 : fs = fs.take i ++ fs[i] :: fs.drop (i + 1) := by rw [← List.drop_eq_getElem_cons hi, List.take_append_drop]
    conv => lhs; rw [e1]
    simp only [manyB, List.filter_append, List.filter_cons, h, if_true, List.map_append, List.map_cons]
  rw [e, List.getElem?_append_right (Nat.le_refl _)]
  simp
set_option maxRecDepth 100000 in
theorem manyB_any (tag : Int) (fs : List Fld) : fs.any (fitB tag true) = decide (0 < (manyB tag fs).length) := by
  induction fs with
  | nil => rfl
  | cons f fs ih =>
    rw [List.any_cons]
    have e : manyB tag (f :: fs) = (if fitB tag true f then [f.b] else []) ++ manyB tag fs := by
      simp only [manyB, List.filter_cons]
      by_cases h : fitB tag true f = true <;> simp [h]
    cases h : fitB tag true f with
    | true => rw [e, h]; simp
    | false => rw [e, h, ih]; simp
set_option maxRecDepth 100000 in
theorem manyB_first (tag : Int) (fs : List Fld) (h : fs.any (fitB tag true) = true) : (manyB tag fs)[0]? = some (bytB (fitB tag true) fs) := by
  have hlt := any_lt h
  have hp : fitB tag true (fs[fs.findIdx (fitB tag true)]'hlt) = true := List.findIdx_getElem
  have h0 : manyB tag (fs.take (fs.findIdx (fitB tag true))) = [] := by
    simp only [manyB, List.map_eq_nil_iff, List.filter_eq_nil_iff]
    intro f hf
    obtain ⟨j, hj, rfl⟩ := List.getElem_of_mem hf
    simp only [List.length_take] at hj
    rw [List.getElem_take]
    have := List.not_of_lt_findIdx (p := fitB tag true) (xs := fs) (i := j) (by omega)
    simpa using this
  have := manyB_at tag fs _ hlt hp
  rw [h0] at this
  simp only [List.length_nil] at this
  rw [this]
  simp [bytB, List.getElem?_eq_getElem hlt]
end Go.Proofs.Ytjnipkeadlemiaa
