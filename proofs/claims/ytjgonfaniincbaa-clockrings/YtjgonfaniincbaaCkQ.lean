/- The order of alarms as the library's sort wants it; rows of alarms in memory, sorted. No conditions. -/
import Derived.Test.YtjgonfaniincbaaCkS
import Derived.Shelf.SlSortCmp.WholeK
import Derived.Laws.OwnMore
namespace Go.Proofs.Ytjgonfaniincbaa
open Go.RowKit Go.Sort Go.Shelf Go.Lib

set_option maxRecDepth 100000 in
theorem cfA_lt (x y : Int × ByteArray) : cfA x y < 0 ↔ ltA x y := by
  unfold cfA cmpI cmpS ltA
  by_cases h1 : x.1 < y.1
  · simp [h1]
  · by_cases h2 : y.1 < x.1
    · simp only [if_neg h1, if_pos h2]
      constructor
      · intro h; simp at h
      · rintro (h | ⟨h, -⟩) <;> omega
    · have e : x.1 = y.1 := by omega
      simp only [if_neg h1, if_neg h2]
      by_cases h3 : x.2.data.toList < y.2.data.toList
      · simp [h3, e]
      · by_cases h4 : y.2.data.toList < x.2.data.toList
        · simp only [if_neg h3, if_pos h4]
          constructor
          · intro h; simp at h
          · rintro (h | ⟨-, h⟩)
            · omega
            · exact absurd h h3
        · simp only [if_neg h3, if_neg h4]
          constructor
          · intro h; simp at h
          · rintro (h | ⟨-, h⟩)
            · omega
            · exact absurd h h3
set_option maxRecDepth 100000 in
theorem ltOf_eq (x y : Int × ByteArray) : ltOf cfA x y = decide (ltA x y) := decide_eq_decide.2 (cfA_lt x y)
set_option maxRecDepth 100000 in
theorem swoA : SWO (ltOf cfA) where
  irrefl x := by rw [ltOf_eq]; exact decide_eq_false (ltA_irrefl x)
  trans x y z h1 h2 := by
    rw [ltOf_eq] at *
    exact decide_eq_true (ltA_trans (of_decide_eq_true h1) (of_decide_eq_true h2))
  ntrans x y z h1 h2 := by
    rw [ltOf_eq] at *
    have h1 := of_decide_eq_false h1
    have h2 := of_decide_eq_false h2
    refine decide_eq_false (fun h => ?_)
    have n1 : ¬ x.1 < y.1 := fun g => h1 (Or.inl g)
    have n2 : ¬ y.1 < z.1 := fun g => h2 (Or.inl g)
    rcases h with h | ⟨e, h⟩
    · omega
    · have e1 : x.1 = y.1 := by omega
      have e2 : y.1 = z.1 := by omega
      have g1 : y.2.data.toList ≤ x.2.data.toList := List.not_lt.1 (fun g => h1 (Or.inr ⟨e1, g⟩))
      have g2 : z.2.data.toList ≤ y.2.data.toList := List.not_lt.1 (fun g => h2 (Or.inr ⟨e2, g⟩))
      exact List.not_lt.2 (List.le_trans g2 g1) h
set_option maxRecDepth 100000 in
/-- Two rising lists of the same alarms are one. -/
theorem rising_one : ∀ {l l' : List (Int × ByteArray)}, l.Pairwise ltA → l'.Pairwise ltA → l.Perm l' → l = l'
  | [], l', _, _, hp => (List.nil_perm.1 hp).symm
  | x :: r, [], _, _, hp => by simpa using hp.length_eq
  | x :: r, y :: s, h, h', hp => by
    obtain ⟨h1, h2⟩ := List.pairwise_cons.1 h
    obtain ⟨g1, g2⟩ := List.pairwise_cons.1 h'
    have e : x = y := by
      rcases List.mem_cons.1 (hp.mem_iff.1 (List.mem_cons_self ..)) with e | hx
      · exact e
      · rcases List.mem_cons.1 (hp.mem_iff.2 (List.mem_cons_self ..)) with e | hy
        · exact e.symm
        · exact (ltA_asymm (h1 y hy) (g1 x hx)).elim
    subst e
    rw [rising_one h2 g2 (List.Perm.cons_inv hp)]
/-- An alarm's two cells; a row's. -/
def encA (x : Int × ByteArray) : List Value := [.int .i64 x.1, .string x.2]
def flatA : List (Int × ByteArray) → List Value
  | [] => []
  | x :: r => .int .i64 x.1 :: .string x.2 :: flatA r
set_option maxRecDepth 100000 in
theorem flatA_snoc (l : List (Int × ByteArray)) (x : Int × ByteArray) : flatA (l ++ [x]) = flatA l ++ [.int .i64 x.1, .string x.2] := by
  induction l with
  | nil => rfl
  | cons y r ih => simp only [List.cons_append, flatA, ih]
set_option maxRecDepth 100000 in
theorem flatA_len (l : List (Int × ByteArray)) : (flatA l).length = l.length * 2 := by
  induction l with
  | nil => rfl
  | cons y r ih => simp only [flatA, List.length_cons, ih]; omega
set_option maxRecDepth 100000 in
theorem flatA_get : ∀ (l : List (Int × ByteArray)) (j : Nat) (hj : j < l.length), (flatA l)[j * 2]? = some (.int .i64 l[j].1) ∧ (flatA l)[j * 2 + 1]? = some (.string l[j].2)
  | x :: r, 0, _ => ⟨rfl, rfl⟩
  | x :: r, j + 1, hj => by
    have := flatA_get r j (by simpa using hj)
    rw [show (j + 1) * 2 = j * 2 + 2 by omega]
    exact this
/-- A slice of alarms of the call's own, to a reader. -/
def ARow (W : World) (base : Nat) (v : Value) (l : List (Int × ByteArray)) : Prop :=
  (l = [] ∧ ∃ p c, v = .slice p 0 c) ∨ ∃ g c, l ≠ [] ∧ v = .slice (some ⟨g, 0, none⟩) l.length c ∧ base ≤ g ∧ g < W.heap.size ∧ ∀ (j : Nat) (hj : j < l.length), W.cell? ⟨g, j * 2, none⟩ = some (.int .i64 l[j].1) ∧ W.cell? ⟨g, j * 2 + 1, none⟩ = some (.string l[j].2)
set_option maxRecDepth 100000 in
theorem ARow.below {W W' : World} {base : Nat} {v : Value} {l : List (Int × ByteArray)} (h : ARow W base v l) (hb : Below W.heap.size W W') : ARow W' base v l := by
  rcases h with h | ⟨g, c, h1, h2, h3, h4, h5⟩
  · exact Or.inl h
  · refine Or.inr ⟨g, c, h1, h2, h3, Nat.lt_of_lt_of_le h4 hb.size, fun j hj => ?_⟩
    obtain ⟨y0, y1⟩ := h5 j hj
    exact ⟨(hb.cell (p := ⟨g, j * 2, none⟩) h4).trans y0, (hb.cell (p := ⟨g, j * 2 + 1, none⟩) h4).trans y1⟩
set_option maxRecDepth 100000 in
theorem ARow.mono {W : World} {base base' : Nat} {v : Value} {l : List (Int × ByteArray)} (h : ARow W base v l) (hb : base' ≤ base) : ARow W base' v l := by
  rcases h with h | ⟨g, c, h1, h2, h3, h4⟩
  · exact Or.inl h
  · exact Or.inr ⟨g, c, h1, h2, by omega, h4⟩
set_option maxRecDepth 100000 in
theorem holds_own {W : World} {g : Nat} {cur : Array Value} {e : TypeId} {l : List (Int × ByteArray)} (hb : W.heap[g]? = some (.cells cur e (0, 0))) (ht : cur.toList.take (l.length * 2) = flatA l) : HoldsK encA 2 W g 0 l.toArray := by
  intro j hj
  rw [size_flatK] at hj
  have hj' : j < l.length * 2 := by simpa using hj
  refine ⟨?_, by simp [World.frozen?, hb]⟩
  rw [get_flatK _ _ _ _ hj]
  have h1 : (cur.toList.take (l.length * 2))[j]? = (flatA l)[j]? := by rw [ht]
  rw [List.getElem?_take_of_lt hj'] at h1
  have hi : j / 2 < l.length := by omega
  have hc : W.cell? ⟨g, 0 + j, none⟩ = cur[j]? := by rw [Nat.zero_add]; exact cell_of_row _ _ _ _ _ _ hb
  rw [hc, ← Array.getElem?_toList, h1]
  clear h1 hc ht hb hj
  obtain ⟨i, k, hi', hk, rfl⟩ : ∃ i k, i < l.length ∧ k < 2 ∧ j = i * 2 + k := ⟨j / 2, j % 2, hi, by omega, by omega⟩
  obtain ⟨y0, y1⟩ := flatA_get l i hi'
  have e1 : (i * 2 + k) / 2 = i := by omega
  have e2 : (i * 2 + k) % 2 = k := by omega
  rw [e1, e2]
  have hg : l.toArray[i]! = l[i] := by simp [hi']
  rw [hg]
  match k, hk with
  | 0, _ => rw [Nat.add_zero, y0]; rfl
  | 1, _ => rw [y1]; rfl
set_option maxRecDepth 100000 in
theorem grownBy_sortA {W : World} {g n : Nat} {os : Array Obj} (d : Array (Int × ByteArray)) : W.grownBy (sortWorldK encA 2 W g 0 n d os) (some g) := by
  refine ⟨rfl, rfl, rfl, by simp [sortWorldK, putRowK, putRow, mapBlock, grow], fun k hk hne => ?_⟩
  unfold sortWorldK
  rw [heap_grow_old _ _ (by simpa [putRowK, putRow, mapBlock] using hk)]
  have : g ≠ k := fun e => hne (by rw [e])
  simp [putRowK, putRow, mapBlock, Sort.ahead, Array.getElem?_modify, this]
end Go.Proofs.Ytjgonfaniincbaa
