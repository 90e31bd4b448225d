/- Clean of what is clean, and of a clean Map with one more key behind, in plain mathematics. No conditions; no program. -/
import Derived.Test.YtigdcnoggjcddaaVWithP
namespace Go.Proofs.Ytigdcnoggjcddaa
open Go.RowKit

set_option maxRecDepth 100000 in
theorem below_all {key : ByteArray} : ∀ {ks : List ByteArray}, (∀ y ∈ ks, ltS y key) → below key ks = ks.length
  | [], _ => rfl
  | y :: r, h => by
    unfold below
    rw [if_pos (ltB_iff.2 (h y (by simp))), below_all (fun z hz => h z (by simp [hz]))]; rfl
set_option maxRecDepth 100000 in
theorem insAll_rising : ∀ (q : List ByteArray) (l : List V) (ks : List ByteArray) (vs : List V), q.length = l.length → ks.length = vs.length → Rising (ks ++ q) → insAll (q.zip l) ks vs = (ks ++ q, vs ++ l)
  | [], [], ks, vs, _, _, _ => by simp [insAll]
  | k :: q, v :: l, ks, vs, h1, h2, h3 => by
    have hall : ∀ y ∈ ks, ltS y k := fun y hy => by
      unfold Rising at h3
      exact (List.pairwise_append.1 h3).2.2 y hy k (by simp)
    have hb := below_all hall
    have hat : hasAt k ks = false := by unfold hasAt; rw [hb, List.getElem?_eq_none (Nat.le_refl _)]
    have e1 : insKeys k ks = ks ++ [k] := by unfold insKeys; rw [if_neg (by rw [hat]; simp), hb]; simp
    have e2 : insVals k v ks vs = vs ++ [v] := by unfold insVals; rw [if_neg (by rw [hat]; simp), hb, h2]; simp
    rw [List.zip_cons_cons, insAll]
    simp only
    rw [e1, e2, insAll_rising q l (ks ++ [k]) (vs ++ [v]) (by simpa using h1) (by simp [h2]) (by simpa using h3)]
    simp
set_option maxRecDepth 100000 in
theorem cl_null_of {k : Int} {b : Bool} {n m : Int} {s : ByteArray} {l : List V} {q : List ByteArray} (h : (V.mk k b n m s l q).cl) (h1 : k ≠ 1) (h2 : k ≠ 2) (h3 : k ≠ 3) (h4 : k ≠ 4) (h5 : k ≠ 5) (h6 : k ≠ 6) (h7 : k ≠ 7) : V.mk k b n m s l q = V.null := by
  simp only [V.cl] at h
  obtain ⟨⟨a1, a2⟩, c1, c2, c3, c4, c5, c6, -, -, -⟩ := h
  obtain rfl : k = 0 := by omega
  rw [c1 h2, c2 h3 h4, c3 h4, c4 h5, c5 h6 h7, c6 h7]; rfl
set_option maxRecDepth 100000 in
theorem clean_self_all : (∀ v : V, v.cl → v.clean = v) ∧ (∀ l : List V, (∀ x ∈ l, x.cl) → V.clean.go l = l) := by
  have hs : ∀ (k : Int) (b : Bool) (n m : Int) (s : ByteArray) (l : List V) (q : List ByteArray), ((∀ x ∈ l, x.cl) → V.clean.go l = l) → (V.mk k b n m s l q).cl → (V.mk k b n m s l q).clean = V.mk k b n m s l q := by
    intro k b n m s l q ih h
    have h' := h
    simp only [V.cl] at h'
    obtain ⟨-, c1, c2, c3, c4, c5, c6, c7, c8, c9⟩ := h'
    simp only [V.clean]
    split
    · rename_i e; subst e
      rw [c1 (by decide), c2 (by decide) (by decide), c3 (by decide), c4 (by decide), c5 (by decide) (by decide), c6 (by decide)]
    split
    · rename_i e; subst e
      rw [c2 (by decide) (by decide), c3 (by decide), c4 (by decide), c5 (by decide) (by decide), c6 (by decide)]
    split
    · rename_i e; subst e
      rw [c1 (by decide), c3 (by decide), c4 (by decide), c5 (by decide) (by decide), c6 (by decide)]
    split
    · rename_i e; subst e
      obtain ⟨g1, g2⟩ := c8 rfl
      rw [c1 (by decide), c4 (by decide), c5 (by decide) (by decide), c6 (by decide)]
      congr 1 <;> omega
    split
    · rename_i e; subst e
      rw [c1 (by decide), c2 (by decide) (by decide), c3 (by decide), c5 (by decide) (by decide), c6 (by decide)]
    split
    · rename_i e; subst e
      rw [c1 (by decide), c2 (by decide) (by decide), c3 (by decide), c4 (by decide), c6 (by decide), ih (fun x hx => clL_mem c9 hx)]
    split
    · rename_i e; subst e
      obtain ⟨g1, g2⟩ := c7 rfl
      rw [c1 (by decide), c2 (by decide) (by decide), c3 (by decide), c4 (by decide), ih (fun x hx => clL_mem c9 hx), insAll_rising q l [] [] g1 rfl (by simpa using g2)]
      simp
    · rename_i e1 e2 e3 e4 e5 e6 e7
      exact (cl_null_of h e1 e2 e3 e4 e5 e6 e7).symm
  refine ⟨?_, ?_⟩
  · intro v
    exact V.rec (motive_1 := fun v => v.cl → v.clean = v) (motive_2 := fun l => (∀ x ∈ l, x.cl) → V.clean.go l = l)
      (fun k b n m s l q ih => hs k b n m s l q ih) (fun _ => by simp [V.clean.go]) (fun x r h1 h2 h => by
        simp only [V.clean.go]; rw [h1 (h x (by simp)), h2 (fun y hy => h y (by simp [hy]))]) v
  · intro l
    exact V.rec_1 (motive_1 := fun v => v.cl → v.clean = v) (motive_2 := fun l => (∀ x ∈ l, x.cl) → V.clean.go l = l)
      (fun k b n m s l q ih => hs k b n m s l q ih) (fun _ => by simp [V.clean.go]) (fun x r h1 h2 h => by
        simp only [V.clean.go]; rw [h1 (h x (by simp)), h2 (fun y hy => h y (by simp [hy]))]) l
set_option maxRecDepth 100000 in
theorem clean_self {v : V} (h : v.cl) : v.clean = v := clean_self_all.1 v h
set_option maxRecDepth 100000 in
/-- A clean Map with one more key behind, cleaned: the Map with that key. -/
theorem clean_put {l : List V} {q : List ByteArray} (hq : q.length = l.length) (hr : Rising q) (hl : ∀ y ∈ l, y.cl) {key : ByteArray} {x : V} (hx : x.cl) (hn : (V.mk 7 false 0 0 ByteArray.empty l q).hasK key = false) :
    (V.mk 7 false 0 0 ByteArray.empty (l ++ [x]) (q ++ [key])).clean = mapPut l q key x := by
  have hm : key ∉ q := fun hm => by rw [(hasK_mem (V.mk 7 false 0 0 ByteArray.empty l q) key).2 hm] at hn; cases hn
  have hg : V.clean.go (l ++ [x]) = l ++ [x] := clean_self_all.2 (l ++ [x]) (fun y hy => by
    rcases List.mem_append.1 hy with h | h
    · exact hl y h
    · simp at h; subst h; exact hx)
  have hz : (q ++ [key]).zip (l ++ [x]) = q.zip l ++ [(key, x)] := by rw [List.zip_append hq]; rfl
  have e7 : (V.mk 7 false 0 0 ByteArray.empty (l ++ [x]) (q ++ [key])).clean = .mk 7 false 0 0 ByteArray.empty (insAll ((q ++ [key]).zip (V.clean.go (l ++ [x]))) [] []).2 (insAll ((q ++ [key]).zip (V.clean.go (l ++ [x]))) [] []).1 := by simp [V.clean]
  rw [e7, hg, hz, insAll_append, insAll_rising q l [] [] hq rfl (by simpa using hr)]
  simp only [insAll, List.nil_append]
  unfold mapPut insKeys insVals
  rw [if_neg (by rw [hasAt_notin hm]; simp), if_neg (by rw [hasAt_notin hm]; simp), if_neg (by rw [hn]; simp)]
  simp [V.map]
end Go.Proofs.Ytigdcnoggjcddaa

