/- A row of the document's values of a call's own, with another value at a place. No conditions; no function of the program. -/
import Derived.Test.YtigdcnoggjcddaaVRWithB
import Derived.Deep.Upon
namespace Go.Proofs.Ytigdcnoggjcddaa
open Go.RowKit Go.Maps Go.WideMaps

set_option maxRecDepth 100000 in
/-- What a row of the call's own is to one who stores into it. -/
theorem vl2_row3 {W : World} {ok : Nat → Prop} {X : Nat} {sv : Value} {l : List V} (h : VL2 W ok X sv l) (hz : l ≠ []) : ∃ g c P, sv = .slice (some ⟨g, 0, none⟩) l.length c ∧ X ≤ g ∧ g < W.heap.size ∧ SliceOk (some ⟨g, 0, none⟩) l.length c ∧ VCells W (fun b => b = g) (some ⟨g, 0, none⟩) l P ∧ (∀ j (hj : j < l.length), VIn W (fun b => ok b ∧ b ≠ g) l[j] (P j)) ∧ (∃ cs, W.heap[g]? = some (.cells cs 25 (0, 0))) := by
  obtain ⟨ps, h1, h2, h3⟩ := h
  have hlen : ps.length = l.length := by rw [← h1]; simp
  rcases h2.2 with ⟨hv, h0⟩ | ⟨g, cap, cur, hv, hg, hblk, hc, hm, hcur⟩
  · exact absurd (List.eq_nil_of_length_eq_zero h0) hz
  · refine ⟨g, cap, fun j => (ps[j]?.getD (V.null, ⟨none, 0, none, 0⟩)).2, hv, hg, (Array.getElem?_eq_some_iff.1 hblk).1, ⟨(fun h => by cases h), hc, hm⟩, fun _ => ⟨g, 0, rfl, rfl, fun j hj => ?_⟩, fun j hj => ?_, ⟨_, hblk⟩⟩
    · have hj' : j < ps.length := by omega
      have hcell : ∀ i, i < 7 → W.cell? ⟨g, 0 + j * 7 + i, none⟩ = (ps[j].1.cells ps[j].2)[i]? := fun i hi => by
        have h5 := h2.cells (g := g) (by rw [hv]; rfl)
        have h6 := vcells_at ps j i hj' hi
        have hi7 : i < (ps[j].1.cells ps[j].2).length := by rw [cells_len]; exact hi
        obtain ⟨u, hu⟩ : ∃ u, (ps[j].1.cells ps[j].2)[i]? = some u := ⟨_, getElem?_pos (ps[j].1.cells ps[j].2) i hi7⟩
        have h7 := h5 (j * 7 + i) u (by rw [h6, hu])
        rw [hu, ← h7, Addr.add_lit]
        simp
      have e1 : ps[j].1 = l[j] := by simp only [← h1, List.getElem_map]
      have e2 : (ps[j]?.getD (V.null, ⟨none, 0, none, 0⟩)).2 = ps[j].2 := by simp [hj']
      dsimp only
      rw [e2, ← e1]
      exact ⟨hcell 0 (by omega), hcell 1 (by omega), hcell 2 (by omega), hcell 3 (by omega), hcell 4 (by omega), hcell 5 (by omega), hcell 6 (by omega)⟩
    · have hj' : j < ps.length := by omega
      have e1 : ps[j].1 = l[j] := by simp only [← h1, List.getElem_map]
      have e2 : (ps[j]?.getD (V.null, ⟨none, 0, none, 0⟩)).2 = ps[j].2 := by simp [hj']
      dsimp only
      rw [e2, ← e1]
      exact (h3 _ (List.getElem_mem hj')).mono (fun b hb _ => ⟨hb.1, fun e => hb.2 (by rw [hv, e]; rfl)⟩)
set_option maxRecDepth 100000 in
theorem vcells_there {W : World} {g : Nat} {l : List V} {P : Nat → VP} (hc : VCells W (fun b => b = g) (some ⟨g, 0, none⟩) l P) (hg : ∃ cs, W.heap[g]? = some (.cells cs 25 (0, 0))) {i : Nat} (hi : i < l.length) : W.there g (i * 7) 7 := by
  obtain ⟨b, off, e, -, hat⟩ := hc (by intro e; subst e; simp at hi)
  injection e with e; injection e with e1 e2; subst e1; subst e2
  obtain ⟨a0, a1, a2, a3, a4, a5, a6⟩ := hat i hi
  intro j hj
  obtain ⟨cs, hblk⟩ := hg
  refine ⟨?_, frozen_of_row _ _ _ _ _ hblk⟩
  rw [Nat.zero_add] at a0 a1 a2 a3 a4 a5 a6
  have : j = 0 ∨ j = 1 ∨ j = 2 ∨ j = 3 ∨ j = 4 ∨ j = 5 ∨ j = 6 := by omega
  rcases this with rfl | rfl | rfl | rfl | rfl | rfl | rfl
  · rw [Nat.add_zero, a0]; rfl
  · rw [a1]; rfl
  · rw [a2]; rfl
  · rw [a3]; rfl
  · rw [a4]; rfl
  · rw [a5]; rfl
  · rw [a6]; rfl
set_option maxRecDepth 100000 in
theorem vrow_set {W : World} {ok : Nat → Prop} {g : Nat} {l : List V} {P : Nat → VP} (hc : VCells W (fun b => b = g) (some ⟨g, 0, none⟩) l P) (hokg : ok g) (hin : ∀ j (hj : j < l.length), VIn W (fun b => ok b ∧ b ≠ g) l[j] (P j)) (hg : ∃ cs, W.heap[g]? = some (.cells cs 25 (0, 0))) {i : Nat} (hi : i < l.length) {Y : V} {yp : VP} (hY : VIn W (fun b => ok b ∧ b ≠ g) Y yp) :
    VRow (W.setCells g (i * 7) (Y.cells yp)) ok (some ⟨g, 0, none⟩) (l.set i Y) := by
  have hth := vcells_there hc hg hi
  have hin7 : ∀ k (hk : k < 7), (W.setCells g (i * 7) (Y.cells yp)).cell? ⟨g, i * 7 + k, none⟩ = some ((Y.cells yp)[k]'(by rw [cells_len]; exact hk)) := fun k hk =>
    World.cell?_setCells_in g (Y.cells yp) (i * 7) W (fun j hj => (hth j (by rw [cells_len] at hj; exact hj)).1) k (by rw [cells_len]; exact hk)
  have hout : ∀ o, o < i * 7 ∨ i * 7 + 7 ≤ o → (W.setCells g (i * 7) (Y.cells yp)).cell? ⟨g, o, none⟩ = W.cell? ⟨g, o, none⟩ := fun o ho =>
    World.cell?_setCells_out g (Y.cells yp) (i * 7) W ⟨g, o, none⟩ (fun _ _ => by rw [cells_len]; exact ho)
  have hag : ∀ {v : V} {p : VP}, VIn W (fun b => ok b ∧ b ≠ g) v p → VIn (W.setCells g (i * 7) (Y.cells yp)) ok v p := fun {v p} hv =>
    (hv.agree (fun b hb hlt => World.heap_setCells_other W g (i * 7) (Y.cells yp) hlt hb.2)).mono (fun b hb _ => hb.1)
  refine ⟨fun j => if j = i then yp else P j, fun hz => ?_, fun j hj => ?_⟩
  · obtain ⟨b, off, e, hb, hat⟩ := hc (by intro e; subst e; simp at hi)
    injection e with e; injection e with e1 e2; subst e1; subst e2
    refine ⟨g, 0, rfl, hokg, fun j hj => ?_⟩
    have hj2 : j < l.length := by simpa using hj
    by_cases hji : j = i
    · subst hji
      dsimp only
      rw [if_pos rfl, List.getElem_set_self]
      have q0 := hin7 0 (by omega)
      have q1 := hin7 1 (by omega)
      have q2 := hin7 2 (by omega)
      have q3 := hin7 3 (by omega)
      have q4 := hin7 4 (by omega)
      have q5 := hin7 5 (by omega)
      have q6 := hin7 6 (by omega)
      unfold VAt
      rw [Nat.zero_add]
      exact ⟨q0, q1, q2, q3, q4, q5, q6⟩
    · dsimp only
      rw [if_neg hji, List.getElem_set_ne (fun e => hji e.symm)]
      obtain ⟨a0, a1, a2, a3, a4, a5, a6⟩ := hat j hj2
      have hd : j * 7 + 7 ≤ i * 7 ∨ i * 7 + 7 ≤ j * 7 := by omega
      rw [Nat.zero_add] at a0 a1 a2 a3 a4 a5 a6
      unfold VAt
      rw [Nat.zero_add]
      exact ⟨(hout _ (by omega)).trans a0, (hout _ (by omega)).trans a1, (hout _ (by omega)).trans a2, (hout _ (by omega)).trans a3, (hout _ (by omega)).trans a4, (hout _ (by omega)).trans a5, (hout _ (by omega)).trans a6⟩
  · have hj2 : j < l.length := by simpa using hj
    by_cases hji : j = i
    · subst hji
      dsimp only
      rw [if_pos rfl, List.getElem_set_self]
      exact hag hY
    · dsimp only
      rw [if_neg hji, List.getElem_set_ne (fun e => hji e.symm)]
      exact hag (hin j hj2)
end Go.Proofs.Ytigdcnoggjcddaa

