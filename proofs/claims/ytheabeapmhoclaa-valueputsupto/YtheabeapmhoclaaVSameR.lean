/- What a value holds tells the value. No conditions; no function of the program. -/
import Derived.Test.YtheabeapmhoclaaVSameQ
namespace Go.Proofs.Ytheabeapmhoclaa
open Go.RowKit Go.Maps

set_option maxRecDepth 100000 in
theorem float_inj {n m : Int} (hn : -9007199254740992 ≤ n ∧ n ≤ 9007199254740992) (hm : -9007199254740992 ≤ m ∧ m ≤ 9007199254740992) (h : floatOfInt .f64 n = floatOfInt .f64 m) : n = m := by
  have h1 := float_back n hn
  rw [h, float_back m hm] at h1
  simpa using h1.symm
set_option maxRecDepth 100000 in
set_option maxHeartbeats 3200000 in
theorem leaf_inj {h : Value} {v u : V} (hr : Leaf h v) (hs : Leaf h u) : v = u := by
  rcases hr with ⟨rfl, rfl⟩ | ⟨rfl, rfl⟩ | ⟨b, rfl, rfl⟩ | ⟨n, rfl, rfl⟩ | ⟨n, m, hn, hm, rfl, rfl⟩ | ⟨s, rfl, rfl⟩ <;>
  rcases hs with ⟨e, rfl⟩ | ⟨e, rfl⟩ | ⟨b', e, rfl⟩ | ⟨n', e, rfl⟩ | ⟨n', m', hn', hm', e, rfl⟩ | ⟨s', e, rfl⟩
  all_goals first
    | rfl
    | (simp at e; done)
    | (simp at e; rw [e]; done)
    | (simp at e; rw [float_inj hn hn' e.1, float_inj hm hm' e.2])
set_option maxRecDepth 100000 in
theorem leaf_no_list {B : Nat} {v : V} (h : Leaf (.iface 91 (.pointer (some ⟨B, 0, none⟩))) v) : False := by
  rcases h with ⟨e, -⟩ | ⟨e, -⟩ | ⟨b', e, -⟩ | ⟨n', e, -⟩ | ⟨n', m', -, -, e, -⟩ | ⟨s', e, -⟩ <;> simp at e
set_option maxRecDepth 100000 in
theorem leaf_no_map {B : Nat} {v : V} (h : Leaf (.iface 114 (.pointer (some ⟨B, 0, none⟩))) v) : False := by
  rcases h with ⟨e, -⟩ | ⟨e, -⟩ | ⟨b', e, -⟩ | ⟨n', e, -⟩ | ⟨n', m', -, -, e, -⟩ | ⟨s', e, -⟩ <;> simp at e
set_option maxRecDepth 100000 in
theorem rows_same {w : World} {a : Option Addr} {n : Nat} {H H' : Nat → Value} (h1 : HRow w (fun _ => True) a n H) (h2 : HRow w (fun _ => True) a n H') : ∀ j, j < n → H j = H' j := fun j hj => by
  obtain ⟨b, off, rfl, -, c1⟩ := h1 (by omega)
  obtain ⟨b', off', e, -, c2⟩ := h2 (by omega)
  simp at e
  obtain ⟨rfl, rfl⟩ := e
  have h3 := (c1 j hj).symm.trans (c2 j hj)
  simpa using h3
set_option maxRecDepth 100000 in
theorem texts_same {w : World} {a : Option Addr} {q q' : List ByteArray} (hl : q.length = q'.length) (h1 : SRow w (fun _ => True) a q) (h2 : SRow w (fun _ => True) a q') : q = q' := by
  apply List.ext_getElem hl
  intro j hj hj'
  obtain ⟨b, off, rfl, -, c1⟩ := h1.2 (by intro e; subst e; simp at hj)
  obtain ⟨b', off', e, -, c2⟩ := h2.2 (by intro e; subst e; simp at hj')
  simp at e
  obtain ⟨rfl, rfl⟩ := e
  have h3 := (c1 j hj).symm.trans (c2 j hj')
  simpa using h3
set_option maxRecDepth 100000 in
/-- Two groups in one block are of the same values. -/
theorem grp_same {w : World} {B : Nat} {v u : V} {H H' : Nat → Value} {a a' : Option Addr} {c c' : Nat} (g : Grp w B v H a c) (g' : Grp w B u H' a' c') (ih : ∀ j (hj : j < v.l.length), ∀ x, Rep w (fun _ => True) (H j) x → v.l[j] = x) : v.l = u.l := by
  have h1 := g.c4.symm.trans g'.c4
  simp at h1
  obtain ⟨rfl, hl, rfl⟩ := h1
  have hrow := g'.row
  rw [← hl] at hrow
  apply List.ext_getElem hl
  intro j hj hj'
  have h2 := g'.rep j hj'
  rw [← rows_same g.row hrow j hj] at h2
  exact ih j hj _ h2
set_option maxRecDepth 100000 in
theorem Rep.inj {w : World} {h : Value} {v : V} (hr : Rep w (fun _ => True) h v) : ∀ u, Rep w (fun _ => True) h u → v = u := by
  have hh := hr.held
  induction hr using Rep.ind with
  | list B l a c H hB ha c0 c1 c2 c3 c4 hrow hin ih =>
    intro u hs
    rcases hs.held with h | ⟨B', l', H', a', c', G', -, e, rfl⟩ | ⟨B', l', q', H', a', c', ka', kc', G', -, -, -, -, -, e, rfl⟩
    · exact (leaf_no_list h).elim
    · simp at e
      subst e
      have := grp_same (v := .mk 6 false 0 0 ByteArray.empty l []) ⟨hB.2.plain, ha, c0, c1, c2, c3, c4, hrow, hin⟩ G' (fun j hj x hx => ih j hj (hin j hj).held x hx)
      simp at this
      rw [this]
    · simp at e
  | map B M l q a c ka kc H hB hMo ha hka hq c0 c1 c2 c3 c4 c5 c6 hk hM hrow hin ih =>
    intro u hs
    rcases hs.held with h | ⟨B', l', H', a', c', G', -, e, rfl⟩ | ⟨B', l', q', H', a', c', ka', kc', G', -, hq', -, c5', hk', e, rfl⟩
    · exact (leaf_no_map h).elim
    · simp at e
    · simp at e
      subst e
      have := grp_same (v := .mk 7 false 0 0 ByteArray.empty l q) ⟨hB.2.plain, ha, c0, c1, c2, c3, c4, hrow, hin⟩ G' (fun j hj x hx => ih j hj (hin j hj).held x hx)
      have h5 := c5.symm.trans c5'
      simp at this h5
      obtain ⟨rfl, hl5, rfl⟩ := h5
      rw [this, texts_same hl5 hk hk']
  | _ =>
    intro u hs
    rcases hh with hh | ⟨B, l, H, a, c, G, -, e, -⟩ | ⟨B, l, q, H, a, c, ka, kc, G, -, -, -, -, -, e, -⟩
    · rcases hs.held with h | ⟨B, l, H, a, c, G, -, e, -⟩ | ⟨B, l, q, H, a, c, ka, kc, G, -, -, -, -, -, e, -⟩
      · exact leaf_inj hh h
      · simp at e
      · simp at e
    · simp at e
    · simp at e
end Go.Proofs.Ytheabeapmhoclaa
