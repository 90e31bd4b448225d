/- Same, in plain mathematics: pairs of values that wait, and those that were seen; what is left when none waits. No conditions; no function of the program. -/
import Derived.Test.YtepohbcpepkboaaGreatVSameR
namespace Go.Proofs.YtepohbcpepkboaaGreat
open Go.RowKit Go.Maps

/-- The block in which the values of a value stand. -/
def GPtr (w : World) (h : Value) (B : Nat) : Prop := (h = .iface 94 (.pointer (some ⟨B, 0, none⟩)) ∧ PlainT w B 98) ∨ (h = .iface 141 (.pointer (some ⟨B, 0, none⟩)) ∧ PlainT w B 143)
set_option maxRecDepth 100000 in
theorem GPtr.inj {w : World} {h g : Value} {B : Nat} (h1 : GPtr w h B) (h2 : GPtr w g B) : h = g := by
  rcases h1 with ⟨rfl, cs, e1⟩ | ⟨rfl, cs, e1⟩ <;> rcases h2 with ⟨rfl, ds, e2⟩ | ⟨rfl, ds, e2⟩
  · rfl
  · rw [e1] at e2; simp at e2
  · rw [e1] at e2; simp at e2
  · rfl
set_option maxRecDepth 100000 in
theorem GPtr.plain {w : World} {h : Value} {B : Nat} (h1 : GPtr w h B) : PlainB w B := by
  rcases h1 with ⟨_, h⟩ | ⟨_, h⟩ <;> exact h.plain
/-- The values of which a pair is. -/
def Par (w : World) (p : Nat × Nat) (x y : V) : Prop := (∃ h, Rep w (fun _ => True) h x ∧ GPtr w h p.1) ∧ ∃ h, Rep w (fun _ => True) h y ∧ GPtr w h p.2
set_option maxRecDepth 100000 in
theorem Par.inj {w : World} {p : Nat × Nat} {x y x' y' : V} (h : Par w p x y) (k : Par w p x' y') : x = x' ∧ y = y' := by
  obtain ⟨⟨a, r1, g1⟩, b, r2, g2⟩ := h
  obtain ⟨⟨a', r1', g1'⟩, b', r2', g2'⟩ := k
  obtain rfl := g1.inj g1'
  obtain rfl := g2.inj g2'
  exact ⟨r1.inj _ r1', r2.inj _ r2'⟩
/-- As far as it shows without those that stand in them, two values are the same. -/
def Shal (x y : V) : Prop := x.l.length = y.l.length ∧ (x.l = y.l → x = y)
/-- Two values are the same, or their pair was seen. -/
def Okk (w : World) (S : List (Nat × Nat)) (x y : V) : Prop := x = y ∨ ∃ p, p ∈ S ∧ Par w p x y
set_option maxRecDepth 100000 in
theorem Okk.mono {w : World} {S S' : List (Nat × Nat)} {x y : V} (h : Okk w S x y) (hs : ∀ p, p ∈ S → p ∈ S') : Okk w S' x y := by
  rcases h with h | ⟨p, h1, h2⟩
  · exact Or.inl h
  · exact Or.inr ⟨p, hs p h1, h2⟩
/-- What becomes of two values that are held against each other. -/
def Told (w : World) (r : Bool) (x y : V) (ws S ws' S' : List (Nat × Nat)) : Prop :=
  (r = false → x ≠ y) ∧ (r = true → (ws' = ws ∧ S' = S ∧ Okk w S x y) ∨ ∃ p, p ∉ S ∧ ws' = ws ++ [p] ∧ S' = S ++ [p] ∧ Par w p x y ∧ Shal x y)
/-- What holds while pairs wait; of the pair t as many of its values were held against each other as n. -/
structure Inv (w : World) (v u : V) (t : Option (Nat × Nat)) (n : Nat) (ws S : List (Nat × Nat)) : Prop where
  all : ∀ p, p ∈ S → ∃ x y, Par w p x y ∧ Shal x y
  sub : ∀ p, p ∈ ws → p ∈ S
  tru : v = u → ∀ p, p ∈ S → ∀ x y, Par w p x y → x = y
  clo : ∀ p, p ∈ S → p ∈ ws ∨ (∀ x y, Par w p x y → ∀ j (h1 : j < x.l.length) (h2 : j < y.l.length), (t = some p → j < n) → Okk w S x.l[j] y.l[j])
  root : Okk w S v u
set_option maxRecDepth 100000 in
theorem Inv.start {w : World} {v u : V} {ws S : List (Nat × Nat)} (h : Told w true v u [] [] ws S) : Inv w v u none 0 ws S := by
  rcases h.2 rfl with ⟨rfl, rfl, ho⟩ | ⟨p, -, rfl, rfl, h1, h2⟩
  · exact ⟨by simp, by simp, by simp, by simp, ho⟩
  · refine ⟨?_, by simp, ?_, by simp, Or.inr ⟨p, by simp, h1⟩⟩
    · intro q hq
      simp at hq
      subst hq
      exact ⟨v, u, h1, h2⟩
    · intro e q hq x y hp
      simp at hq
      subst hq
      obtain ⟨rfl, rfl⟩ := h1.inj hp
      exact e
set_option maxRecDepth 100000 in
theorem Inv.pop {w : World} {v u : V} {ws S : List (Nat × Nat)} {p : Nat × Nat} (h : Inv w v u none 0 (ws ++ [p]) S) : Inv w v u (some p) 0 ws S := by
  refine ⟨h.all, fun q hq => h.sub q (by simp [hq]), h.tru, fun q hq => ?_, h.root⟩
  rcases h.clo q hq with h1 | h1
  · simp at h1
    rcases h1 with h1 | rfl
    · exact Or.inl h1
    · exact Or.inr (fun x y _ j _ _ h3 => by have := h3 rfl; omega)
  · exact Or.inr (fun x y hp j h1' h2' _ => h1 x y hp j h1' h2' (by simp))
set_option maxRecDepth 100000 in
theorem Inv.step {w : World} {v u : V} {ws S ws' S' : List (Nat × Nat)} {p : Nat × Nat} {n : Nat} (h : Inv w v u (some p) n ws S) {x y : V} (hp : Par w p x y) (hS : p ∈ S) (h1 : n < x.l.length) (h2 : n < y.l.length) (ht : Told w true x.l[n] y.l[n] ws S ws' S') : Inv w v u (some p) (n + 1) ws' S' := by
  rcases ht.2 rfl with ⟨rfl, rfl, ho⟩ | ⟨q, -, rfl, rfl, hq1, hq2⟩
  · refine ⟨h.all, h.sub, h.tru, fun r hr => ?_, h.root⟩
    rcases h.clo r hr with h3 | h3
    · exact Or.inl h3
    · refine Or.inr (fun x' y' hp' j hj1 hj2 hn => ?_)
      by_cases hrp : r = p
      · subst hrp
        by_cases hjn : j < n
        · exact h3 x' y' hp' j hj1 hj2 (fun _ => hjn)
        · obtain rfl : j = n := by have := hn rfl; omega
          obtain ⟨rfl, rfl⟩ := hp.inj hp'
          exact ho
      · exact h3 x' y' hp' j hj1 hj2 (fun e => absurd (by injection e with e; exact e.symm) hrp)
  · have hmono : ∀ r, r ∈ S → r ∈ S ++ [q] := fun r hr => by simp [hr]
    refine ⟨fun r hr => ?_, fun r hr => ?_, fun e r hr x' y' hp' => ?_, fun r hr => ?_, h.root.mono hmono⟩
    · simp at hr
      rcases hr with hr | rfl
      · exact h.all r hr
      · exact ⟨_, _, hq1, hq2⟩
    · simp at hr
      rcases hr with hr | rfl
      · exact hmono r (h.sub r hr)
      · simp
    · simp at hr
      rcases hr with hr | rfl
      · exact h.tru e r hr x' y' hp'
      · obtain ⟨rfl, rfl⟩ := hq1.inj hp'
        have := h.tru e p hS x y hp
        subst this
        rfl
    · simp at hr
      rcases hr with hr | rfl
      · rcases h.clo r hr with h3 | h3
        · exact Or.inl (by simp [h3])
        · refine Or.inr (fun x' y' hp' j hj1 hj2 hn => ?_)
          by_cases hrp : r = p
          · subst hrp
            by_cases hjn : j < n
            · exact (h3 x' y' hp' j hj1 hj2 (fun _ => hjn)).mono hmono
            · obtain rfl : j = n := by have := hn rfl; omega
              obtain ⟨rfl, rfl⟩ := hp.inj hp'
              exact Or.inr ⟨q, by simp, hq1⟩
          · exact (h3 x' y' hp' j hj1 hj2 (fun e => absurd (by injection e with e; exact e.symm) hrp)).mono hmono
      · exact Or.inl (by simp)
set_option maxRecDepth 100000 in
theorem Inv.fall {w : World} {v u : V} {ws S ws' S' : List (Nat × Nat)} {p : Nat × Nat} {n : Nat} (h : Inv w v u (some p) n ws S) {x y : V} (hp : Par w p x y) (hS : p ∈ S) (h1 : n < x.l.length) (h2 : n < y.l.length) (ht : Told w false x.l[n] y.l[n] ws S ws' S') : v ≠ u := fun e => by
  have := h.tru e p hS x y hp
  subst this
  exact ht.1 rfl rfl
set_option maxRecDepth 100000 in
theorem Inv.full {w : World} {v u : V} {ws S : List (Nat × Nat)} {p : Nat × Nat} {n : Nat} (h : Inv w v u (some p) n ws S) {x y : V} (hp : Par w p x y) (hn : x.l.length ≤ n) : Inv w v u none 0 ws S := by
  refine ⟨h.all, h.sub, h.tru, fun r hr => ?_, h.root⟩
  rcases h.clo r hr with h3 | h3
  · exact Or.inl h3
  · refine Or.inr (fun x' y' hp' j hj1 hj2 _ => h3 x' y' hp' j hj1 hj2 (fun e => ?_))
    injection e with e
    subst e
    obtain ⟨rfl, rfl⟩ := hp.inj hp'
    omega
set_option maxRecDepth 100000 in
theorem size_item {x : V} {j : Nat} (h : j < x.l.length) : x.l[j].size < x.size := by
  cases x with
  | mk k b n m s l q =>
    have : ∀ (l : List V) (j : Nat) (h : j < l.length), l[j].size ≤ V.size.go l := by
      intro l
      induction l with
      | nil => intro j h; simp at h
      | cons a r ih =>
        intro j h
        cases j with
        | zero => simp [V.size.go]
        | succ j => have := ih j (by simpa using h); simp only [List.getElem_cons_succ, V.size.go]; omega
    have := this l j h
    simp only [V.size]; omega
set_option maxRecDepth 100000 in
theorem Inv.done {w : World} {v u : V} {S : List (Nat × Nat)} (h : Inv w v u none 0 [] S) : v = u := by
  have key : ∀ n, ∀ x y : V, x.size ≤ n → Okk w S x y → x = y := by
    intro n
    induction n with
    | zero => intro x y hx; exfalso; cases x; simp only [V.size] at hx; omega
    | succ n ih =>
      intro x y hx ho
      rcases ho with ho | ⟨p, hp, hP⟩
      · exact ho
      · obtain ⟨x', y', hP', hs⟩ := h.all p hp
        obtain ⟨rfl, rfl⟩ := hP.inj hP'
        rcases h.clo p hp with h3 | h3
        · simp at h3
        · refine hs.2 (List.ext_getElem hs.1 fun j h1 h2 => ?_)
          exact ih _ _ (by have := size_item h1; omega) (h3 x y hP j h1 h2 (by simp))
  exact key v.size v u (Nat.le_refl _) h.root
/-- How many values wait at most. -/
def Wt (w : World) (ws : List (Nat × Nat)) (n : Nat) : Prop := ∃ xs : List V, xs.length = ws.length ∧ (∀ j (h1 : j < ws.length) (h2 : j < xs.length), ∃ y, Par w ws[j] xs[j] y) ∧ (xs.map V.size).sum ≤ n
set_option maxRecDepth 100000 in
theorem Wt.nil (w : World) (n : Nat) : Wt w [] n := ⟨[], rfl, by simp, by simp⟩
set_option maxRecDepth 100000 in
theorem Wt.snoc {w : World} {ws : List (Nat × Nat)} {n : Nat} (h : Wt w ws n) {p : Nat × Nat} {x y : V} (hp : Par w p x y) : Wt w (ws ++ [p]) (n + x.size) := by
  obtain ⟨xs, h1, h2, h3⟩ := h
  refine ⟨xs ++ [x], by simp [h1], fun j hj1 hj2 => ?_, by simp; omega⟩
  by_cases hlt : j < ws.length
  · rw [List.getElem_append_left hlt, List.getElem_append_left (by omega)]
    exact h2 j hlt (by omega)
  · obtain rfl : j = ws.length := by simp at hj1; omega
    rw [List.getElem_append_right (Nat.le_refl _), List.getElem_append_right (by omega)]
    exact ⟨y, by simpa [h1] using hp⟩
set_option maxRecDepth 100000 in
theorem Wt.pop {w : World} {ws : List (Nat × Nat)} {n : Nat} {p : Nat × Nat} (h : Wt w (ws ++ [p]) n) {x y : V} (hp : Par w p x y) : ∃ m, Wt w ws m ∧ m + x.size ≤ n := by
  obtain ⟨xs, h1, h2, h3⟩ := h
  simp at h1
  have hx : xs ≠ [] := by intro e; rw [e] at h1; simp at h1
  obtain ⟨ys, z, rfl⟩ : ∃ ys z, xs = ys ++ [z] := ⟨xs.dropLast, xs.getLast hx, (List.dropLast_concat_getLast hx).symm⟩
  simp at h1
  refine ⟨(ys.map V.size).sum, ⟨ys, h1, fun j hj1 hj2 => ?_, Nat.le_refl _⟩, ?_⟩
  · have := h2 j (by simp; omega) (by simp; omega)
    rwa [List.getElem_append_left hj1, List.getElem_append_left hj2] at this
  · obtain ⟨y', hy⟩ := h2 ws.length (by simp) (by simp; omega)
    rw [List.getElem_append_right (Nat.le_refl _), List.getElem_append_right (by omega)] at hy
    simp [h1] at hy
    obtain ⟨rfl, -⟩ := hp.inj hy
    simpa using h3
set_option maxRecDepth 100000 in
theorem Wt.mono {w : World} {ws : List (Nat × Nat)} {n m : Nat} (h : Wt w ws n) (hnm : n ≤ m) : Wt w ws m := by
  obtain ⟨xs, h1, h2, h3⟩ := h
  exact ⟨xs, h1, h2, by omega⟩
set_option maxRecDepth 100000 in
/-- The weight behind one that was held against another. -/
theorem Wt.told {w : World} {ws S ws' S' : List (Nat × Nat)} {n : Nat} (h : Wt w ws n) {x y : V} (ht : Told w true x y ws S ws' S') : Wt w ws' (n + x.size) := by
  rcases ht.2 rfl with ⟨rfl, -, -⟩ | ⟨p, -, rfl, -, hp, -⟩
  · exact h.mono (by omega)
  · exact h.snoc hp
set_option maxRecDepth 100000 in
theorem size_take {l : List V} {j : Nat} (h : j < l.length) : V.size.go (l.take (j + 1)) = V.size.go (l.take j) + l[j].size := by
  rw [List.take_succ_eq_append_getElem h]
  have : ∀ a b : List V, V.size.go (a ++ b) = V.size.go a + V.size.go b := by
    intro a
    induction a with
    | nil => intro b; simp [V.size.go]
    | cons x r ih => intro b; simp only [List.cons_append, V.size.go, ih b]; omega
  rw [this]; simp [V.size.go]
end Go.Proofs.YtepohbcpepkboaaGreat

