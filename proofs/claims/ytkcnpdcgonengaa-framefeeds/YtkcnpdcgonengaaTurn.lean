/- What a turn of a block that holds no cells leaves as it was. No conditions; no function of the program. -/
import Derived.Test.YtkcnpdcgonengaaFrC
import Derived.Test.YtkcnpdcgonengaaBTag
namespace Go.Proofs.Ytkcnpdcgonengaa
open Go.RowKit Go.Shelf

set_option maxRecDepth 100000 in
theorem boxed_turn {W W' : World} {row : Option Nat} {B : Nat} {t : TypeId} {v : Value} (h : Boxed W B t v) (hg : W.grownBy W' row) (hr : ∀ r, row = some r → ∃ o : Obj, W.heap[r]? = some o ∧ o.isCells = false) : Boxed W' B t v :=
  h.kept hg (fun e => by obtain ⟨o, ho, hc⟩ := hr B e.symm; rw [show W.heap[B]? = _ from h] at ho; cases ho; cases hc)
set_option maxRecDepth 100000 in
theorem below_turn {B n : Nat} {w W W' : World} {row : Option Nat} (h : Below B w W) (hg : W.grownBy W' row) (hn : B ≤ W.heap.size) (hr : ∀ r, row = some r → n ≤ r ∧ ∃ o : Obj, W.heap[r]? = some o ∧ o.isCells = false) (hB : B ≤ n) : Below B w W' :=
  h.grown hg hn (fun k e => by have := (hr k e).1; omega)
set_option maxRecDepth 100000 in
theorem cells_turn {W W' : World} {row : Option Nat} {B : Nat} {cs : Array Value} {t : TypeId} {m : Nat × Nat} (h : W.heap[B]? = some (.cells cs t m)) (hg : W.grownBy W' row) (hr : ∀ r, row = some r → ∃ o : Obj, W.heap[r]? = some o ∧ o.isCells = false) : W'.heap[B]? = some (.cells cs t m) := by
  refine (hg.block B (Array.getElem?_eq_some_iff.1 h).1 (fun e => ?_)).trans h
  obtain ⟨o, ho, hc⟩ := hr B e.symm
  rw [h] at ho; cases ho; cases hc
set_option maxRecDepth 100000 in
theorem told_turn {n : Nat} {p : Piece} {W W' : World} {row : Option Nat} (h : p.told n W) (hg : W.grownBy W' row) (hr : ∀ r, row = some r → ∃ o : Obj, W.heap[r]? = some o ∧ o.isCells = false) : p.told n W' := by
  have hne : ∀ x, p.a = some x → some x.block ≠ row := fun x hx e => by
    obtain ⟨cur, hc⟩ := (h.2.2 x hx).2
    obtain ⟨o, ho, hc'⟩ := hr _ e.symm
    rw [hc] at ho; cases ho; cases hc'
  exact ⟨h.1.grown hg hne, h.2.1, fun x hx => ⟨(h.2.2 x hx).1, Tag8.kept (h.2.2 x hx).2 hg (hne x hx)⟩⟩
set_option maxRecDepth 100000 in
theorem told_below {n : Nat} {p : Piece} {W W' : World} (h : p.told n W) (hb : Below W.heap.size W W') : p.told n W' :=
  told_turn h (row := none) ⟨hb.os, hb.tape, hb.output, hb.size, fun k hk _ => hb.block k hk⟩ (fun r e => by cases e)
set_option maxRecDepth 100000 in
theorem own_mono {w : World} {base base' n size : Nat} {e : TypeId} {v : Value} {xs : List Value} (h : w.ownsRow base e size v n xs) (hb : base' ≤ base) : w.ownsRow base' e size v n xs := by
  refine ⟨h.1, ?_⟩
  rcases h.2 with h0 | ⟨g, cap, cur, hv, hg, r⟩
  · exact Or.inl h0
  · exact Or.inr ⟨g, cap, cur, hv, Nat.le_trans hb hg, r⟩
set_option maxRecDepth 100000 in
theorem bt_putObj {W : World} {base : Nat} {v : Value} {ps : List (List Int × Option Addr × Nat)} (h : BTag W base v ps) {l : Nat} {o : Obj} (o' : Obj) (hl : W.heap[l]? = some o) (ho : o.isCells = false) : BTag (W.putObj l o') base v ps :=
  h.turned (grownBy_putObj' W l o') (fun r e => by cases e; exact ⟨o, hl, ho⟩)
set_option maxRecDepth 100000 in
theorem own_turn {w w' : World} {base n size : Nat} {e : TypeId} {v : Value} {xs : List Value} {row : Option Nat} (h : w.ownsRow base e size v n xs) (hg : w.grownBy w' row) (hr : ∀ r, row = some r → ∃ o : Obj, w.heap[r]? = some o ∧ o.isCells = false) : w'.ownsRow base e size v n xs := by
  refine h.kept hg ?_
  rcases h.2 with ⟨rfl, _⟩ | ⟨g, cap, cur, rfl, _, hgg, _⟩
  · exact Or.inl rfl
  · refine Or.inr (fun e => ?_)
    obtain ⟨o, ho, hc⟩ := hr g e.symm
    rw [hgg] at ho; cases ho; cases hc
end Go.Proofs.Ytkcnpdcgonengaa
