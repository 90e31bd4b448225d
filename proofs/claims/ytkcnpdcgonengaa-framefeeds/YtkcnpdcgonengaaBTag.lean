/- A slice of frames that a call makes: what it owns; the frames lie in blocks of bytes. No conditions; no function of the program. -/
import Derived.Test.YtkcnpdcgonengaaBRow
import Derived.Test.YtkcnpdcgonengaaFrA
import Derived.RangeFuncBox
namespace Go.Proofs.Ytkcnpdcgonengaa
open Go.RowKit

/-- A block of bytes. -/
def Tag8 (w : World) (b : Nat) : Prop := ∃ cur, w.heap[b]? = some (.cells cur 5 (0, 0))
set_option maxRecDepth 100000 in
theorem Tag8.kept {w w' : World} {row : Option Nat} {b : Nat} (h : Tag8 w b) (hg : w.grownBy w' row) (hne : some b ≠ row) : Tag8 w' b := by
  obtain ⟨cur, hc⟩ := h
  exact ⟨cur, (hg.block b (Array.getElem?_eq_some_iff.1 hc).1 hne).trans hc⟩
set_option maxRecDepth 100000 in
theorem Tag8.ne_row {w : World} {b base n : Nat} {v : Value} {xs : List Value} (h : Tag8 w b) (ho : w.ownsRow base 29 1 v n xs) : some b ≠ v.ownBlock := by
  obtain ⟨cur, hc⟩ := h
  rcases ho.2 with ⟨rfl, _⟩ | ⟨g, cap, cur', rfl, _, hg, _⟩
  · simp [Value.ownBlock]
  · intro e
    simp only [Value.ownBlock, Option.some.injEq] at e
    subst e
    rw [hc] at hg
    simp at hg
set_option maxRecDepth 100000 in
theorem Tag8.ne_box {w : World} {b B : Nat} {t : TypeId} {v : Value} (h : Tag8 w b) (hB : Boxed w B t v) (ht : t ≠ 5) : b ≠ B := by
  obtain ⟨cur, hc⟩ := h
  rintro rfl
  rw [show w.heap[b]? = _ from hB] at hc
  simp only [Option.some.injEq, Obj.cells.injEq] at hc
  exact ht hc.2.1

structure BTag (w : World) (base : Nat) (v : Value) (ps : List (List Int × Option Addr × Nat)) : Prop where
  own : w.ownsRow base 29 1 v ps.length (ps.map bc)
  sh : ∀ p ∈ ps, Shown w p.2.1 p.1 p.2.2
  tg : ∀ p ∈ ps, ∀ x, p.2.1 = some x → base ≤ x.block ∧ Tag8 w x.block
set_option maxRecDepth 100000 in
theorem BTag.nil (w : World) (base : Nat) : BTag w base (.slice none 0 0) [] := ⟨World.ownsRow_nil _ _ _ _, by simp, by simp⟩
set_option maxRecDepth 100000 in
theorem Shown.grown {w w' : World} {a : Option Addr} {zs : List Int} {c : Nat} {row : Option Nat} (h : Shown w a zs c) (hg : w.grownBy w' row) (hne : ∀ x, a = some x → some x.block ≠ row) : Shown w' a zs c :=
  ⟨h.1.grown (fun _ => hne) hg, h.2⟩
set_option maxRecDepth 100000 in
theorem BTag.kept {w w' : World} {base : Nat} {v : Value} {ps : List (List Int × Option Addr × Nat)} {row : Option Nat} (h : BTag w base v ps) (hg : w.grownBy w' row) (h1 : v.ownBlock = none ∨ v.ownBlock ≠ row)
    (h2 : ∀ p ∈ ps, ∀ x, p.2.1 = some x → some x.block ≠ row) : BTag w' base v ps :=
  ⟨h.own.kept hg h1, fun p hp => (h.sh p hp).grown hg (h2 p hp), fun p hp x hx => ⟨(h.tg p hp x hx).1, (h.tg p hp x hx).2.kept hg (h2 p hp x hx)⟩⟩
set_option maxRecDepth 100000 in
theorem BTag.below {w w' : World} {base : Nat} {v : Value} {ps : List (List Int × Option Addr × Nat)} (h : BTag w base v ps) (hb : Below w.heap.size w w') : BTag w' base v ps :=
  h.kept (row := none) ⟨hb.os, hb.tape, hb.output, hb.size, fun k hk _ => hb.block k hk⟩ (by cases hv : v.ownBlock with | none => exact Or.inl rfl | some k => exact Or.inr (by simp)) (by simp)
set_option maxRecDepth 100000 in
theorem Boxed.below {w w' : World} {B : Nat} {t : TypeId} {v : Value} (h : Boxed w B t v) (hb : Below w.heap.size w w') : Boxed w' B t v := (hb.block B h.lt).trans h
set_option maxRecDepth 100000 in
/-- A turn of what is no cells leaves it. -/
theorem BTag.turned {w w' : World} {base : Nat} {v : Value} {ps : List (List Int × Option Addr × Nat)} {row : Option Nat} (h : BTag w base v ps) (hg : w.grownBy w' row) (hr : ∀ r, row = some r → ∃ o : Obj, w.heap[r]? = some o ∧ o.isCells = false) : BTag w' base v ps := by
  refine h.kept hg ?_ ?_
  · rcases h.own.2 with ⟨rfl, _⟩ | ⟨g, cap, cur, rfl, _, hgg, _⟩
    · exact Or.inl rfl
    · refine Or.inr (fun e => ?_)
      obtain ⟨o, ho, hc⟩ := hr g e.symm
      rw [hgg] at ho; cases ho; cases hc
  · intro p hp x hx e
    obtain ⟨cur, hc⟩ := (h.tg p hp x hx).2
    obtain ⟨o, ho, hc'⟩ := hr x.block e.symm
    rw [hc] at ho; cases ho; cases hc'
set_option maxRecDepth 100000 in
/-- A box is written. -/
theorem BTag.set {w : World} {base : Nat} {v : Value} {ps : List (List Int × Option Addr × Nat)} (h : BTag w base v ps) {B : Nat} {t : TypeId} {u : Value} (hB : Boxed w B t u) (ht : t ≠ 5) (ht' : t ≠ 29) (u' : Value) : BTag (w.setCell ⟨B, 0, none⟩ u') base v ps := by
  refine h.kept (grownBy_setCell' w B u') ?_ ?_
  · right
    intro e
    exact hB.not_row ht' h.own e.symm
  · intro p hp x hx e
    exact (h.tg p hp x hx).2.ne_box hB ht (by simpa using e)
set_option maxRecDepth 100000 in
theorem BTag.append {w w' : World} {base : Nat} {v v' : Value} {ps : List (List Int × Option Addr × Nat)} {p : List Int × Option Addr × Nat} (h : BTag w base v ps)
    (hown : w'.ownsRow base 29 1 v' (ps.length + 1) (ps.map bc ++ [bc p])) (hg : w.grownBy w' v.ownBlock) (hsh : Shown w p.2.1 p.1 p.2.2) (htg : ∀ x, p.2.1 = some x → base ≤ x.block ∧ Tag8 w x.block) : BTag w' base v' (ps ++ [p]) := by
  refine ⟨by rw [List.length_append, List.map_append]; exact hown, ?_, ?_⟩
  · intro q hq
    rcases List.mem_append.1 hq with hq | hq
    · exact (h.sh q hq).grown hg (fun x hx => (h.tg q hq x hx).2.ne_row h.own)
    · simp at hq; subst hq
      exact hsh.grown hg (fun x hx => (htg x hx).2.ne_row h.own)
  · intro q hq x hx
    rcases List.mem_append.1 hq with hq | hq
    · exact ⟨(h.tg q hq x hx).1, (h.tg q hq x hx).2.kept hg ((h.tg q hq x hx).2.ne_row h.own)⟩
    · simp at hq; subst hq
      exact ⟨(htg x hx).1, (htg x hx).2.kept hg ((htg x hx).2.ne_row h.own)⟩
set_option maxRecDepth 100000 in
theorem BTag.view {w : World} {base : Nat} {v : Value} {ps : List (List Int × Option Addr × Nat)} (h : BTag w base v ps) : ∃ a cap, v = .slice a ps.length cap ∧ BRow w a (ps.map (·.1)) := by
  rcases h.own.2 with ⟨hv, h0⟩ | ⟨g, cap, cur, hv, -⟩
  · have hz : ps = [] := List.eq_nil_of_length_eq_zero h0
    subst hz
    exact ⟨none, 0, hv, fun hz => absurd rfl hz⟩
  · have ho := h.own
    subst hv
    refine ⟨some ⟨g, 0, none⟩, cap, rfl, fun _ => ⟨g, rfl, fun j hj => ?_⟩⟩
    have hj' : j < ps.length := by simpa using hj
    have hc := ho.cellAt j (by omega)
    rw [List.getElem?_map, List.getElem?_eq_getElem hj'] at hc
    rw [List.getElem_map]
    exact ⟨_, _, hc, (h.sh ps[j] (List.getElem_mem hj')).1⟩
end Go.Proofs.Ytkcnpdcgonengaa
