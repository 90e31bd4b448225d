/- Rows of slices of bytes: what a slice of them shows in a world, and what a call that makes one owns. No conditions; no function of the program. -/
import Derived.Test.YtjnipkeadlemiaaRow
import Derived.Maps.AppendAt
namespace Go.Proofs.Ytjnipkeadlemiaa
open Go.RowKit

set_option maxRecDepth 100000 in
theorem Row.grown {w w' : World} {a : Option Addr} {zs : List Int} {row : Option Nat} (h : Row w a zs) (hne : zs ≠ [] → ∀ x, a = some x → some x.block ≠ row) (hg : w.grownBy w' row) : Row w' a zs := by
  refine ⟨h.1, fun hz => ?_⟩
  obtain ⟨b, off, rfl, hc⟩ := h.2 hz
  exact ⟨b, off, rfl, fun j hj => hg.cell (hc j hj) (hne hz ⟨b, off, none⟩ rfl)⟩

def bc (p : List Int × Option Addr × Nat) : Value := .slice p.2.1 p.1.length p.2.2
/-- A slice of bytes that a call makes, each bytes in memory. -/
structure BOwn (w : World) (base : Nat) (v : Value) (ps : List (List Int × Option Addr × Nat)) : Prop where
  own : w.ownsRow base 29 1 v ps.length (ps.map bc)
  sh : ∀ p ∈ ps, Row w p.2.1 p.1
  ap : ∀ p ∈ ps, p.1 ≠ [] → ∀ x, p.2.1 = some x → some x.block ≠ v.ownBlock
set_option maxRecDepth 100000 in
theorem BOwn.nil (w : World) (base : Nat) : BOwn w base (.slice none 0 0) [] := ⟨World.ownsRow_nil _ _ _ _, by simp, by simp⟩
set_option maxRecDepth 100000 in
theorem BOwn.below {w w' : World} {base : Nat} {v : Value} {ps : List (List Int × Option Addr × Nat)} (h : BOwn w base v ps) (hb : Below w.heap.size w w') : BOwn w' base v ps :=
  ⟨h.own.kept (row := none) ⟨hb.os, hb.tape, hb.output, hb.size, fun k hk _ => hb.block k hk⟩ (by cases hv : v.ownBlock with | none => exact Or.inl rfl | some k => exact Or.inr (by simp)), fun p hp => (h.sh p hp).below hb, h.ap⟩
set_option maxRecDepth 100000 in
theorem BOwn.append {w w' : World} {base : Nat} {v v' : Value} {ps : List (List Int × Option Addr × Nat)} {p : List Int × Option Addr × Nat} (h : BOwn w base v ps)
    (hown : w'.ownsRow base 29 1 v' (ps.length + 1) (ps.map bc ++ [bc p])) (hg : w.grownBy w' v.ownBlock) (hat : v'.ownBlock = v.ownBlock ∨ v'.ownBlock = some w.heap.size)
    (hsh : Row w p.2.1 p.1) (hap : p.1 ≠ [] → ∀ x, p.2.1 = some x → some x.block ≠ v.ownBlock) : BOwn w' base v' (ps ++ [p]) := by
  have hap' : ∀ q : List Int × Option Addr × Nat, Row w q.2.1 q.1 → (q.1 ≠ [] → ∀ x, q.2.1 = some x → some x.block ≠ v.ownBlock) → q.1 ≠ [] → ∀ x, q.2.1 = some x → some x.block ≠ v'.ownBlock := fun q hs ha hne x hx => by
    rcases hat with e | e
    · rw [e]; exact ha hne x hx
    · rw [e]
      obtain ⟨b, off, hx1, -⟩ := hs.2 hne
      rw [hx1] at hx hs
      obtain rfl := Option.some.inj hx
      have := Row.lt hs hne
      simp; omega
  refine ⟨by rw [List.length_append, List.map_append]; exact hown, ?_, ?_⟩
  · intro q hq
    rcases List.mem_append.1 hq with hq | hq
    · exact (h.sh q hq).grown (h.ap q hq) hg
    · simp at hq; subst hq; exact hsh.grown hap hg
  · intro q hq
    rcases List.mem_append.1 hq with hq | hq
    · exact hap' q (h.sh q hq) (h.ap q hq)
    · simp at hq; subst hq; exact hap' q hsh hap
/-- Bytes in memory, a row of them. -/
def BRow (w : World) (a : Option Addr) (bs : List (List Int)) : Prop := bs ≠ [] → ∃ b, a = some ⟨b, 0, none⟩ ∧ ∀ j (hj : j < bs.length), ∃ x c, w.cell? ⟨b, j, none⟩ = some (.slice x bs[j].length c) ∧ Row w x bs[j]
set_option maxRecDepth 100000 in
theorem BRow.below {w w' : World} {a : Option Addr} {bs : List (List Int)} (h : BRow w a bs) (hb : Below w.heap.size w w') : BRow w' a bs := fun hz => by
  obtain ⟨b, rfl, hc⟩ := h hz
  refine ⟨b, rfl, fun j hj => ?_⟩
  obtain ⟨x, c, h1, h2⟩ := hc j hj
  exact ⟨x, c, (hb.cell (p := ⟨b, j, none⟩) (World.block_lt_of_cell? w ⟨b, j, none⟩ h1)).trans h1, h2.below hb⟩
set_option maxRecDepth 100000 in
theorem BOwn.view {w : World} {base : Nat} {v : Value} {ps : List (List Int × Option Addr × Nat)} (h : BOwn w base v ps) : ∃ a cap, v = .slice a ps.length cap ∧ BRow w a (ps.map (·.1)) := by
  rcases h.own.2 with ⟨hv, h0⟩ | ⟨g, cap, cur, hv, -⟩
  · have hz : ps = [] := List.eq_nil_of_length_eq_zero h0
    subst hz
    exact ⟨none, 0, hv, fun hz => absurd rfl hz⟩
  · have ho := h.own
    subst hv
    refine ⟨some ⟨g, 0, none⟩, cap, rfl, fun _ => ⟨g, rfl, fun j hj => ?_⟩⟩
    have hj' : j < ps.length := by simpa using hj
    have hc := ho.cellAt j (by omega)
    rw [List.getElem?_map, List.getElem?_eq_getElem hj'] at hc
    rw [List.getElem_map]
    exact ⟨_, _, hc, h.sh ps[j] (List.getElem_mem hj')⟩
set_option maxRecDepth 100000 in
theorem infoB : (Try.prog.info? 29).map (fun i => (i.zero, i.size, i.bytes)) = some (some (.slice none 0 0), 1, 24) := by kernel_rfl

end Go.Proofs.Ytjnipkeadlemiaa
