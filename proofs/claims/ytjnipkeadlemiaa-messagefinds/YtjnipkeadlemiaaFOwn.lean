/- A slice of fields that a call makes, field by field: what it owns, and what it is to a reader. No conditions; no function of the program. -/
import Derived.Test.YtjnipkeadlemiaaFld
import Derived.Maps.AppendAt
import Derived.Test.YtjnipkeadlemiaaBRow
namespace Go.Proofs.Ytjnipkeadlemiaa
open Go.RowKit

/-- A field, and where its bytes lie. -/
def pcells (p : Fld × Option Addr × Nat) : List Value := [.int .i64 p.1.tag, .bool p.1.isB, .int .u64 p.1.n, .slice p.2.1 p.1.b.length p.2.2]
def cellsP (ps : List (Fld × Option Addr × Nat)) : List Value := (ps.map pcells).flatten
set_option maxRecDepth 100000 in
theorem cellsP_snoc (ps : List (Fld × Option Addr × Nat)) (p : Fld × Option Addr × Nat) : cellsP (ps ++ [p]) = cellsP ps ++ pcells p := by simp [cellsP]
set_option maxRecDepth 100000 in
theorem cellsP_get : ∀ (ps : List (Fld × Option Addr × Nat)) (j : Nat) (hj : j < ps.length) (i : Nat), i < 4 → (cellsP ps)[j * 4 + i]? = (pcells ps[j])[i]?
  | [], j, hj, _, _ => by simp at hj
  | p :: ps, 0, hj, i, hi => by
    have e : cellsP (p :: ps) = pcells p ++ cellsP ps := by simp [cellsP]
    rw [e, Nat.zero_mul, Nat.zero_add, List.getElem?_append_left (by simpa [pcells] using hi)]; rfl
  | p :: ps, j + 1, hj, i, hi => by
    have e : cellsP (p :: ps) = pcells p ++ cellsP ps := by simp [cellsP]
    have hl : (pcells p).length = 4 := rfl
    rw [e, List.getElem?_append_right (by omega), hl, show (j + 1) * 4 + i - 4 = j * 4 + i by omega]
    exact cellsP_get ps j (by simpa using hj) i hi

structure FOwn (T : TypeId) (w : World) (base : Nat) (v : Value) (ps : List (Fld × Option Addr × Nat)) : Prop where
  own : w.ownsRow base T 4 v ps.length (cellsP ps)
  ok : ∀ p ∈ ps, p.1.ok
  sh : ∀ p ∈ ps, p.1.shown w p.2.1 p.2.2
  ap : ∀ p ∈ ps, p.1.b ≠ [] → ∀ x, p.2.1 = some x → some x.block ≠ v.ownBlock

set_option maxRecDepth 100000 in
theorem FOwn.nil (T : TypeId) (w : World) (base : Nat) : FOwn T w base (.slice none 0 0) [] := ⟨World.ownsRow_nil _ _ _ _, by simp, by simp, by simp⟩
set_option maxRecDepth 100000 in
theorem FOwn.below {T : TypeId} {w w' : World} {base : Nat} {v : Value} {ps : List (Fld × Option Addr × Nat)} (h : FOwn T w base v ps) (hb : Below w.heap.size w w') : FOwn T w' base v ps :=
  ⟨h.own.kept (row := none) ⟨hb.os, hb.tape, hb.output, hb.size, fun k hk _ => hb.block k hk⟩ (by cases hv : v.ownBlock with | none => exact Or.inl rfl | some k => exact Or.inr (by simp)), h.ok, fun p hp => (h.sh p hp).below hb, h.ap⟩
set_option maxRecDepth 100000 in
theorem FOwn.append {T : TypeId} {w w' : World} {base : Nat} {v v' : Value} {ps : List (Fld × Option Addr × Nat)} {p : Fld × Option Addr × Nat} (h : FOwn T w base v ps)
    (hown : w'.ownsRow base T 4 v' (ps.length + 1) (cellsP ps ++ pcells p)) (hg : w.grownBy w' v.ownBlock) (hat : v'.ownBlock = v.ownBlock ∨ v'.ownBlock = some w.heap.size)
    (hok : p.1.ok) (hsh : p.1.shown w p.2.1 p.2.2) (hap : p.1.b ≠ [] → ∀ x, p.2.1 = some x → some x.block ≠ v.ownBlock) : FOwn T w' base v' (ps ++ [p]) := by
  have hsh' : ∀ q : Fld × Option Addr × Nat, q.1.shown w q.2.1 q.2.2 → (q.1.b ≠ [] → ∀ x, q.2.1 = some x → some x.block ≠ v.ownBlock) → q.1.shown w' q.2.1 q.2.2 := fun q hs ha => ⟨hs.1.grown ha hg, hs.2⟩
  have hap' : ∀ q : Fld × Option Addr × Nat, q.1.shown w q.2.1 q.2.2 → (q.1.b ≠ [] → ∀ x, q.2.1 = some x → some x.block ≠ v.ownBlock) → q.1.b ≠ [] → ∀ x, q.2.1 = some x → some x.block ≠ v'.ownBlock := fun q hs ha hne x hx => by
    rcases hat with e | e
    · rw [e]; exact ha hne x hx
    · rw [e]
      obtain ⟨b, off, hx1, -⟩ := hs.1.2 hne
      have hr := hs.1
      rw [hx1] at hx hr
      obtain rfl := Option.some.inj hx
      have := Row.lt hr hne
      simp; omega
  refine ⟨by rw [List.length_append, cellsP_snoc]; exact hown, ?_, ?_, ?_⟩
  · intro q hq
    rcases List.mem_append.1 hq with hq | hq
    · exact h.ok q hq
    · simp at hq; subst hq; exact hok
  · intro q hq
    rcases List.mem_append.1 hq with hq | hq
    · exact hsh' q (h.sh q hq) (h.ap q hq)
    · simp at hq; subst hq; exact hsh' q hsh hap
  · intro q hq
    rcases List.mem_append.1 hq with hq | hq
    · exact hap' q (h.sh q hq) (h.ap q hq)
    · simp at hq; subst hq; exact hap' q hsh hap
set_option maxRecDepth 100000 in
theorem own_fview {T : TypeId} {w : World} {base : Nat} {v : Value} {ps : List (Fld × Option Addr × Nat)} (hown : w.ownsRow base T 4 v ps.length (cellsP ps)) (hok0 : ∀ p ∈ ps, p.1.ok) (hsh0 : ∀ p ∈ ps, p.1.shown w p.2.1 p.2.2) :
    ∃ a cap, v = .slice a ps.length cap ∧ FRow w a (ps.map (·.1)) ∧ (a = none → ps.length = 0 ∧ cap = 0) ∧ ps.length ≤ cap ∧ cap ≤ maxLen := by
  have hok : ∀ f ∈ ps.map (·.1), f.ok := by
    intro f hf
    obtain ⟨p, hp, rfl⟩ := List.mem_map.1 hf
    exact hok0 p hp
  rcases hown.2 with ⟨hv, h0⟩ | ⟨g, cap, cur, hv, -, -, hc, hm, -⟩
  · have hz : ps = [] := List.eq_nil_of_length_eq_zero h0
    subst hz
    exact ⟨none, 0, hv, FRow.nil _ _, fun _ => ⟨rfl, rfl⟩, Nat.le_refl _, by simp [maxLen]⟩
  · subst hv
    refine ⟨some ⟨g, 0, none⟩, cap, rfl, ⟨hok, fun hz => ⟨g, 0, rfl, fun j hj => ?_⟩⟩, (fun e => by cases e), hc, hm⟩
    have hj' : j < ps.length := by simpa using hj
    have hcell : ∀ i, i < 4 → w.cell? ⟨g, 0 + j * 4 + i, none⟩ = (pcells ps[j])[i]? := fun i hi => by
      rw [Nat.zero_add, hown.cellAt (j * 4 + i) (by omega), cellsP_get ps j hj' i hi]
    have hsh := hsh0 ps[j] (List.getElem_mem hj')
    rw [List.getElem_map]
    exact ⟨_, _, hcell 0 (by omega), hcell 1 (by omega), hcell 2 (by omega), hcell 3 (by omega), hsh⟩
set_option maxRecDepth 100000 in
theorem FOwn.view {T : TypeId} {w : World} {base : Nat} {v : Value} {ps : List (Fld × Option Addr × Nat)} (h : FOwn T w base v ps) :
    ∃ a cap, v = .slice a ps.length cap ∧ FRow w a (ps.map (·.1)) ∧ (a = none → ps.length = 0 ∧ cap = 0) ∧ ps.length ≤ cap ∧ cap ≤ maxLen := own_fview h.own h.ok h.sh
set_option maxRecDepth 100000 in
/-- A row of fields of the call's own stays while no old block is written. -/
theorem fown_below {T : TypeId} {w w' : World} {base n : Nat} {v : Value} {xs : List Value} (h : w.ownsRow base T 4 v n xs) (hb : Below w.heap.size w w') : w'.ownsRow base T 4 v n xs :=
  h.kept (row := none) ⟨hb.os, hb.tape, hb.output, hb.size, fun k hk _ => hb.block k hk⟩ (by cases hv : v.ownBlock with | none => exact Or.inl rfl | some k => exact Or.inr (by simp))
set_option maxRecDepth 100000 in
theorem cellsP_append (ps qs : List (Fld × Option Addr × Nat)) : cellsP (ps ++ qs) = cellsP ps ++ cellsP qs := by simp [cellsP]
set_option maxRecDepth 100000 in
theorem cellsP_one (ps : List (Fld × Option Addr × Nat)) : ∀ u ∈ cellsP ps, u.oneCell' = true := by
  intro u hu
  obtain ⟨l, hl, hu⟩ := List.mem_flatten.1 hu
  obtain ⟨p, -, rfl⟩ := List.mem_map.1 hl
  simp only [pcells, List.mem_cons, List.not_mem_nil, or_false] at hu
  rcases hu with rfl | rfl | rfl | rfl <;> rfl
set_option maxRecDepth 100000 in
theorem cellsP_len : ∀ ps : List (Fld × Option Addr × Nat), (cellsP ps).length = ps.length * 4
  | [] => rfl
  | p :: ps => by
    have e : cellsP (p :: ps) = pcells p ++ cellsP ps := by simp [cellsP]
    have hl : (pcells p).length = 4 := rfl
    rw [e, List.length_append, hl, cellsP_len ps, List.length_cons]; omega
set_option maxRecDepth 100000 in
theorem pcells_one (p : Fld × Option Addr × Nat) : ∀ u ∈ pcells p, u.oneCell' = true := by
  intro u hu
  simp only [pcells, List.mem_cons, List.not_mem_nil, or_false] at hu
  rcases hu with rfl | rfl | rfl | rfl <;> rfl
set_option maxRecDepth 100000 in
/-- The cells of one field in a new block. -/
theorem pcells_new (w : World) (T : TypeId) (p : Fld × Option Addr × Nat) : ∀ j u, (pcells p)[j]? = some u → (w.alloc (.cells #[.int .i64 p.1.tag, .bool p.1.isB, .int .u64 p.1.n, .slice p.2.1 p.1.b.length p.2.2] T)).cell? ((⟨w.heap.size, 0, none⟩ : Addr).add j) = some u := by
  intro j u hj
  rw [Addr.add_lit, cell_of_row _ _ _ _ _ _ (heap_alloc_new w _), Nat.zero_add, ← hj]
  simp [pcells]
end Go.Proofs.Ytjnipkeadlemiaa
