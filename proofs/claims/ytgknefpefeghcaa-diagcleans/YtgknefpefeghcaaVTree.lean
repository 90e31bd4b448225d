/- The document's values in memory: what a value of plain data shows in a world. No conditions; no function of the program. -/
import Derived.Test.YtgknefpefeghcaaVPure
namespace Go.Proofs.Ytgknefpefeghcaa
open Go.RowKit

/-- Where a value's two slices lie, and their capacities. -/
structure VP where
  la : Option Addr
  lc : Nat
  ka : Option Addr
  kc : Nat
def I64 (n : Int) : Prop := -9223372036854775808 ≤ n ∧ n ≤ 9223372036854775807
def SliceOk (a : Option Addr) (len cap : Nat) : Prop := (a = none → len = 0 ∧ cap = 0) ∧ len ≤ cap ∧ cap ≤ maxLen
/-- Texts in memory. -/
def SRow (w : World) (ok : Nat → Prop) (a : Option Addr) (q : List ByteArray) : Prop :=
  (∀ x ∈ q, x.size ≤ maxLen) ∧ (q ≠ [] → ∃ b off, a = some ⟨b, off, none⟩ ∧ ok b ∧ ∀ j (hj : j < q.length), w.cell? ⟨b, off + j, none⟩ = some (.string q[j]))
def V.cells (v : V) (p : VP) : List Value := [.int .i64 v.k, .bool v.b, .int .i64 v.n, .int .i64 v.m, .string v.s, .slice p.la v.l.length p.lc, .slice p.ka v.keys.length p.kc]
def V.val (v : V) (p : VP) : Value := .agg #[.int .i64 v.k, .bool v.b, .int .i64 v.n, .int .i64 v.m, .string v.s, .slice p.la v.l.length p.lc, .slice p.ka v.keys.length p.kc]
/-- Value j of a slice of values, but for what it leads to. -/
def VAt (w : World) (b off j : Nat) (v : V) (p : VP) : Prop :=
  w.cell? ⟨b, off + j * 7, none⟩ = some (.int .i64 v.k) ∧ w.cell? ⟨b, off + j * 7 + 1, none⟩ = some (.bool v.b) ∧ w.cell? ⟨b, off + j * 7 + 2, none⟩ = some (.int .i64 v.n) ∧ w.cell? ⟨b, off + j * 7 + 3, none⟩ = some (.int .i64 v.m) ∧
  w.cell? ⟨b, off + j * 7 + 4, none⟩ = some (.string v.s) ∧ w.cell? ⟨b, off + j * 7 + 5, none⟩ = some (.slice p.la v.l.length p.lc) ∧ w.cell? ⟨b, off + j * 7 + 6, none⟩ = some (.slice p.ka v.keys.length p.kc)
/-- The cells of a slice of values. -/
def VCells (w : World) (ok : Nat → Prop) (a : Option Addr) (l : List V) (P : Nat → VP) : Prop := l ≠ [] → ∃ b off, a = some ⟨b, off, none⟩ ∧ ok b ∧ ∀ j (hj : j < l.length), VAt w b off j l[j] (P j)
/-- What is closed under making values. -/
def VClosed (w : World) (ok : Nat → Prop) (X : V → VP → Prop) : Prop :=
  ∀ (k : Int) (b : Bool) (n m : Int) (s : ByteArray) (l : List V) (q : List ByteArray) (p : VP) (P : Nat → VP), I64 k → I64 n → I64 m → s.size ≤ maxLen → SliceOk p.la l.length p.lc → SliceOk p.ka q.length p.kc →
    SRow w ok p.ka q → VCells w ok p.la l P → (∀ j (hj : j < l.length), X l[j] (P j)) → X (.mk k b n m s l q) p
/-- A value, and all that it leads to, in blocks that may be. -/
def VIn (w : World) (ok : Nat → Prop) (v : V) (p : VP) : Prop := ∀ X : V → VP → Prop, VClosed w ok X → X v p
set_option maxRecDepth 100000 in
theorem VIn.mk {w : World} {ok : Nat → Prop} (k : Int) (b : Bool) (n m : Int) (s : ByteArray) (l : List V) (q : List ByteArray) (p : VP) (P : Nat → VP) (hk : I64 k) (hn : I64 n) (hm : I64 m) (hs : s.size ≤ maxLen) (hl : SliceOk p.la l.length p.lc) (hq : SliceOk p.ka q.length p.kc)
    (hkeys : SRow w ok p.ka q) (hc : VCells w ok p.la l P) (hin : ∀ j (hj : j < l.length), VIn w ok l[j] (P j)) : VIn w ok (.mk k b n m s l q) p :=
  fun X hX => hX k b n m s l q p P hk hn hm hs hl hq hkeys hc (fun j hj => hin j hj X hX)
set_option maxRecDepth 100000 in
theorem VIn.ind {w : World} {ok : Nat → Prop} {motive : (v : V) → (p : VP) → VIn w ok v p → Prop}
    (mk : ∀ (k : Int) (b : Bool) (n m : Int) (s : ByteArray) (l : List V) (q : List ByteArray) (p : VP) (P : Nat → VP) (hk : I64 k) (hn : I64 n) (hm : I64 m) (hs : s.size ≤ maxLen) (hl : SliceOk p.la l.length p.lc) (hq : SliceOk p.ka q.length p.kc)
      (hkeys : SRow w ok p.ka q) (hc : VCells w ok p.la l P) (hin : ∀ j (hj : j < l.length), VIn w ok l[j] (P j)) (_ih : ∀ j (hj : j < l.length), motive l[j] (P j) (hin j hj)), motive (.mk k b n m s l q) p (VIn.mk k b n m s l q p P hk hn hm hs hl hq hkeys hc hin))
    {v : V} {p : VP} (t : VIn w ok v p) : motive v p t := by
  obtain ⟨_, h⟩ := t (fun v p => ∃ t : VIn w ok v p, motive v p t) (fun k b n m s l q p P hk hn hm hs hl hq hkeys hc hx =>
    ⟨VIn.mk k b n m s l q p P hk hn hm hs hl hq hkeys hc (fun j hj => (hx j hj).1), mk k b n m s l q p P hk hn hm hs hl hq hkeys hc (fun j hj => (hx j hj).1) (fun j hj => (hx j hj).2)⟩)
  exact h
/-- A slice of values, and all that they lead to. -/
def VRow (w : World) (ok : Nat → Prop) (a : Option Addr) (l : List V) : Prop := ∃ P, VCells w ok a l P ∧ ∀ j (hj : j < l.length), VIn w ok l[j] (P j)

/-- Two worlds agree on the blocks that may be. -/
def Agree (ok : Nat → Prop) (w w' : World) : Prop := ∀ b, ok b → b < w.heap.size → w'.heap[b]? = w.heap[b]?
set_option maxRecDepth 100000 in
theorem Agree.cell {ok : Nat → Prop} {w w' : World} (h : Agree ok w w') {b i : Nat} {u : Value} (hb : ok b) (hc : w.cell? ⟨b, i, none⟩ = some u) : w'.cell? ⟨b, i, none⟩ = some u :=
  (World.cell?_of_block (h b hb (World.block_lt_of_cell? w ⟨b, i, none⟩ hc))).trans hc
set_option maxRecDepth 100000 in
theorem agreeB {w w' : World} (hb : Below w.heap.size w w') (ok : Nat → Prop) : Agree ok w w' := fun b _ hlt => hb.block b hlt
set_option maxRecDepth 100000 in
/-- A store into a block that may not be. -/
theorem Agree.setCell {ok : Nat → Prop} {w : World} {n i : Nat} (u : Value) (hn : ¬ ok n) : Agree ok w (w.setCell ⟨n, i, none⟩ u) := fun b hb _ => Below.heap_setCell _ _ _ _ (fun e => hn (by simp only at e; rw [← e]; exact hb))
set_option maxRecDepth 100000 in
theorem SRow.nil (w : World) (ok : Nat → Prop) (a : Option Addr) : SRow w ok a [] := ⟨by simp, fun h => absurd rfl h⟩
set_option maxRecDepth 100000 in
theorem SRow.agree {w w' : World} {ok : Nat → Prop} {a : Option Addr} {q : List ByteArray} (h : SRow w ok a q) (hg : Agree ok w w') : SRow w' ok a q := by
  refine ⟨h.1, fun hz => ?_⟩
  obtain ⟨b, off, rfl, hb, hc⟩ := h.2 hz
  exact ⟨b, off, rfl, hb, fun j hj => hg.cell hb (hc j hj)⟩
set_option maxRecDepth 100000 in
theorem SRow.below {w w' : World} {ok : Nat → Prop} {a : Option Addr} {q : List ByteArray} (h : SRow w ok a q) (hb : Below w.heap.size w w') : SRow w' ok a q := h.agree (agreeB hb ok)
set_option maxRecDepth 100000 in
/-- Other blocks may be; all blocks that are named are there. -/
theorem SRow.mono {w : World} {ok ok' : Nat → Prop} {a : Option Addr} {q : List ByteArray} (h : SRow w ok a q) (hm : ∀ b, ok b → b < w.heap.size → ok' b) : SRow w ok' a q := by
  refine ⟨h.1, fun hz => ?_⟩
  obtain ⟨b, off, rfl, hb, hc⟩ := h.2 hz
  exact ⟨b, off, rfl, hm b hb (World.block_lt_of_cell? w ⟨b, off + 0, none⟩ (hc 0 (List.length_pos_iff.2 hz))), hc⟩
set_option maxRecDepth 100000 in
theorem VAt.agree {w w' : World} {ok : Nat → Prop} {b off j : Nat} {v : V} {p : VP} (h : VAt w b off j v p) (hb : ok b) (hg : Agree ok w w') : VAt w' b off j v p := by
  obtain ⟨h0, h1, h2, h3, h4, h5, h6⟩ := h
  exact ⟨hg.cell hb h0, hg.cell hb h1, hg.cell hb h2, hg.cell hb h3, hg.cell hb h4, hg.cell hb h5, hg.cell hb h6⟩
set_option maxRecDepth 100000 in
theorem VAt.below {w w' : World} {b off j : Nat} {v : V} {p : VP} (h : VAt w b off j v p) (hb : Below w.heap.size w w') : VAt w' b off j v p := h.agree (ok := fun _ => True) trivial (agreeB hb _)
set_option maxRecDepth 100000 in
theorem VAt.lt {w : World} {b off j : Nat} {v : V} {p : VP} (h : VAt w b off j v p) : b < w.heap.size := World.block_lt_of_cell? w ⟨b, off + j * 7, none⟩ h.1
set_option maxRecDepth 100000 in
theorem VCells.agree {w w' : World} {ok : Nat → Prop} {a : Option Addr} {l : List V} {P : Nat → VP} (h : VCells w ok a l P) (hg : Agree ok w w') : VCells w' ok a l P := fun hz => by
  obtain ⟨b, off, rfl, hb, hc⟩ := h hz
  exact ⟨b, off, rfl, hb, fun j hj => (hc j hj).agree hb hg⟩
set_option maxRecDepth 100000 in
theorem VCells.below {w w' : World} {ok : Nat → Prop} {a : Option Addr} {l : List V} {P : Nat → VP} (h : VCells w ok a l P) (hb : Below w.heap.size w w') : VCells w' ok a l P := h.agree (agreeB hb ok)
set_option maxRecDepth 100000 in
theorem VCells.mono {w : World} {ok ok' : Nat → Prop} {a : Option Addr} {l : List V} {P : Nat → VP} (h : VCells w ok a l P) (hm : ∀ b, ok b → b < w.heap.size → ok' b) : VCells w ok' a l P := fun hz => by
  obtain ⟨b, off, rfl, hb, hc⟩ := h hz
  exact ⟨b, off, rfl, hm b hb (hc 0 (List.length_pos_iff.2 hz)).lt, hc⟩
set_option maxRecDepth 100000 in
theorem VIn.agree {w w' : World} {ok : Nat → Prop} {v : V} {p : VP} (h : VIn w ok v p) (hg : Agree ok w w') : VIn w' ok v p := by
  induction h using VIn.ind with
  | mk k b n m s l q p P hk hn hm hs hl hq hkeys hc _ ih => exact VIn.mk k b n m s l q p P hk hn hm hs hl hq (hkeys.agree hg) (hc.agree hg) ih
set_option maxRecDepth 100000 in
theorem VIn.stays {w w' : World} {ok : Nat → Prop} {v : V} {p : VP} (h : VIn w ok v p) (hb : Below w.heap.size w w') : VIn w' ok v p := h.agree (agreeB hb ok)
set_option maxRecDepth 100000 in
theorem VIn.mono {w : World} {ok ok' : Nat → Prop} {v : V} {p : VP} (h : VIn w ok v p) (hm : ∀ b, ok b → b < w.heap.size → ok' b) : VIn w ok' v p := by
  induction h using VIn.ind with
  | mk k b n m s l q p P hk hn hm' hs hl hq hkeys hc _ ih => exact VIn.mk k b n m s l q p P hk hn hm' hs hl hq (hkeys.mono hm) (hc.mono hm) ih
set_option maxRecDepth 100000 in
theorem VRow.agree {w w' : World} {ok : Nat → Prop} {a : Option Addr} {l : List V} (h : VRow w ok a l) (hg : Agree ok w w') : VRow w' ok a l := by
  obtain ⟨P, hc, hi⟩ := h
  exact ⟨P, hc.agree hg, fun j hj => (hi j hj).agree hg⟩
set_option maxRecDepth 100000 in
theorem VRow.below {w w' : World} {ok : Nat → Prop} {a : Option Addr} {l : List V} (h : VRow w ok a l) (hb : Below w.heap.size w w') : VRow w' ok a l := h.agree (agreeB hb ok)
set_option maxRecDepth 100000 in
theorem VRow.nil (w : World) (ok : Nat → Prop) (a : Option Addr) : VRow w ok a [] := ⟨fun _ => ⟨none, 0, none, 0⟩, fun h => absurd rfl h, fun j hj => by simp at hj⟩
set_option maxRecDepth 100000 in
theorem VIn.row {w : World} {ok : Nat → Prop} {v : V} {p : VP} (h : VIn w ok v p) : VRow w ok p.la v.l := by
  induction h using VIn.ind with
  | mk k b n m s l q p P hk hn hm hs hl hq hkeys hc hin _ => exact ⟨P, hc, hin⟩
end Go.Proofs.Ytgknefpefeghcaa
