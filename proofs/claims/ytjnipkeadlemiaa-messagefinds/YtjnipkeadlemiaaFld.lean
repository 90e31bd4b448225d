/- Fields in memory: what a slice of fields shows in a world. No conditions; no function of the program. -/
import Derived.Test.YtjnipkeadlemiaaApp
namespace Go.Proofs.Ytjnipkeadlemiaa
open Go.RowKit

/-- A field: its tag, whether it is of bytes, its number, its bytes. -/
structure Fld where
  tag : Int
  isB : Bool
  n : Int
  b : List Int

/-- A field's value, its bytes at address a. -/
def Fld.val (f : Fld) (a : Option Addr) (c : Nat) : Value := .agg #[.int .i64 f.tag, .bool f.isB, .int .u64 f.n, .slice a f.b.length c]
/-- A field that can be: its numbers are of their kinds. -/
def Fld.ok (f : Fld) : Prop := (-9223372036854775808 ≤ f.tag ∧ f.tag ≤ 9223372036854775807) ∧ (0 ≤ f.n ∧ f.n < 18446744073709551616)
/-- Its bytes in a world. -/
def Fld.shown (f : Fld) (w : World) (a : Option Addr) (c : Nat) : Prop := Row w a f.b ∧ (a = none → f.b.length = 0 ∧ c = 0) ∧ f.b.length ≤ c ∧ c ≤ maxLen

/-- Field j of a slice of fields. -/
def FAt (w : World) (b off j : Nat) (f : Fld) : Prop := ∃ a c, w.cell? ⟨b, off + j * 4, none⟩ = some (.int .i64 f.tag) ∧ w.cell? ⟨b, off + j * 4 + 1, none⟩ = some (.bool f.isB) ∧ w.cell? ⟨b, off + j * 4 + 2, none⟩ = some (.int .u64 f.n) ∧
  w.cell? ⟨b, off + j * 4 + 3, none⟩ = some (.slice a f.b.length c) ∧ f.shown w a c
/-- In the world w the cells from address a on hold the fields fs. -/
def FRow (w : World) (a : Option Addr) (fs : List Fld) : Prop :=
  (∀ f ∈ fs, f.ok) ∧ (fs ≠ [] → ∃ b off, a = some ⟨b, off, none⟩ ∧ ∀ j (hj : j < fs.length), FAt w b off j fs[j])
set_option maxRecDepth 100000 in
theorem FRow.nil (w : World) (a : Option Addr) : FRow w a [] := ⟨by simp, fun h => absurd rfl h⟩
set_option maxRecDepth 100000 in
theorem Fld.shown.below {f : Fld} {w w' : World} {a : Option Addr} {c : Nat} (h : f.shown w a c) (hb : Below w.heap.size w w') : f.shown w' a c := ⟨h.1.below hb, h.2⟩
set_option maxRecDepth 100000 in
theorem FAt.below {w w' : World} {b off j : Nat} {f : Fld} (h : FAt w b off j f) (hb : Below w.heap.size w w') : FAt w' b off j f := by
  obtain ⟨a, c, h0, h1, h2, h3, h4⟩ := h
  have hlt : b < w.heap.size := World.block_lt_of_cell? w ⟨b, off + j * 4, none⟩ h0
  exact ⟨a, c, (hb.cell (p := ⟨b, _, none⟩) hlt).trans h0, (hb.cell (p := ⟨b, _, none⟩) hlt).trans h1, (hb.cell (p := ⟨b, _, none⟩) hlt).trans h2, (hb.cell (p := ⟨b, _, none⟩) hlt).trans h3, h4.below hb⟩
set_option maxRecDepth 100000 in
theorem FRow.below {w w' : World} {a : Option Addr} {fs : List Fld} (h : FRow w a fs) (hb : Below w.heap.size w w') : FRow w' a fs := by
  refine ⟨h.1, fun hz => ?_⟩
  obtain ⟨b, off, rfl, hc⟩ := h.2 hz
  exact ⟨b, off, rfl, fun j hj => (hc j hj).below hb⟩
set_option maxRecDepth 100000 in
theorem FRow.drew {w : World} {a : Option Addr} {fs : List Fld} (h : FRow w a fs) : FRow w.drew a fs := h.below (Below.drew (Below.refl _ _))
set_option maxRecDepth 100000 in
theorem FRow.alloc {w : World} {a : Option Addr} {fs : List Fld} (h : FRow w a fs) (o : Obj) : FRow (w.alloc o) a fs := h.below ((Below.refl _ _).alloc (Nat.le_refl _) o)
set_option maxRecDepth 100000 in
theorem FRow.take {w : World} {a : Option Addr} {fs : List Fld} (h : FRow w a fs) (k : Nat) : FRow w a (fs.take k) := by
  refine ⟨fun f hf => h.1 f (List.mem_of_mem_take hf), fun hz => ?_⟩
  have hz' : fs ≠ [] := by intro e; rw [e] at hz; simp at hz
  obtain ⟨b, off, rfl, hc⟩ := h.2 hz'
  refine ⟨b, off, rfl, fun j hj => ?_⟩
  have hj' : j < fs.length ∧ j < k := by simp at hj; omega
  have := hc j hj'.1
  rwa [List.getElem_take]
end Go.Proofs.Ytjnipkeadlemiaa
