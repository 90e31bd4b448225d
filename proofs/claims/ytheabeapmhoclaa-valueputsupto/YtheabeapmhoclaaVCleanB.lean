/- What the document's Clean has in memory while it runs. Condition: a value of at most 1048576 values and letters. -/
import Derived.Test.YtheabeapmhoclaaVCleanR
import Derived.Test.YtheabeapmhoclaaVFind
import Derived.Deep.RegionHeld
import Derived.Deep.RegionLaw
import Derived.Deep.CutRange
namespace Go.Proofs.Ytheabeapmhoclaa
open Go.RowKit Go.Maps Go.WideMaps

/-- Clean's own blocks: the value, the answer. -/
def BC (w W : World) (v : V) (p : VP) : Prop :=
  W.heap[w.heap.size]? = some (.cells #[.int .i64 v.k, .bool v.b, .int .i64 v.n, .int .i64 v.m, .string v.s, .slice p.la v.l.length p.lc, .slice p.ka v.keys.length p.kc] 25 (0, 0)) ∧ W.heap[w.heap.size + 1]? = some (.cells #[.int .i64 0, .bool false, .int .i64 0, .int .i64 0, .string ByteArray.empty, .slice none 0 0, .slice none 0 0] 25 (0, 0)) ∧ Below w.heap.size w W
set_option maxRecDepth 100000 in
theorem BC.start (w : World) (v : V) (p : VP) : BC w ((w.alloc (.cells #[.int .i64 v.k, .bool v.b, .int .i64 v.n, .int .i64 v.m, .string v.s, .slice p.la v.l.length p.lc, .slice p.ka v.keys.length p.kc] 25)).alloc (.cells #[.int .i64 0, .bool false, .int .i64 0, .int .i64 0, .string ByteArray.empty, .slice none 0 0, .slice none 0 0] 25)) v p := by
  refine ⟨?_, ?_, ((Below.refl _ _).alloc (Nat.le_refl _) _).alloc (by simp) _⟩
  · rw [Below.heap_alloc _ _ _ (by simp)]; exact heap_alloc_new _ _
  · simpa using heap_alloc_new (w.alloc (.cells #[.int .i64 v.k, .bool v.b, .int .i64 v.n, .int .i64 v.m, .string v.s, .slice p.la v.l.length p.lc, .slice p.ka v.keys.length p.kc] 25)) (.cells #[.int .i64 0, .bool false, .int .i64 0, .int .i64 0, .string ByteArray.empty, .slice none 0 0, .slice none 0 0] 25)
set_option maxRecDepth 100000 in
theorem BC.lt {w W : World} {v : V} {p : VP} (hB : BC w W v p) : w.heap.size + 1 < W.heap.size := (Array.getElem?_eq_some_iff.1 hB.2.1).1
set_option maxRecDepth 100000 in
theorem BC.below {w W W' : World} {v : V} {p : VP} (hB : BC w W v p) (hb : Below W.heap.size W W') : BC w W' v p := by
  have l := hB.lt
  obtain ⟨a, b, d⟩ := hB
  exact ⟨(hb.block _ (by omega)).trans a, (hb.block _ l).trans b, d.trans (hb.mono (by omega))⟩
set_option maxRecDepth 100000 in
theorem BC.set {w W : World} {v : V} {p : VP} (hB : BC w W v p) {i k : Nat} (hk : w.heap.size + 2 ≤ k) (u : Value) : BC w (W.setCell ⟨k, i, none⟩ u) v p := by
  obtain ⟨a, b, d⟩ := hB
  exact ⟨(heap_setCell_other _ _ _ _ (by simp; omega)).trans a, (heap_setCell_other _ _ _ _ (by simp; omega)).trans b, d.setCell (by simp; omega) _⟩
set_option maxRecDepth 100000 in
theorem BC.grown {w W W' : World} {v : V} {p : VP} (hB : BC w W v p) {row : Option Nat} (hg : W.grownBy W' row) (hr : ∀ k, row = some k → w.heap.size + 2 ≤ k) : BC w W' v p := by
  have l := hB.lt
  obtain ⟨a, b, d⟩ := hB
  exact ⟨(hg.block _ (by omega) (fun e => by have := hr _ e.symm; omega)).trans a, (hg.block _ l (fun e => by have := hr _ e.symm; omega)).trans b, d.grown hg (by omega) (fun k hk => by have := hr k hk; omega)⟩
set_option maxRecDepth 100000 in
theorem BC.cells {w W : World} {v : V} {p : VP} (hB : BC w W v p) (i : Nat) : W.cell? ⟨w.heap.size, i, none⟩ = (v.cells p)[i]? := by
  rw [cell_of_row _ _ _ _ _ _ hB.1]; simp [V.cells]
set_option maxRecDepth 100000 in
theorem VIn.plain (w : World) (ok : Nat → Prop) (k : Int) (b : Bool) (n m : Int) (s : ByteArray) (hk : I64 k) (hn : I64 n) (hm : I64 m) (hs : s.size ≤ maxLen) : VIn w ok (.mk k b n m s [] []) ⟨none, 0, none, 0⟩ :=
  VIn.mk k b n m s [] [] _ (fun _ => ⟨none, 0, none, 0⟩) hk hn hm hs ⟨fun _ => ⟨rfl, rfl⟩, Nat.le_refl _, by simp [maxLen]⟩ ⟨fun _ => ⟨rfl, rfl⟩, Nat.le_refl _, by simp [maxLen]⟩ (SRow.nil _ _ _) (fun h => absurd rfl h) (fun j hj => by simp at hj)
set_option maxRecDepth 100000 in
theorem new_cells (W : World) (v : V) (p : VP) : ∀ j u, (v.cells p)[j]? = some u → (W.alloc (.cells #[.int .i64 v.k, .bool v.b, .int .i64 v.n, .int .i64 v.m, .string v.s, .slice p.la v.l.length p.lc, .slice p.ka v.keys.length p.kc] 25)).cell? ((⟨W.heap.size, 0, none⟩ : Addr).add j) = some u := by
  intro j u h
  rw [Addr.add_lit, cell_of_row _ _ _ _ _ _ (heap_alloc_new W _)]
  simpa [V.cells] using h
set_option maxRecDepth 100000 in
theorem set7 {w W : World} {v : V} {p : VP} (hB : BC w W v p) (u0 u1 u2 u3 u4 u5 u6 : Value) {x : V} {xp : VP} (hv : VIn W (fun b => w.heap.size + 3 ≤ b) x xp) :
    (((((((W.setCell ⟨w.heap.size + 1, 0, none⟩ u0).setCell ⟨w.heap.size + 1, 1, none⟩ u1).setCell ⟨w.heap.size + 1, 2, none⟩ u2).setCell ⟨w.heap.size + 1, 3, none⟩ u3).setCell ⟨w.heap.size + 1, 4, none⟩ u4).setCell ⟨w.heap.size + 1, 5, none⟩ u5).setCell ⟨w.heap.size + 1, 6, none⟩ u6).heap[w.heap.size + 1]? = some (.cells #[u0, u1, u2, u3, u4, u5, u6] 25 (0, 0)) ∧ Below w.heap.size w (((((((W.setCell ⟨w.heap.size + 1, 0, none⟩ u0).setCell ⟨w.heap.size + 1, 1, none⟩ u1).setCell ⟨w.heap.size + 1, 2, none⟩ u2).setCell ⟨w.heap.size + 1, 3, none⟩ u3).setCell ⟨w.heap.size + 1, 4, none⟩ u4).setCell ⟨w.heap.size + 1, 5, none⟩ u5).setCell ⟨w.heap.size + 1, 6, none⟩ u6) ∧ VIn (((((((W.setCell ⟨w.heap.size + 1, 0, none⟩ u0).setCell ⟨w.heap.size + 1, 1, none⟩ u1).setCell ⟨w.heap.size + 1, 2, none⟩ u2).setCell ⟨w.heap.size + 1, 3, none⟩ u3).setCell ⟨w.heap.size + 1, 4, none⟩ u4).setCell ⟨w.heap.size + 1, 5, none⟩ u5).setCell ⟨w.heap.size + 1, 6, none⟩ u6) (fun b => w.heap.size ≤ b) x xp := by
  refine ⟨?_, ?_, ?_⟩
  · exact heap_setCell_same _ _ 6 _ _ _ (heap_setCell_same _ _ 5 _ _ _ (heap_setCell_same _ _ 4 _ _ _ (heap_setCell_same _ _ 3 _ _ _ (heap_setCell_same _ _ 2 _ _ _ (heap_setCell_same _ _ 1 _ _ _ (heap_setCell_same _ _ 0 _ _ _ hB.2.1))))))
  · exact ((((((hB.2.2.setCell (by simp) _).setCell (by simp) _).setCell (by simp) _).setCell (by simp) _).setCell (by simp) _).setCell (by simp) _).setCell (by simp) _
  · exact (((((((hv.agree (Agree.setCell u0 (by omega))).agree (Agree.setCell u1 (by omega))).agree (Agree.setCell u2 (by omega))).agree (Agree.setCell u3 (by omega))).agree (Agree.setCell u4 (by omega))).agree (Agree.setCell u5 (by omega))).agree (Agree.setCell u6 (by omega))).mono (fun b hb _ => by omega)
set_option maxRecDepth 100000 in
theorem i64_0 : I64 0 := by unfold I64; omega
set_option maxRecDepth 100000 in
theorem empty_max : ByteArray.empty.size ≤ maxLen := by simp [maxLen]
end Go.Proofs.Ytheabeapmhoclaa
