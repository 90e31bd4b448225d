/- Two values at once: the blocks of 'a, b := f(x), f(y)', in whatever order they are made. No conditions. -/
import Derived.Test.YtepohbcpepkboaaGreatVClean
import Derived.Test.YtepohbcpepkboaaGreatVRep
import Derived.Deep.MidRow
namespace Go.Proofs.YtepohbcpepkboaaGreat
open Go.RowKit Go.Maps Go.WideMaps

/-- The two values that came in, in their boxes. -/
def BW (w W : World) (v : V) (p : VP) (u : V) (q : VP) : Prop := W.heap[w.heap.size]? = some (v.box p) ∧ W.heap[w.heap.size + 1]? = some (u.box q) ∧ Below w.heap.size w W
set_option maxRecDepth 100000 in
theorem BW.start (w : World) (v : V) (p : VP) (u : V) (q : VP) : BW w ((w.alloc (v.box p)).alloc (u.box q)) v p u q := by
  refine ⟨?_, ?_, ((Below.refl _ _).alloc (Nat.le_refl _) _).alloc (by simp) _⟩
  · rw [Below.heap_alloc _ _ _ (by simp)]; exact heap_alloc_new _ _
  · simpa using heap_alloc_new (w.alloc (v.box p)) (u.box q)
set_option maxRecDepth 100000 in
theorem BW.below {w W W' : World} {v : V} {p : VP} {u : V} {q : VP} (hB : BW w W v p u q) (hb : Below W.heap.size W W') : BW w W' v p u q := by
  obtain ⟨x, y, d⟩ := hB
  have l1 := (Array.getElem?_eq_some_iff.1 x).1
  exact ⟨(hb.block _ l1).trans x, (hb.block _ (Array.getElem?_eq_some_iff.1 y).1).trans y, d.trans (hb.mono (Nat.le_of_lt l1))⟩
set_option maxRecDepth 100000 in
theorem BW.drew {w W : World} {v : V} {p : VP} {u : V} {q : VP} (hB : BW w W v p u q) : BW w W.drew v p u q := ⟨hB.1, hB.2.1, hB.2.2.drew⟩
set_option maxRecDepth 100000 in
theorem BW.lt {w W : World} {v : V} {p : VP} {u : V} {q : VP} (hB : BW w W v p u q) : w.heap.size + 2 ≤ W.heap.size := (Array.getElem?_eq_some_iff.1 hB.2.1).1
set_option maxRecDepth 100000 in
/-- A value's cells, in its box. -/
theorem box_cells {W : World} {B : Nat} {v : V} {p : VP} (h : W.heap[B]? = some (v.box p)) : W.cell? ⟨B, 0, none⟩ = some (.int .i64 v.k) ∧ W.cell? ⟨B, 1, none⟩ = some (.bool v.b) ∧ W.cell? ⟨B, 2, none⟩ = some (.int .i64 v.n) ∧ W.cell? ⟨B, 3, none⟩ = some (.int .i64 v.m) ∧ W.cell? ⟨B, 4, none⟩ = some (.string v.s) ∧ W.cell? ⟨B, 5, none⟩ = some (.slice p.la v.l.length p.lc) ∧ W.cell? ⟨B, 6, none⟩ = some (.slice p.ka v.keys.length p.kc) :=
  ⟨cell_of_row _ _ _ _ _ _ h, cell_of_row _ _ _ _ _ _ h, cell_of_row _ _ _ _ _ _ h, cell_of_row _ _ _ _ _ _ h, cell_of_row _ _ _ _ _ _ h, cell_of_row _ _ _ _ _ _ h, cell_of_row _ _ _ _ _ _ h⟩
/-- An empty box. -/
def zbox : Obj := .cells #[.int .i64 0, .bool false, .int .i64 0, .int .i64 0, .string ByteArray.empty, .slice none 0 0, .slice none 0 0] 25
set_option maxRecDepth 100000 in
theorem zbox_cells {W : World} {B : Nat} (h : W.heap[B]? = some zbox) : W.cell? ⟨B, 0, none⟩ = some (.int .i64 0) ∧ W.cell? ⟨B, 1, none⟩ = some (.bool false) ∧ W.cell? ⟨B, 2, none⟩ = some (.int .i64 0) ∧ W.cell? ⟨B, 3, none⟩ = some (.int .i64 0) ∧ W.cell? ⟨B, 4, none⟩ = some (.string ByteArray.empty) ∧ W.cell? ⟨B, 5, none⟩ = some (.slice none 0 0) ∧ W.cell? ⟨B, 6, none⟩ = some (.slice none 0 0) ∧ ∀ i, W.frozen? ⟨B, i, none⟩ = false :=
  ⟨cell_of_row _ _ _ _ _ _ h, cell_of_row _ _ _ _ _ _ h, cell_of_row _ _ _ _ _ _ h, cell_of_row _ _ _ _ _ _ h, cell_of_row _ _ _ _ _ _ h, cell_of_row _ _ _ _ _ _ h, cell_of_row _ _ _ _ _ _ h, fun _ => frozen_of_row _ _ _ _ _ h⟩
/-- A box, filled. -/
def setBox (W : World) (B : Nat) (v : V) (p : VP) : World :=
  ((((((W.setCell ⟨B, 0, none⟩ (.int .i64 v.k)).setCell ⟨B, 1, none⟩ (.bool v.b)).setCell ⟨B, 2, none⟩ (.int .i64 v.n)).setCell ⟨B, 3, none⟩ (.int .i64 v.m)).setCell ⟨B, 4, none⟩ (.string v.s)).setCell ⟨B, 5, none⟩ (.slice p.la v.l.length p.lc)).setCell ⟨B, 6, none⟩ (.slice p.ka v.keys.length p.kc)
set_option maxRecDepth 100000 in
theorem setBox_same {W : World} {B : Nat} (h : W.heap[B]? = some zbox) (v : V) (p : VP) : (setBox W B v p).heap[B]? = some (v.box p) :=
  heap_setCell_same _ _ 6 _ _ _ (heap_setCell_same _ _ 5 _ _ _ (heap_setCell_same _ _ 4 _ _ _ (heap_setCell_same _ _ 3 _ _ _ (heap_setCell_same _ _ 2 _ _ _ (heap_setCell_same _ _ 1 _ _ _ (heap_setCell_same _ _ 0 _ _ _ h))))))
set_option maxRecDepth 100000 in
theorem setBox_other (W : World) (B : Nat) (v : V) (p : VP) (k : Nat) (h : k ≠ B) : (setBox W B v p).heap[k]? = W.heap[k]? := by
  unfold setBox
  rw [Below.heap_setCell _ _ _ _ h, Below.heap_setCell _ _ _ _ h, Below.heap_setCell _ _ _ _ h, Below.heap_setCell _ _ _ _ h, Below.heap_setCell _ _ _ _ h, Below.heap_setCell _ _ _ _ h, Below.heap_setCell _ _ _ _ h]
set_option maxRecDepth 100000 in
theorem setBox_below {n : Nat} {w W : World} (hb : Below n w W) {B : Nat} (h : n ≤ B) (v : V) (p : VP) : Below n w (setBox W B v p) :=
  ((((((hb.setCell h _).setCell h _).setCell h _).setCell h _).setCell h _).setCell h _).setCell h _
set_option maxRecDepth 100000 in
theorem BW.set {w W : World} {v : V} {p : VP} {u : V} {q : VP} (hB : BW w W v p u q) {B : Nat} (h : w.heap.size + 2 ≤ B) (x : V) (xp : VP) : BW w (setBox W B x xp) v p u q :=
  ⟨(setBox_other _ _ _ _ _ (by omega)).trans hB.1, (setBox_other _ _ _ _ _ (by omega)).trans hB.2.1, setBox_below hB.2.2 (by omega) x xp⟩
set_option maxRecDepth 100000 in
theorem VIn.setBox {W : World} {ok : Nat → Prop} {x : V} {xp : VP} (h : VIn W ok x xp) {B : Nat} (hB : ∀ b, ok b → b ≠ B) (v : V) (p : VP) : VIn (setBox W B v p) ok x xp :=
  h.agree (fun b hb _ => setBox_other _ _ _ _ _ (hB b hb))
/-- Two values, in boxes of the call's own. -/
def Two (w W : World) (x y : V) (s t : Value) : Prop := ∃ A B xp yp, s = .pointer (some ⟨A, 0, none⟩) ∧ t = .pointer (some ⟨B, 0, none⟩) ∧ W.heap[A]? = some (x.box xp) ∧ W.heap[B]? = some (y.box yp) ∧ VIn W (fun _ => True) x xp ∧ VIn W (fun _ => True) y yp ∧ Below w.heap.size w W
/-- Two values of the program's, in boxes of the call's own. -/
def TwoR (w W : World) (x y : V) (s t : Value) : Prop := ∃ A B a b, s = .pointer (some ⟨A, 0, none⟩) ∧ t = .pointer (some ⟨B, 0, none⟩) ∧ W.heap[A]? = some (.cells #[a] 34 (0, 0)) ∧ W.heap[B]? = some (.cells #[b] 34 (0, 0)) ∧ Rep W (fun _ => True) a x ∧ Rep W (fun _ => True) b y ∧ Below w.heap.size w W
set_option maxRecDepth 100000 in
theorem Two.mk {w W : World} {v : V} {p : VP} {u : V} {q : VP} {x y : V} {xp yp : VP} {okx oky : Nat → Prop} {A B : Nat} (hB : BW w W v p u q) (ha : W.heap[A]? = some zbox) (hb : W.heap[B]? = some zbox) (hx : VIn W okx x xp) (hy : VIn W oky y yp)
    (hA : w.heap.size + 2 ≤ A) (hAB : w.heap.size + 2 ≤ B) (hne : A ≠ B) (ox : ∀ b, okx b → b ≠ A ∧ b ≠ B) (oy : ∀ b, oky b → b ≠ A ∧ b ≠ B) :
    Two w (setBox (setBox W A x xp) B y yp) x y (.pointer (some ⟨A, 0, none⟩)) (.pointer (some ⟨B, 0, none⟩)) := by
  refine ⟨A, B, xp, yp, rfl, rfl, ?_, ?_, ?_, ?_, ?_⟩
  · rw [setBox_other _ _ _ _ _ hne]; exact setBox_same ha x xp
  · exact setBox_same ((setBox_other _ _ _ _ _ (Ne.symm hne)).trans hb) y yp
  · exact ((hx.setBox (fun b h => (ox b h).1) x xp).setBox (fun b h => (ox b h).2) y yp).mono (fun _ _ _ => trivial)
  · exact ((hy.setBox (fun b h => (oy b h).1) x xp).setBox (fun b h => (oy b h).2) y yp).mono (fun _ _ _ => trivial)
  · exact setBox_below (setBox_below hB.2.2 (by omega) x xp) (by omega) y yp
set_option maxRecDepth 100000 in
theorem Rep.set1 {W : World} {ok : Nat → Prop} {h : Value} {x : V} (hr : Rep W ok h x) {B : Nat} (hB : ∀ b, ok b → b ≠ B) (u : Value) : Rep (W.setCell ⟨B, 0, none⟩ u) ok h x :=
  hr.agree (fun b hb _ => Below.heap_setCell _ _ _ _ (hB b hb))
set_option maxRecDepth 100000 in
theorem TwoR.mk {w W : World} {x y : V} {a b : Value} {okx oky : Nat → Prop} {A B : Nat} (hb0 : Below w.heap.size w W) (ha : W.heap[A]? = some (.cells #[.nilIface] 34 (0, 0))) (hb : W.heap[B]? = some (.cells #[.nilIface] 34 (0, 0))) (hx : Rep W okx a x) (hy : Rep W oky b y)
    (hA : w.heap.size ≤ A) (hAB : w.heap.size ≤ B) (hne : A ≠ B) (ox : ∀ b, okx b → b ≠ A ∧ b ≠ B) (oy : ∀ b, oky b → b ≠ A ∧ b ≠ B) :
    TwoR w ((W.setCell ⟨A, 0, none⟩ a).setCell ⟨B, 0, none⟩ b) x y (.pointer (some ⟨A, 0, none⟩)) (.pointer (some ⟨B, 0, none⟩)) := by
  refine ⟨A, B, a, b, rfl, rfl, ?_, ?_, ?_, ?_, ?_⟩
  · rw [Below.heap_setCell _ _ _ _ hne]; exact heap_setCell_same _ _ 0 _ _ _ ha
  · exact heap_setCell_same _ _ 0 _ _ _ ((Below.heap_setCell _ _ _ _ (Ne.symm hne)).trans hb)
  · exact ((hx.set1 (fun b h => (ox b h).1) a).set1 (fun b h => (ox b h).2) b).mono (fun _ _ _ => trivial)
  · exact ((hy.set1 (fun b h => (oy b h).1) a).set1 (fun b h => (oy b h).2) b).mono (fun _ _ _ => trivial)
  · exact (hb0.setCell hA _).setCell hAB _
set_option maxRecDepth 100000 in
theorem VIn.i64n {w : World} {ok : Nat → Prop} {v : V} {p : VP} (h : VIn w ok v p) : I64 v.n := by
  induction h using VIn.ind with
  | mk k b n m s l q p P hk hn hm hs hl hq hkeys hc hin ih => exact hn
set_option maxRecDepth 100000 in
/-- A step of a region that draws its order, behind a guard. -/
theorem step_wanted2 {ops : Array Oper} {o : Oper} {a : Act} {w : World} {K : Act → World → Prop} {Q : Exit → Act → World → Prop} {E : Prop} (hw : Region.wanted o (yielded ops a.tmps) = true) (h : Oper.wp Tryz.prog o a w K Q) :
    if Region.wanted o (yielded ops a.tmps) = true then Oper.wp Tryz.prog o a w K Q else E := by
  rw [if_pos hw]
  exact h
set_option maxRecDepth 100000 in
theorem sizeV : (Tryz.prog.info? 25).map (·.size) = some 7 := by kernel_rfl
set_option maxRecDepth 100000 in
theorem sizeVal : (Tryz.prog.info? 34).map (·.size) = some 1 := by kernel_rfl
set_option maxRecDepth 100000 in
/-- A whole value, stored into an empty box, at a step of a region that draws its order. -/
theorem step_setbox {ops : Array Oper} {o : Oper} {a : Act} {W : World} {K : Act → World → Prop} {Q : Exit → Act → World → Prop} {E : Prop} (hgd : o.guard = none) (x y : Operand) (ho : o.op = .store 25 x y) (hd : o.dst = none)
    {B : Nat} {v : V} {p : VP} (hx : a.eval x = .pointer (some ⟨B, 0, none⟩)) (hy : a.eval y = v.val p) (hz : W.heap[B]? = some zbox) (h : K a (setBox W B v p)) :
    if Region.wanted o (yielded ops a.tmps) = true then Oper.wp Tryz.prog o a W K Q else E := by
  refine step_plain hgd ?_
  refine wp_store_mid 25 x y ho B 0 #[.int .i64 v.k, .bool v.b, .int .i64 v.n, .int .i64 v.m, .string v.s, .slice p.la v.l.length p.lc, .slice p.ka v.keys.length p.kc] hx hy ?_ sizeV (by simp [Value.oneCell']) ?_
  · intro j hj
    rw [Nat.zero_add]
    refine ⟨?_, frozen_of_row _ _ _ _ _ hz⟩
    rw [cell_of_row _ _ _ _ _ _ hz]
    have : j < 7 := hj
    match j, this with
    | 0, _ => rfl
    | 1, _ => rfl
    | 2, _ => rfl
    | 3, _ => rfl
    | 4, _ => rfl
    | 5, _ => rfl
    | 6, _ => rfl
  · rw [hd]
    exact h
set_option maxRecDepth 100000 in
/-- A value of the program's, stored into an empty box, likewise. -/
theorem step_set1 {ops : Array Oper} {o : Oper} {a : Act} {W : World} {K : Act → World → Prop} {Q : Exit → Act → World → Prop} {E : Prop} (hgd : o.guard = none) (x y : Operand) (ho : o.op = .store 34 x y) (hd : o.dst = none)
    {B : Nat} {u : Value} (hx : a.eval x = .pointer (some ⟨B, 0, none⟩)) (hy : a.eval y = .agg #[u]) (hu : u.oneCell' = true) (hz : W.heap[B]? = some (.cells #[.nilIface] 34 (0, 0))) (h : K a (W.setCell ⟨B, 0, none⟩ u)) :
    if Region.wanted o (yielded ops a.tmps) = true then Oper.wp Tryz.prog o a W K Q else E := by
  refine step_plain hgd ?_
  refine wp_store_mid 34 x y ho B 0 #[u] hx hy ?_ sizeVal (by simp [hu]) ?_
  · intro j hj
    have h0 : j = 0 := by simp at hj; omega
    subst h0
    exact ⟨by rw [cell_of_row _ _ _ _ _ _ hz]; rfl, frozen_of_row _ _ _ _ _ hz⟩
  · rw [hd]
    exact h
end Go.Proofs.YtepohbcpepkboaaGreat

