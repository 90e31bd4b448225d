/- What Right, right, nearest answer of any rule: whether it may be. They only read, and keep the rule in a box of their own. No conditions. -/
import Derived.Test.YtbcbnoadbjlklabBkA
import Derived.Deep.RegionHeld
import Derived.Deep.MidRow
import Derived.Laws.Rows
namespace Go.Proofs.Ytbcbnoadbjlklab
open Go.RowKit

def rightB (b c t m : Int) : Bool := decide (1 ≤ b ∧ b ≤ c ∧ c ≤ 1000000 ∧ 1 ≤ t ∧ t ≤ 100 ∧ 1 ≤ m ∧ m ≤ 1000000)
set_option maxRecDepth 100000 in
theorem below_alloc (w : World) (o : Obj) : Below w.heap.size w (w.alloc o) := (Below.refl _ w).alloc (Nat.le_refl _) o
/-- A rule's box, and all as it was but what is new. -/
def Rul (w W : World) (b c t m : Int) : Prop := W.heap[w.heap.size]? = some (.cells #[.int .i64 b, .int .i64 c, .int .i64 t, .int .i64 m] 23) ∧ Below w.heap.size w W
set_option maxRecDepth 100000 in
theorem Rul.start (w : World) (b c t m : Int) : Rul w (w.alloc (.cells #[.int .i64 b, .int .i64 c, .int .i64 t, .int .i64 m] 23)) b c t m := ⟨heap_alloc_new _ _, below_alloc _ _⟩
set_option maxRecDepth 100000 in
theorem Rul.below {w W W' : World} {b c t m : Int} (h : Rul w W b c t m) (hb : Below W.heap.size W W') : Rul w W' b c t m :=
  ⟨(hb.block _ (Array.getElem?_eq_some_iff.1 h.1).1).trans h.1, h.2.trans (hb.mono h.2.size)⟩
set_option maxRecDepth 100000 in
theorem Rul.drew {w W : World} {b c t m : Int} (h : Rul w W b c t m) : Rul w W.drew b c t m := h.below (Below.drew (Below.refl _ _))
set_option maxRecDepth 100000 in
theorem Rul.cells {w W : World} {b c t m : Int} (h : Rul w W b c t m) : W.cell? ⟨w.heap.size, 0, none⟩ = some (.int .i64 b) ∧ W.cell? ⟨w.heap.size, 1, none⟩ = some (.int .i64 c) ∧ W.cell? ⟨w.heap.size, 2, none⟩ = some (.int .i64 t) ∧ W.cell? ⟨w.heap.size, 3, none⟩ = some (.int .i64 m) :=
  ⟨cell_of_row _ _ _ _ _ _ h.1, cell_of_row _ _ _ _ _ _ h.1, cell_of_row _ _ _ _ _ _ h.1, cell_of_row _ _ _ _ _ _ h.1⟩
set_option maxRecDepth 100000 in
theorem step_plain {ops : Array Oper} {o : Oper} {a : Act} {w : World} {K : Act → World → Prop} {Q : Exit → Act → World → Prop} {E : Prop} (hgd : o.guard = none) (h : Oper.wp Try.prog o a w K Q) :
    if Region.wanted o (yielded ops a.tmps) = true then Oper.wp Try.prog o a w K Q else E := by
  have hw : Region.wanted o (yielded ops a.tmps) = true := by simp [Region.wanted, hgd]
  rw [if_pos hw]
  exact h
set_option maxRecDepth 100000 in
theorem step_wanted {ops : Array Oper} {o : Oper} {a : Act} {w : World} {K : Act → World → Prop} {Q : Exit → Act → World → Prop} {E : Prop} (hw : Region.wanted o (yielded ops a.tmps) = true) (h : Oper.wp Try.prog o a w K Q) :
    if Region.wanted o (yielded ops a.tmps) = true then Oper.wp Try.prog o a w K Q else E := by
  rw [if_pos hw]
  exact h
set_option maxRecDepth 100000 in
theorem sizeR : (Try.prog.info? 23).map (·.size) = some 4 := by kernel_rfl
/-- A rule's box, filled. -/
def setR (W : World) (B : Nat) (b c t m : Int) : World := (((W.setCell ⟨B, 0, none⟩ (.int .i64 b)).setCell ⟨B, 1, none⟩ (.int .i64 c)).setCell ⟨B, 2, none⟩ (.int .i64 t)).setCell ⟨B, 3, none⟩ (.int .i64 m)
def zR : Obj := .cells #[.int .i64 0, .int .i64 0, .int .i64 0, .int .i64 0] 23
set_option maxRecDepth 100000 in
theorem setR_same {W : World} {B : Nat} (h : W.heap[B]? = some zR) (b c t m : Int) : (setR W B b c t m).heap[B]? = some (.cells #[.int .i64 b, .int .i64 c, .int .i64 t, .int .i64 m] 23) :=
  heap_setCell_same _ _ 3 _ _ _ (heap_setCell_same _ _ 2 _ _ _ (heap_setCell_same _ _ 1 _ _ _ (heap_setCell_same _ _ 0 _ _ _ h)))
set_option maxRecDepth 100000 in
theorem setR_below {n : Nat} {w W : World} (hb : Below n w W) {B : Nat} (h : n ≤ B) (b c t m : Int) : Below n w (setR W B b c t m) :=
  (((hb.setCell h _).setCell h _).setCell h _).setCell h _
set_option maxRecDepth 100000 in
theorem Rul.set {w W : World} {b c t m : Int} (h : Rul w W b c t m) (b' c' t' m' : Int) : Rul w (setR W (w.heap.size + 1) b' c' t' m') b c t m := by
  refine ⟨?_, setR_below h.2 (by omega) _ _ _ _⟩
  unfold setR
  rw [Below.heap_setCell _ _ _ _ (by simp), Below.heap_setCell _ _ _ _ (by simp), Below.heap_setCell _ _ _ _ (by simp), Below.heap_setCell _ _ _ _ (by simp)]
  exact h.1
set_option maxRecDepth 100000 in
/-- A whole rule, stored into an empty box, at a step of a region that draws its order. -/
theorem step_setR {ops : Array Oper} {o : Oper} {a : Act} {W : World} {K : Act → World → Prop} {Q : Exit → Act → World → Prop} {E : Prop} (hgd : o.guard = none) (x y : Operand) (ho : o.op = .store 23 x y) (hd : o.dst = none)
    {B : Nat} {b c t m : Int} (hx : a.eval x = .pointer (some ⟨B, 0, none⟩)) (hy : a.eval y = .agg #[.int .i64 b, .int .i64 c, .int .i64 t, .int .i64 m]) (hz : W.heap[B]? = some zR) (h : K a (setR W B b c t m)) :
    if Region.wanted o (yielded ops a.tmps) = true then Oper.wp Try.prog o a W K Q else E := by
  refine step_plain hgd ?_
  refine wp_store_mid 23 x y ho B 0 #[.int .i64 b, .int .i64 c, .int .i64 t, .int .i64 m] hx hy ?_ sizeR (by simp [Value.oneCell']) ?_
  · intro j hj
    rw [Nat.zero_add]
    refine ⟨?_, frozen_of_row _ _ _ _ _ hz⟩
    rw [cell_of_row _ _ _ _ _ _ hz]
    have : j < 4 := hj
    match j, this with
    | 0, _ => rfl
    | 1, _ => rfl
    | 2, _ => rfl
    | 3, _ => rfl
  · rw [hd]
    exact h
set_option maxRecDepth 100000 in
set_option maxHeartbeats 800000 in
theorem nearest_any (b c t m : Int) (w : World) : Calls Try.prog 20 #[.agg #[.int .i64 b, .int .i64 c, .int .i64 t, .int .i64 m]] w fun e w' =>
    e = .returned (.agg #[.int .i64 (brought 1 (brought 1 1000000 c) b), .int .i64 (brought 1 1000000 c), .int .i64 (brought 1 100 t), .int .i64 (brought 1 1000000 m)]) ∧ Below w.heap.size w w' := by
  go_enter Try.func20, Try.ntmps20
  go_wp2_with (go_at_call 24; refine (within_any _ _ _).mono ?_; rintro e w' ⟨rfl, rfl⟩)
  generalize hC : brought 1 1000000 c = C
  have h0 : Rul w ((w.alloc (.cells #[.int .i64 b, .int .i64 c, .int .i64 t, .int .i64 m] 23)).alloc zR) b c t m := (Rul.start w b c t m).below (below_alloc _ _)
  have h1 : ((w.alloc (.cells #[.int .i64 b, .int .i64 c, .int .i64 t, .int .i64 m] 23)).alloc zR).heap[w.heap.size + 1]? = some zR := by simpa using heap_alloc_new (w.alloc (.cells #[.int .i64 b, .int .i64 c, .int .i64 t, .int .i64 m] 23)) zR
  unfold zR at *
  generalize (w.alloc (.cells #[.int .i64 b, .int .i64 c, .int .i64 t, .int .i64 m] 23)).alloc _ = W0 at *
  refine wp_region_held_drew (S := fun w' => Rul w w' b c t m) (by kernel_rfl) h0.drew (fun hSS => ?_)
  refine wpAnyH_take (i := 0) (v := ?_) rfl (by kernel_rfl) (by kernel_rfl) (by kernel_rfl) (fun _ _ _ h => h) (Or.inl ⟨by rfl, ?_⟩) hSS ?_
  rotate_left
  · intro wz hSz
    go_simp
    try with_reducible rfl
  simp only [List.getElem_toArray, List.getElem_cons_zero, Act.put, List.setIfInBounds_toArray, List.set_cons_zero, List.set_cons_succ]
  refine wpAnyH_take (i := 1) (v := ?_) rfl (by kernel_rfl) (by kernel_rfl) (by kernel_rfl) (fun _ _ _ h => h) (Or.inl ⟨by rfl, ?_⟩) hSS ?_
  rotate_left
  · intro wz hSz
    obtain ⟨z0, z1, z2, z3⟩ := hSz.cells
    go_simp
    try with_reducible rfl
  simp only [List.getElem_toArray, List.getElem_cons_zero, List.getElem_cons_succ, Act.put, List.setIfInBounds_toArray, List.set_cons_zero, List.set_cons_succ]
  refine wpAnyH_take (i := 2) (v := ?_) rfl (by kernel_rfl) (by kernel_rfl) (by kernel_rfl) (fun _ _ _ h => h) (Or.inl ⟨by rfl, ?_⟩) hSS ?_
  rotate_left
  · intro wz hSz
    go_simp
    try with_reducible rfl
  simp only [List.getElem_toArray, List.getElem_cons_zero, List.getElem_cons_succ, Act.put, List.setIfInBounds_toArray, List.set_cons_zero, List.set_cons_succ]
  refine wpAnyH_take (i := 4) (v := ?_) rfl (by kernel_rfl) (by kernel_rfl) (by kernel_rfl) (fun _ _ _ h => h) (Or.inl ⟨by rfl, ?_⟩) hSS ?_
  rotate_left
  · intro wz hSz
    go_simp
    try with_reducible rfl
  simp only [List.getElem_toArray, List.getElem_cons_zero, List.getElem_cons_succ, Act.put, List.setIfInBounds_toArray, List.set_cons_zero, List.set_cons_succ]
  refine wpAnyH_take (i := 5) (v := ?_) rfl (by kernel_rfl) (by kernel_rfl) (by kernel_rfl) (fun _ _ _ h => h) (Or.inl ⟨by rfl, ?_⟩) hSS ?_
  rotate_left
  · intro wz hSz
    go_simp
    try with_reducible rfl
  simp only [List.getElem_toArray, List.getElem_cons_zero, List.getElem_cons_succ, Act.put, List.setIfInBounds_toArray, List.set_cons_zero, List.set_cons_succ]
  refine wpAnyH_take (i := 6) (v := ?_) rfl (by kernel_rfl) (by kernel_rfl) (by kernel_rfl) (fun _ _ _ h => h) (Or.inl ⟨by rfl, ?_⟩) hSS ?_
  rotate_left
  · intro wz hSz
    obtain ⟨z0, z1, z2, z3⟩ := hSz.cells
    go_simp
    try with_reducible rfl
  simp only [List.getElem_toArray, List.getElem_cons_zero, List.getElem_cons_succ, Act.put, List.setIfInBounds_toArray, List.set_cons_zero, List.set_cons_succ]
  refine wpAnyH_take (i := 8) (v := ?_) rfl (by kernel_rfl) (by kernel_rfl) (by kernel_rfl) (fun _ _ _ h => h) (Or.inl ⟨by rfl, ?_⟩) hSS ?_
  rotate_left
  · intro wz hSz
    go_simp
    try with_reducible rfl
  simp only [List.getElem_toArray, List.getElem_cons_zero, List.getElem_cons_succ, Act.put, List.setIfInBounds_toArray, List.set_cons_zero, List.set_cons_succ]
  refine wpAnyH_take (i := 9) (v := ?_) rfl (by kernel_rfl) (by kernel_rfl) (by kernel_rfl) (fun _ _ _ h => h) (Or.inl ⟨by rfl, ?_⟩) hSS ?_
  rotate_left
  · intro wz hSz
    obtain ⟨z0, z1, z2, z3⟩ := hSz.cells
    go_simp
    try with_reducible rfl
  simp only [List.getElem_toArray, List.getElem_cons_zero, List.getElem_cons_succ, Act.put, List.setIfInBounds_toArray, List.set_cons_zero, List.set_cons_succ]
  refine wpAnyH_ready (rs := [3]) (by kernel_rfl) (by simp) (AllReadyH.cons rfl (fun K hK => ?_) AllReadyH.nil)
  go_simp
  go_at_call 24
  refine (within_any _ _ _).mono ?_
  rintro e wk ⟨rfl, rfl⟩
  go_simp
  refine hK.out _ _ hSS (fun hSS => ?_)
  clear hK
  refine wpAnyH_ready (rs := [7]) (by kernel_rfl) (by simp) (AllReadyH.cons rfl (fun K hK => ?_) AllReadyH.nil)
  go_simp
  go_at_call 24
  refine (within_any _ _ _).mono ?_
  rintro e wk ⟨rfl, rfl⟩
  go_simp
  refine hK.out _ _ hSS (fun hSS => ?_)
  clear hK
  refine wpAnyH_ready (rs := [10]) (by kernel_rfl) (by simp) (AllReadyH.cons rfl (fun K hK => ?_) AllReadyH.nil)
  go_simp
  go_at_call 24
  refine (within_any _ _ _).mono ?_
  rintro e wk ⟨rfl, rfl⟩
  go_simp
  refine hK.out _ _ hSS (fun hSS => ?_)
  clear hK
  refine wpAnyH_take (i := 11) (v := ?_) rfl (by kernel_rfl) (by kernel_rfl) (by kernel_rfl) (fun _ _ _ h => h) (Or.inl ⟨by rfl, ?_⟩) hSS ?_
  rotate_left
  · intro wz hSz
    go_simp
    try with_reducible rfl
  simp only [List.getElem_toArray, List.getElem_cons_zero, List.getElem_cons_succ, Act.put, List.setIfInBounds_toArray, List.set_cons_zero, List.set_cons_succ]
  refine wpAnyH_ready (rs := [12]) (by kernel_rfl) (by simp) (AllReadyH.cons rfl (fun K hK => ?_) AllReadyH.nil)
  refine step_setR rfl (.tmp 2) (.tmp 18) rfl rfl (B := w.heap.size + 1) rfl rfl h1 ?_
  have h2 := setR_same (W := W0.drew) h1 (brought 1 C b) C (brought 1 100 t) (brought 1 1000000 m)
  have h3 := hSS.set (brought 1 C b) C (brought 1 100 t) (brought 1 1000000 m)
  generalize setR W0.drew (w.heap.size + 1) (brought 1 C b) C (brought 1 100 t) (brought 1 1000000 m) = W1 at *
  refine hK.out _ _ h3 (fun hSS => ?_)
  clear hK
  refine wpAnyH_done (by kernel_rfl) ?_ _
  have y0 := cell_of_row W1 (w.heap.size + 1) 0 _ _ _ h2
  have y1 := cell_of_row W1 (w.heap.size + 1) 1 _ _ _ h2
  have y2 := cell_of_row W1 (w.heap.size + 1) 2 _ _ _ h2
  have y3 := cell_of_row W1 (w.heap.size + 1) 3 _ _ _ h2
  go_wp2_with fail
  refine bodyPost_ret (v := .agg #[.int .i64 (brought 1 C b), .int .i64 C, .int .i64 (brought 1 100 t), .int .i64 (brought 1 1000000 m)]) (by simp [results, Try.results20, go_sem, y0, y1, y2, y3]) rfl ⟨by rw [hC], hSS.2⟩
set_option maxRecDepth 100000 in
theorem lright_any (b c t m : Int) (w : World) : Calls Try.prog 8 #[.agg #[.int .i64 b, .int .i64 c, .int .i64 t, .int .i64 m]] w fun e w' =>
    e = .returned (.bool (rightB b c t m)) ∧ Below w.heap.size w w' := by
  go_enter Try.func8, Try.ntmps8
  go_wp2
  all_goals (go_ret; refine ⟨ret_bool ?_, below_alloc _ _⟩; show _ = decide _; first | exact decide_eq_decide.2 (by omega) | exact (decide_eq_false (by omega)).symm)
end Go.Proofs.Ytbcbnoadbjlklab
