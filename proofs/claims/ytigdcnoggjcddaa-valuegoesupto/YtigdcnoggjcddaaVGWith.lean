/- A List with another value at a place: with. Conditions: values in memory, at most 1048576 of them and of their letters. -/
import Derived.Test.YtigdcnoggjcddaaVPlaced
import Derived.Test.YtigdcnoggjcddaaVCleanR
import Derived.Test.YtigdcnoggjcddaaVGoTo
import Derived.Deep.MidRow
namespace Go.Proofs.Ytigdcnoggjcddaa
open Go.RowKit Go.Maps Go.WideMaps

set_option maxRecDepth 100000 in
theorem putAt_bulk (l : List V) (i : Nat) (x : V) : V.bulk.go (putAt l i x) ≤ V.bulk.go l + x.bulk := by
  unfold putAt
  split
  · rename_i h
    rw [List.set_eq_take_append_cons_drop, if_pos h, bulkL_append, V.bulk.go]
    have h1 : V.bulk.go l = V.bulk.go (l.take i) + V.bulk.go (l.drop i) := by rw [← bulkL_append, List.take_append_drop]
    have h2 : V.bulk.go (l.drop (i + 1)) ≤ V.bulk.go (l.drop i) := by rw [List.drop_eq_getElem_cons h, V.bulk.go]; omega
    omega
  · rw [bulkL_append, bulkL_one]; omega
/-- The blocks of with's own: the value that is put in, and the answer. -/
def BX (w W : World) (u : Value) : Prop := W.heap[w.heap.size]? = some (.cells #[u] 30 (0, 0)) ∧ (∃ y, W.heap[w.heap.size + 1]? = some (.cells #[y] 30 (0, 0))) ∧ Below w.heap.size w W
set_option maxRecDepth 100000 in
theorem BX.start (w : World) (u : Value) : BX w ((w.alloc (.cells #[u] 30)).alloc (.cells #[.nilIface] 30)) u := by
  refine ⟨?_, ⟨.nilIface, ?_⟩, ((Below.refl _ _).alloc (Nat.le_refl _) _).alloc (by simp) _⟩
  · rw [Below.heap_alloc _ _ _ (by simp)]; exact heap_alloc_new _ _
  · simpa using heap_alloc_new (w.alloc (.cells #[u] 30)) (.cells #[.nilIface] 30)
set_option maxRecDepth 100000 in
theorem BX.below {w W W' : World} {u : Value} (hB : BX w W u) (hb : Below W.heap.size W W') : BX w W' u := by
  obtain ⟨a, ⟨y, b⟩, d⟩ := hB
  have l1 := (Array.getElem?_eq_some_iff.1 a).1
  exact ⟨(hb.block _ l1).trans a, ⟨y, (hb.block _ (Array.getElem?_eq_some_iff.1 b).1).trans b⟩, d.trans (hb.mono (Nat.le_of_lt l1))⟩
set_option maxRecDepth 100000 in
theorem BX.upto {w W W' : World} {u : Value} {X : Nat} (hB : BX w W u) (hX : w.heap.size + 2 ≤ X) (hb : Below X W W') : BX w W' u := by
  obtain ⟨a, ⟨y, b⟩, d⟩ := hB
  exact ⟨(hb.block _ (by omega)).trans a, ⟨y, (hb.block _ (by omega)).trans b⟩, d.trans (hb.mono (by omega))⟩
set_option maxRecDepth 100000 in
theorem BX.drew {w W : World} {u : Value} (hB : BX w W u) : BX w W.drew u := ⟨hB.1, hB.2.1, hB.2.2.drew⟩
set_option maxRecDepth 100000 in
theorem BX.set {w W : World} {u : Value} (hB : BX w W u) (x : Value) : BX w (W.setCell ⟨w.heap.size + 1, 0, none⟩ x) u := by
  obtain ⟨a, ⟨y, b⟩, d⟩ := hB
  exact ⟨(Below.heap_setCell _ _ _ _ (by simp)).trans a, ⟨_, heap_setCell_same _ _ 0 _ _ x b⟩, d.setCell (by simp) _⟩
set_option maxRecDepth 100000 in
theorem BX.cell {w W : World} {u : Value} (hB : BX w W u) : W.cell? ⟨w.heap.size, 0, none⟩ = some u := cell_of_row _ _ _ _ _ _ hB.1
set_option maxRecDepth 100000 in
theorem BX.got {w W : World} {u : Value} (hB : BX w W u) (x : Value) : (W.setCell ⟨w.heap.size + 1, 0, none⟩ x).cell? ⟨w.heap.size + 1, 0, none⟩ = some x := by
  obtain ⟨a, ⟨y, b⟩, d⟩ := hB
  exact cell_of_row _ _ _ _ _ _ (heap_setCell_same _ _ 0 _ _ x b)
set_option maxRecDepth 100000 in
/-- What stands below the answer's block, or above it, stays. -/
theorem Rep.setR {w W : World} {ok : Nat → Prop} {h : Value} {x : V} (hr : Rep W (fun b => ok b ∧ b ≠ w.heap.size + 1) h x) (u : Value) : Rep (W.setCell ⟨w.heap.size + 1, 0, none⟩ u) (fun b => ok b ∧ b ≠ w.heap.size + 1) h x :=
  hr.agree (fun _ hb _ => Below.heap_setCell _ _ _ _ hb.2)
set_option maxRecDepth 100000 in
theorem sizeVal3 : (Try.prog.info? 30).map (·.size) = some 1 := by kernel_rfl
set_option maxRecDepth 100000 in
theorem step_set0 {ops : Array Oper} {o : Oper} {a : Act} {W : World} {K : Act → World → Prop} {Q : Exit → Act → World → Prop} {E : Prop} (hgd : o.guard = none) (x y : Operand) (ho : o.op = .store 30 x y) (hd : o.dst = none)
    {B : Nat} {u z : Value} (hx : a.eval x = .pointer (some ⟨B, 0, none⟩)) (hy : a.eval y = .agg #[u]) (hu : u.oneCell' = true) (hz : W.heap[B]? = some (.cells #[z] 30 (0, 0))) (h : K a (W.setCell ⟨B, 0, none⟩ u)) :
    if Region.wanted o (yielded ops a.tmps) = true then Oper.wp Try.prog o a W K Q else E := by
  refine step_plain hgd ?_
  refine wp_store_mid 30 x y ho B 0 #[u] hx hy ?_ sizeVal3 (by simp [hu]) ?_
  · intro j hj
    have h0 : j = 0 := by simp at hj; omega
    subst h0
    exact ⟨by rw [cell_of_row _ _ _ _ _ _ hz]; rfl, frozen_of_row _ _ _ _ _ hz⟩
  · rw [hd]
    exact h
set_option maxRecDepth 100000 in
set_option maxHeartbeats 1600000 in
theorem gwith_any {w : World} {ok : Nat → Prop} (hk : ∀ b, w.heap.size ≤ b → ok b) (B : Nat) (l : List V) (a : Option Addr) (c : Nat) (c4 : w.cell? ⟨B, 4, none⟩ = some (.slice a l.length c)) (hr : RRow w ok a l) (hok : SliceOk a l.length c) {i : Int} (hi : 0 ≤ i) {u : Value} {x : V} (hu : Rep w ok u x) (hn : l.length ≤ 1048576) (hbk : i ≤ l.length → V.bulk.go (putAt l i.toNat x) ≤ 1048576) :
    Calls Try.prog 79 #[.pointer (some ⟨B, 0, none⟩), .int .i64 i, .agg #[u]] w fun e w' => ∃ h, e = .returned (.tuple #[.agg #[h], .int .i64 (if i ≤ l.length then 0 else 2)]) ∧ Rep w' ok h (if i ≤ l.length then V.list (putAt l i.toNat x) else V.null) ∧ Below w.heap.size w w' := by
  have hlt := World.block_lt_of_cell? _ _ c4
  have hone := hu.one
  have hB0 := BX.start w u
  by_cases h : i ≤ l.length
  · obtain ⟨k, rfl⟩ : ∃ k : Nat, i = k := ⟨i.toNat, by omega⟩
    have hkl : k ≤ l.length := by omega
    rw [if_pos h, if_pos h]
    have CP : Hid (∀ W, BX w W u → Calls Try.prog 89 #[.slice a l.length c, .int .i64 (k : Nat), .agg #[u]] W fun e w' => ∃ a' c', e = .returned (.slice a' (putAt l k x).length c') ∧ RRow w' (fun b => ok b ∧ b ≠ w.heap.size + 1) a' (putAt l k x) ∧ SliceOk a' (putAt l k x).length c' ∧ Below W.heap.size W w') := fun W hW => by
      obtain ⟨-, ⟨y, hy⟩, hb⟩ := hW
      have hsz := (Array.getElem?_eq_some_iff.1 hy).1
      refine placed_any (ok := fun b => ok b ∧ b ≠ w.heap.size + 1) (fun b hb => ⟨hk b (by omega), by omega⟩) c ?_ hok (by omega) hkl ?_
      · have h1 := (hr.mono (ok' := fun b => ok b ∧ b < w.heap.size) (fun b h1 h2 => ⟨h1, h2⟩)).agree (w' := W) (fun b h1 _ => hb.block b h1.2)
        exact h1.mono (fun b h1 _ => ⟨h1.1, by omega⟩)
      · have h1 := (hu.mono (ok' := fun b => ok b ∧ b < w.heap.size) (fun b h1 h2 => ⟨h1, h2⟩)).agree (w' := W) (fun b h1 _ => hb.block b h1.2)
        exact h1.mono (fun b h1 _ => ⟨h1.1, by omega⟩)
    have hbk2 : V.bulk.go (putAt l k x) ≤ 1048576 := by simpa using hbk h
    have CL : Hid (∀ W a' c', BX w W u → RRow W (fun b => ok b ∧ b ≠ w.heap.size + 1) a' (putAt l k x) → SliceOk a' (putAt l k x).length c' → Calls Try.prog 65 #[.slice a' (putAt l k x).length c'] W fun e w' => ∃ h, e = .returned (.agg #[h]) ∧ h.oneCell' = true ∧ Rep w' (fun b => ok b ∧ b ≠ w.heap.size + 1) h (V.list (putAt l k x)) ∧ Below W.heap.size W w') := fun W a' c' hW h1 h2 => by
      obtain ⟨-, ⟨y, hy⟩, hb⟩ := hW
      have hsz := (Array.getElem?_eq_some_iff.1 hy).1
      refine (listOf_any a' _ c' W (ok := fun b => ok b ∧ b ≠ w.heap.size + 1) (fun b hb => ⟨hk b (by omega), by omega⟩) h1 h2 hbk2).mono ?_
      rintro e w' ⟨g, rfl, h3, h4⟩
      exact ⟨g, rfl, h3.one, h3, h4⟩
    have HX : Hid (∀ W, BX w W u → W.cell? ⟨w.heap.size, 0, none⟩ = some u ∧ W.cell? ⟨B, 4, none⟩ = some (.slice a l.length c)) := fun W hW => ⟨hW.cell, (hW.2.2.cell (p := ⟨B, 4, none⟩) hlt).trans c4⟩
    have d4 := (HX.out _ hB0).2
    rw [show ((k : Nat) : Int).toNat = k from by simp]
    clear hk hr hok hu hn hbk hbk2 c4
    generalize putAt l k x = L at *
    go_enter Try.func79, Try.ntmps79
    go_wp2_with fail
    refine wp_region_held_drew (S := fun w' => BX w w' u) (by kernel_rfl) (BX.drew hB0) (fun hSS => ?_)
    refine wpAnyH_take (i := 0) (v := ?_) rfl (by kernel_rfl) (by kernel_rfl) (by kernel_rfl) (fun _ _ _ h => h) (Or.inl ⟨by rfl, ?_⟩) hSS ?_
    rotate_left
    · intro wz hSz
      go_simp
      try with_reducible rfl
    simp only [List.getElem_toArray, List.getElem_cons_zero, Act.put, List.setIfInBounds_toArray, List.set_cons_zero, List.set_cons_succ]
    refine wpAnyH_take (i := 1) (v := ?_) rfl (by kernel_rfl) (by kernel_rfl) (by kernel_rfl) (fun _ _ _ h => h) (Or.inl ⟨by rfl, ?_⟩) hSS ?_
    rotate_left
    · intro wz hSz
      go_simp
      try with_reducible rfl
    simp only [List.getElem_toArray, List.getElem_cons_zero, List.getElem_cons_succ, Act.put, List.setIfInBounds_toArray, List.set_cons_zero, List.set_cons_succ]
    refine wpAnyH_take (i := 2) (v := ?_) rfl (by kernel_rfl) (by kernel_rfl) (by kernel_rfl) (fun _ _ _ h => h) (Or.inl ⟨by rfl, ?_⟩) hSS ?_
    rotate_left
    · intro wz hSz
      go_simp
      try with_reducible rfl
    simp only [List.getElem_toArray, List.getElem_cons_zero, List.getElem_cons_succ, Act.put, List.setIfInBounds_toArray, List.set_cons_zero, List.set_cons_succ]
    refine wpAnyH_take (i := 3) (v := ?_) rfl (by kernel_rfl) (by kernel_rfl) (by kernel_rfl) (fun _ _ _ h => h) (Or.inl ⟨by rfl, ?_⟩) hSS ?_
    rotate_left
    · intro wz hSz
      obtain ⟨p0, p4⟩ := HX.out _ hSz
      go_simp
      try with_reducible rfl
    simp only [List.getElem_toArray, List.getElem_cons_zero, List.getElem_cons_succ, Act.put, List.setIfInBounds_toArray, List.set_cons_zero, List.set_cons_succ]
    refine wpAnyH_take (i := 4) (v := ?_) rfl (by kernel_rfl) (by kernel_rfl) (by kernel_rfl) (fun _ _ _ h => h) (Or.inl ⟨by rfl, ?_⟩) hSS ?_
    rotate_left
    · intro wz hSz
      go_simp
      try with_reducible rfl
    simp only [List.getElem_toArray, List.getElem_cons_zero, List.getElem_cons_succ, Act.put, List.setIfInBounds_toArray, List.set_cons_zero, List.set_cons_succ]
    refine wpAnyH_take (i := 5) (v := ?_) rfl (by kernel_rfl) (by kernel_rfl) (by kernel_rfl) (fun _ _ _ h => h) (Or.inl ⟨by rfl, ?_⟩) hSS ?_
    rotate_left
    · intro wz hSz
      obtain ⟨p0, p4⟩ := HX.out _ hSz
      go_simp
      try with_reducible rfl
    simp only [List.getElem_toArray, List.getElem_cons_zero, List.getElem_cons_succ, Act.put, List.setIfInBounds_toArray, List.set_cons_zero, List.set_cons_succ]
    refine wpAnyH_ready (rs := [6]) (by kernel_rfl) (by simp) (AllReadyH.cons rfl (fun K1 hK1 => ?_) AllReadyH.nil)
    refine step_plain (by rfl) ?_
    simp only [List.getElem_toArray, List.getElem_cons_zero, List.getElem_cons_succ]
    go_simp
    go_at_call 89
    refine (CP.out _ hSS).mono ?_
    rintro e w1 ⟨a1, c1, rfl, hr1, hok1, hb1⟩
    go_simp
    refine hK1.out _ _ (hSS.below hb1) (fun hSS => ?_)
    clear hK1
    refine wpAnyH_ready (rs := [7]) (by kernel_rfl) (by simp) (AllReadyH.cons rfl (fun K2 hK2 => ?_) AllReadyH.nil)
    refine step_plain (by rfl) ?_
    simp only [List.getElem_toArray, List.getElem_cons_zero, List.getElem_cons_succ]
    go_simp
    go_at_call 65
    refine (CL.out _ _ _ hSS hr1 hok1).mono ?_
    rintro e w2 ⟨g, rfl, hg1, hrep, hb2⟩
    go_simp
    refine hK2.out _ _ (hSS.below hb2) (fun hSS => ?_)
    clear hK2
    have hSx := hSS
    obtain ⟨-, ⟨y, hy⟩, -⟩ := hSx
    refine wpAnyH_ready (rs := [8]) (by kernel_rfl) (by simp) (AllReadyH.cons rfl (fun K3 hK3 => ?_) AllReadyH.nil)
    refine step_set0 (by rfl) _ _ (by rfl) (by rfl) (B := w.heap.size + 1) (u := g) (by rfl) (by rfl) hg1 hy ?_
    have hrep2 := hrep.setR (w := w) g
    have hgot := hSS.got g
    refine hK3.out _ _ (hSS.set g) (fun hSS => ?_)
    clear hK3 hrep hy
    generalize w2.setCell ⟨w.heap.size + 1, 0, none⟩ g = W3 at *
    refine wpAnyH_take (i := 9) (v := ?_) rfl (by kernel_rfl) (by kernel_rfl) (by kernel_rfl) (fun _ _ _ h => h) (Or.inl ⟨by rfl, ?_⟩) hSS ?_
    rotate_left
    · intro wz hSz
      go_simp
      try with_reducible rfl
    simp only [List.getElem_toArray, List.getElem_cons_zero, List.getElem_cons_succ, Act.put, List.setIfInBounds_toArray, List.set_cons_zero, List.set_cons_succ]
    refine wpAnyH_done (by kernel_rfl) ?_ _
    go_wp2_with fail
    exact bodyPost_ret (v := .tuple #[.agg #[g], .int .i64 0]) (by simp [results, Try.results79, go_sem, hgot]) rfl ⟨g, rfl, hrep2.mono (fun _ h _ => h.1), hSS.2.2⟩
  · rw [if_neg h, if_neg h]
    have d4 := (hB0.2.2.cell (p := ⟨B, 4, none⟩) hlt).trans c4
    have hgot := hB0.got .nilIface
    have hbel := (hB0.set .nilIface).2.2
    clear hk hr hok hu hn hbk c4
    go_enter Try.func79, Try.ntmps79
    go_wp2_with fail
    exact bodyPost_ret (v := .tuple #[.agg #[.nilIface], .int .i64 2]) (by simp [results, Try.results79, go_sem]) rfl ⟨_, rfl, Rep.null, hB0.2.2⟩
end Go.Proofs.Ytigdcnoggjcddaa

