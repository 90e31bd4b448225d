/- A value with another one where steps lead: With. Conditions: clean values and steps in memory, at most 1048575 values and letters together. -/
import Derived.Test.YtheabeapmhoclaaVPlaced
import Derived.Test.YtheabeapmhoclaaVCleanR
import Derived.Test.YtheabeapmhoclaaVGoTo
import Derived.Deep.MidRow
import Derived.Test.YtheabeapmhoclaaVClone
import Derived.Test.YtheabeapmhoclaaVList
import Derived.Test.YtheabeapmhoclaaVCopy
import Derived.Lib.AppendZerosOnto
import Derived.Lib.Overlaps
import Derived.Laws.Externs
import Derived.Deep.RegionLaw
import Derived.Shelf.RegionOpenPlain
import Derived.Test.YtheabeapmhoclaaVCleanQ
import Derived.Shelf.Spec.SearchS
import Derived.Deep.RegionHeld
namespace Go.Proofs.Ytheabeapmhoclaa
open Go.RowKit Go.Maps Go.WideMaps

set_option maxRecDepth 100000 in
theorem putAt_bulk (l : List V) (i : Nat) (x : V) : V.bulk.go (putAt l i x) ≤ V.bulk.go l + x.bulk := by
  unfold putAt
  split
  · rename_i h
    rw [List.set_eq_take_append_cons_drop, if_pos h, bulkL_append, V.bulk.go]
    have h1 : V.bulk.go l = V.bulk.go (l.take i) + V.bulk.go (l.drop i) := by rw [← bulkL_append, List.take_append_drop]
    have h2 : V.bulk.go (l.drop (i + 1)) ≤ V.bulk.go (l.drop i) := by rw [List.drop_eq_getElem_cons h, V.bulk.go]; omega
    omega
  · rw [bulkL_append, bulkL_one]; omega
/-- The blocks of with's own: the value that is put in, and the answer. -/
def BX (w W : World) (u : Value) : Prop := W.heap[w.heap.size]? = some (.cells #[u] 30 (0, 0)) ∧ (∃ y, W.heap[w.heap.size + 1]? = some (.cells #[y] 30 (0, 0))) ∧ Below w.heap.size w W
set_option maxRecDepth 100000 in
theorem BX.start (w : World) (u : Value) : BX w ((w.alloc (.cells #[u] 30)).alloc (.cells #[.nilIface] 30)) u := by
  refine ⟨?_, ⟨.nilIface, ?_⟩, ((Below.refl _ _).alloc (Nat.le_refl _) _).alloc (by simp) _⟩
  · rw [Below.heap_alloc _ _ _ (by simp)]; exact heap_alloc_new _ _
  · simpa using heap_alloc_new (w.alloc (.cells #[u] 30)) (.cells #[.nilIface] 30)
set_option maxRecDepth 100000 in
theorem BX.below {w W W' : World} {u : Value} (hB : BX w W u) (hb : Below W.heap.size W W') : BX w W' u := by
  obtain ⟨a, ⟨y, b⟩, d⟩ := hB
  have l1 := (Array.getElem?_eq_some_iff.1 a).1
  exact ⟨(hb.block _ l1).trans a, ⟨y, (hb.block _ (Array.getElem?_eq_some_iff.1 b).1).trans b⟩, d.trans (hb.mono (Nat.le_of_lt l1))⟩
set_option maxRecDepth 100000 in
theorem BX.upto {w W W' : World} {u : Value} {X : Nat} (hB : BX w W u) (hX : w.heap.size + 2 ≤ X) (hb : Below X W W') : BX w W' u := by
  obtain ⟨a, ⟨y, b⟩, d⟩ := hB
  exact ⟨(hb.block _ (by omega)).trans a, ⟨y, (hb.block _ (by omega)).trans b⟩, d.trans (hb.mono (by omega))⟩
set_option maxRecDepth 100000 in
theorem BX.drew {w W : World} {u : Value} (hB : BX w W u) : BX w W.drew u := ⟨hB.1, hB.2.1, hB.2.2.drew⟩
set_option maxRecDepth 100000 in
theorem BX.set {w W : World} {u : Value} (hB : BX w W u) (x : Value) : BX w (W.setCell ⟨w.heap.size + 1, 0, none⟩ x) u := by
  obtain ⟨a, ⟨y, b⟩, d⟩ := hB
  exact ⟨(Below.heap_setCell _ _ _ _ (by simp)).trans a, ⟨_, heap_setCell_same _ _ 0 _ _ x b⟩, d.setCell (by simp) _⟩
set_option maxRecDepth 100000 in
theorem BX.cell {w W : World} {u : Value} (hB : BX w W u) : W.cell? ⟨w.heap.size, 0, none⟩ = some u := cell_of_row _ _ _ _ _ _ hB.1
set_option maxRecDepth 100000 in
theorem BX.got {w W : World} {u : Value} (hB : BX w W u) (x : Value) : (W.setCell ⟨w.heap.size + 1, 0, none⟩ x).cell? ⟨w.heap.size + 1, 0, none⟩ = some x := by
  obtain ⟨a, ⟨y, b⟩, d⟩ := hB
  exact cell_of_row _ _ _ _ _ _ (heap_setCell_same _ _ 0 _ _ x b)
set_option maxRecDepth 100000 in
/-- What stands below the answer's block, or above it, stays. -/
theorem Rep.setR {w W : World} {ok : Nat → Prop} {h : Value} {x : V} (hr : Rep W (fun b => ok b ∧ b ≠ w.heap.size + 1) h x) (u : Value) : Rep (W.setCell ⟨w.heap.size + 1, 0, none⟩ u) (fun b => ok b ∧ b ≠ w.heap.size + 1) h x :=
  hr.agree (fun _ hb _ => Below.heap_setCell _ _ _ _ hb.2)
set_option maxRecDepth 100000 in
theorem sizeVal3 : (Try.prog.info? 30).map (·.size) = some 1 := by kernel_rfl
set_option maxRecDepth 100000 in
theorem step_set0 {ops : Array Oper} {o : Oper} {a : Act} {W : World} {K : Act → World → Prop} {Q : Exit → Act → World → Prop} {E : Prop} (hgd : o.guard = none) (x y : Operand) (ho : o.op = .store 30 x y) (hd : o.dst = none)
    {B : Nat} {u z : Value} (hx : a.eval x = .pointer (some ⟨B, 0, none⟩)) (hy : a.eval y = .agg #[u]) (hu : u.oneCell' = true) (hz : W.heap[B]? = some (.cells #[z] 30 (0, 0))) (h : K a (W.setCell ⟨B, 0, none⟩ u)) :
    if Region.wanted o (yielded ops a.tmps) = true then Oper.wp Try.prog o a W K Q else E := by
  refine step_plain hgd ?_
  refine wp_store_mid 30 x y ho B 0 #[u] hx hy ?_ sizeVal3 (by simp [hu]) ?_
  · intro j hj
    have h0 : j = 0 := by simp at hj; omega
    subst h0
    exact ⟨by rw [cell_of_row _ _ _ _ _ _ hz]; rfl, frozen_of_row _ _ _ _ _ hz⟩
  · rw [hd]
    exact h
set_option maxRecDepth 100000 in
set_option maxHeartbeats 1600000 in
theorem gwith_any {w : World} {ok : Nat → Prop} (hk : ∀ b, w.heap.size ≤ b → ok b) (B : Nat) (l : List V) (a : Option Addr) (c : Nat) (c4 : w.cell? ⟨B, 4, none⟩ = some (.slice a l.length c)) (hr : RRow w ok a l) (hok : SliceOk a l.length c) {i : Int} (hi : 0 ≤ i) {u : Value} {x : V} (hu : Rep w ok u x) (hn : l.length ≤ 1048576) (hbk : i ≤ l.length → V.bulk.go (putAt l i.toNat x) ≤ 1048576) :
    Calls Try.prog 79 #[.pointer (some ⟨B, 0, none⟩), .int .i64 i, .agg #[u]] w fun e w' => ∃ h, e = .returned (.tuple #[.agg #[h], .int .i64 (if i ≤ l.length then 0 else 2)]) ∧ Rep w' ok h (if i ≤ l.length then V.list (putAt l i.toNat x) else V.null) ∧ Below w.heap.size w w' := by
  have hlt := World.block_lt_of_cell? _ _ c4
  have hone := hu.one
  have hB0 := BX.start w u
  by_cases h : i ≤ l.length
  · obtain ⟨k, rfl⟩ : ∃ k : Nat, i = k := ⟨i.toNat, by omega⟩
    have hkl : k ≤ l.length := by omega
    rw [if_pos h, if_pos h]
    have CP : Hid (∀ W, BX w W u → Calls Try.prog 89 #[.slice a l.length c, .int .i64 (k : Nat), .agg #[u]] W fun e w' => ∃ a' c', e = .returned (.slice a' (putAt l k x).length c') ∧ RRow w' (fun b => ok b ∧ b ≠ w.heap.size + 1) a' (putAt l k x) ∧ SliceOk a' (putAt l k x).length c' ∧ Below W.heap.size W w') := fun W hW => by
      obtain ⟨-, ⟨y, hy⟩, hb⟩ := hW
      have hsz := (Array.getElem?_eq_some_iff.1 hy).1
      refine placed_any (ok := fun b => ok b ∧ b ≠ w.heap.size + 1) (fun b hb => ⟨hk b (by omega), by omega⟩) c ?_ hok (by omega) hkl ?_
      · have h1 := (hr.mono (ok' := fun b => ok b ∧ b < w.heap.size) (fun b h1 h2 => ⟨h1, h2⟩)).agree (w' := W) (fun b h1 _ => hb.block b h1.2)
        exact h1.mono (fun b h1 _ => ⟨h1.1, by omega⟩)
      · have h1 := (hu.mono (ok' := fun b => ok b ∧ b < w.heap.size) (fun b h1 h2 => ⟨h1, h2⟩)).agree (w' := W) (fun b h1 _ => hb.block b h1.2)
        exact h1.mono (fun b h1 _ => ⟨h1.1, by omega⟩)
    have hbk2 : V.bulk.go (putAt l k x) ≤ 1048576 := by simpa using hbk h
    have CL : Hid (∀ W a' c', BX w W u → RRow W (fun b => ok b ∧ b ≠ w.heap.size + 1) a' (putAt l k x) → SliceOk a' (putAt l k x).length c' → Calls Try.prog 65 #[.slice a' (putAt l k x).length c'] W fun e w' => ∃ h, e = .returned (.agg #[h]) ∧ h.oneCell' = true ∧ Rep w' (fun b => ok b ∧ b ≠ w.heap.size + 1) h (V.list (putAt l k x)) ∧ Below W.heap.size W w') := fun W a' c' hW h1 h2 => by
      obtain ⟨-, ⟨y, hy⟩, hb⟩ := hW
      have hsz := (Array.getElem?_eq_some_iff.1 hy).1
      refine (listOf_any a' _ c' W (ok := fun b => ok b ∧ b ≠ w.heap.size + 1) (fun b hb => ⟨hk b (by omega), by omega⟩) h1 h2 hbk2).mono ?_
      rintro e w' ⟨g, rfl, h3, h4⟩
      exact ⟨g, rfl, h3.one, h3, h4⟩
    have HX : Hid (∀ W, BX w W u → W.cell? ⟨w.heap.size, 0, none⟩ = some u ∧ W.cell? ⟨B, 4, none⟩ = some (.slice a l.length c)) := fun W hW => ⟨hW.cell, (hW.2.2.cell (p := ⟨B, 4, none⟩) hlt).trans c4⟩
    have d4 := (HX.out _ hB0).2
    rw [show ((k : Nat) : Int).toNat = k from by simp]
    clear hk hr hok hu hn hbk hbk2 c4
    generalize putAt l k x = L at *
    go_enter Try.func79, Try.ntmps79
    go_wp2_with fail
    refine wp_region_held_drew (S := fun w' => BX w w' u) (by kernel_rfl) (BX.drew hB0) (fun hSS => ?_)
    refine wpAnyH_take (i := 0) (v := ?_) rfl (by kernel_rfl) (by kernel_rfl) (by kernel_rfl) (fun _ _ _ h => h) (Or.inl ⟨by rfl, ?_⟩) hSS ?_
    rotate_left
    · intro wz hSz
      go_simp
      try with_reducible rfl
    simp only [List.getElem_toArray, List.getElem_cons_zero, Act.put, List.setIfInBounds_toArray, List.set_cons_zero, List.set_cons_succ]
    refine wpAnyH_take (i := 1) (v := ?_) rfl (by kernel_rfl) (by kernel_rfl) (by kernel_rfl) (fun _ _ _ h => h) (Or.inl ⟨by rfl, ?_⟩) hSS ?_
    rotate_left
    · intro wz hSz
      go_simp
      try with_reducible rfl
    simp only [List.getElem_toArray, List.getElem_cons_zero, List.getElem_cons_succ, Act.put, List.setIfInBounds_toArray, List.set_cons_zero, List.set_cons_succ]
    refine wpAnyH_take (i := 2) (v := ?_) rfl (by kernel_rfl) (by kernel_rfl) (by kernel_rfl) (fun _ _ _ h => h) (Or.inl ⟨by rfl, ?_⟩) hSS ?_
    rotate_left
    · intro wz hSz
      go_simp
      try with_reducible rfl
    simp only [List.getElem_toArray, List.getElem_cons_zero, List.getElem_cons_succ, Act.put, List.setIfInBounds_toArray, List.set_cons_zero, List.set_cons_succ]
    refine wpAnyH_take (i := 3) (v := ?_) rfl (by kernel_rfl) (by kernel_rfl) (by kernel_rfl) (fun _ _ _ h => h) (Or.inl ⟨by rfl, ?_⟩) hSS ?_
    rotate_left
    · intro wz hSz
      obtain ⟨p0, p4⟩ := HX.out _ hSz
      go_simp
      try with_reducible rfl
    simp only [List.getElem_toArray, List.getElem_cons_zero, List.getElem_cons_succ, Act.put, List.setIfInBounds_toArray, List.set_cons_zero, List.set_cons_succ]
    refine wpAnyH_take (i := 4) (v := ?_) rfl (by kernel_rfl) (by kernel_rfl) (by kernel_rfl) (fun _ _ _ h => h) (Or.inl ⟨by rfl, ?_⟩) hSS ?_
    rotate_left
    · intro wz hSz
      go_simp
      try with_reducible rfl
    simp only [List.getElem_toArray, List.getElem_cons_zero, List.getElem_cons_succ, Act.put, List.setIfInBounds_toArray, List.set_cons_zero, List.set_cons_succ]
    refine wpAnyH_take (i := 5) (v := ?_) rfl (by kernel_rfl) (by kernel_rfl) (by kernel_rfl) (fun _ _ _ h => h) (Or.inl ⟨by rfl, ?_⟩) hSS ?_
    rotate_left
    · intro wz hSz
      obtain ⟨p0, p4⟩ := HX.out _ hSz
      go_simp
      try with_reducible rfl
    simp only [List.getElem_toArray, List.getElem_cons_zero, List.getElem_cons_succ, Act.put, List.setIfInBounds_toArray, List.set_cons_zero, List.set_cons_succ]
    refine wpAnyH_ready (rs := [6]) (by kernel_rfl) (by simp) (AllReadyH.cons rfl (fun K1 hK1 => ?_) AllReadyH.nil)
    refine step_plain (by rfl) ?_
    simp only [List.getElem_toArray, List.getElem_cons_zero, List.getElem_cons_succ]
    go_simp
    go_at_call 89
    refine (CP.out _ hSS).mono ?_
    rintro e w1 ⟨a1, c1, rfl, hr1, hok1, hb1⟩
    go_simp
    refine hK1.out _ _ (hSS.below hb1) (fun hSS => ?_)
    clear hK1
    refine wpAnyH_ready (rs := [7]) (by kernel_rfl) (by simp) (AllReadyH.cons rfl (fun K2 hK2 => ?_) AllReadyH.nil)
    refine step_plain (by rfl) ?_
    simp only [List.getElem_toArray, List.getElem_cons_zero, List.getElem_cons_succ]
    go_simp
    go_at_call 65
    refine (CL.out _ _ _ hSS hr1 hok1).mono ?_
    rintro e w2 ⟨g, rfl, hg1, hrep, hb2⟩
    go_simp
    refine hK2.out _ _ (hSS.below hb2) (fun hSS => ?_)
    clear hK2
    have hSx := hSS
    obtain ⟨-, ⟨y, hy⟩, -⟩ := hSx
    refine wpAnyH_ready (rs := [8]) (by kernel_rfl) (by simp) (AllReadyH.cons rfl (fun K3 hK3 => ?_) AllReadyH.nil)
    refine step_set0 (by rfl) _ _ (by rfl) (by rfl) (B := w.heap.size + 1) (u := g) (by rfl) (by rfl) hg1 hy ?_
    have hrep2 := hrep.setR (w := w) g
    have hgot := hSS.got g
    refine hK3.out _ _ (hSS.set g) (fun hSS => ?_)
    clear hK3 hrep hy
    generalize w2.setCell ⟨w.heap.size + 1, 0, none⟩ g = W3 at *
    refine wpAnyH_take (i := 9) (v := ?_) rfl (by kernel_rfl) (by kernel_rfl) (by kernel_rfl) (fun _ _ _ h => h) (Or.inl ⟨by rfl, ?_⟩) hSS ?_
    rotate_left
    · intro wz hSz
      go_simp
      try with_reducible rfl
    simp only [List.getElem_toArray, List.getElem_cons_zero, List.getElem_cons_succ, Act.put, List.setIfInBounds_toArray, List.set_cons_zero, List.set_cons_succ]
    refine wpAnyH_done (by kernel_rfl) ?_ _
    go_wp2_with fail
    exact bodyPost_ret (v := .tuple #[.agg #[g], .int .i64 0]) (by simp [results, Try.results79, go_sem, hgot]) rfl ⟨g, rfl, hrep2.mono (fun _ h _ => h.1), hSS.2.2⟩
  · rw [if_neg h, if_neg h]
    have d4 := (hB0.2.2.cell (p := ⟨B, 4, none⟩) hlt).trans c4
    have hgot := hB0.got .nilIface
    have hbel := (hB0.set .nilIface).2.2
    clear hk hr hok hu hn hbk c4
    go_enter Try.func79, Try.ntmps79
    go_wp2_with fail
    exact bodyPost_ret (v := .tuple #[.agg #[.nilIface], .int .i64 2]) (by simp [results, Try.results79, go_sem]) rfl ⟨_, rfl, Rep.null, hB0.2.2⟩
end Go.Proofs.Ytheabeapmhoclaa

namespace Go.Proofs.Ytheabeapmhoclaa
open Go.RowKit

set_option maxRecDepth 100000 in
theorem hasAt_notin {key : ByteArray} {ks : List ByteArray} (h : key ∉ ks) : hasAt key ks = false := by
  unfold hasAt
  cases h1 : ks[below key ks]? with
  | none => rfl
  | some y =>
    have := List.mem_of_getElem? h1
    simp only [decide_eq_false_iff_not]
    intro e; subst e; exact h this
/-- A Map with another value of a key. -/
def mapPut (l : List V) (q : List ByteArray) (key : ByteArray) (x : V) : V :=
  if (V.mk 7 false 0 0 ByteArray.empty l q).hasK key = true then V.map (putAt l (posK q key) x) q else V.map (l.take (below key q) ++ x :: l.drop (below key q)) (q.take (below key q) ++ key :: q.drop (below key q))
set_option maxRecDepth 100000 in
theorem ins_bulk (l : List V) (i : Nat) (x : V) : V.bulk.go (l.take i ++ x :: l.drop i) = V.bulk.go l + x.bulk := by
  rw [bulkL_append, V.bulk.go]
  have h1 : V.bulk.go l = V.bulk.go (l.take i) + V.bulk.go (l.drop i) := by rw [← bulkL_append, List.take_append_drop]
  omega
set_option maxRecDepth 100000 in
theorem ins_rising {key : ByteArray} {q : List ByteArray} (hq : Rising q) (h : key ∉ q) : Rising (q.take (below key q) ++ key :: q.drop (below key q)) := by
  have := insKeys_rising key q hq
  unfold insKeys at this
  rw [if_neg (by rw [hasAt_notin h]; simp)] at this
  simpa using this
set_option maxRecDepth 100000 in
theorem putAt_get {α : Type} (l : List α) (i j : Nat) (x : α) (hi : i ≤ l.length) : (putAt l i x)[j]? = if j = i then some x else l[j]? := by
  unfold putAt
  split
  · rename_i h
    rw [List.getElem?_set]
    by_cases h1 : i = j
    · subst h1; simp [h]
    · rw [if_neg h1, if_neg (Ne.symm h1)]
  · have : i = l.length := by omega
    subst this
    rw [List.getElem?_append]
    by_cases h1 : j < l.length
    · rw [if_pos h1, if_neg (by omega)]
    · rw [if_neg h1]
      by_cases h2 : j = l.length
      · subst h2; simp
      · rw [if_neg h2, List.getElem?_eq_none (by simp; omega), List.getElem?_eq_none (by omega)]
set_option maxRecDepth 100000 in
theorem insAt_get {α : Type} (l : List α) (i j : Nat) (x : α) (hi : i ≤ l.length) : (l.take i ++ x :: l.drop i)[i]? = some x ∧ (l.take i ++ x :: l.drop i)[if j < i then j else j + 1]? = l[j]? := by
  have e : (l.take i).length = i := by simp; omega
  refine ⟨by rw [List.getElem?_append_right (by omega), e]; simp, ?_⟩
  by_cases h : j < i
  · rw [if_pos h, List.getElem?_append_left (by omega), List.getElem?_take, if_pos h]
  · rw [if_neg h, List.getElem?_append_right (by omega), e, show j + 1 - i = (j - i) + 1 from by omega, List.getElem?_cons_succ, List.getElem?_drop]
    congr 1; omega
set_option maxRecDepth 100000 in
theorem posK_some {q : List ByteArray} (hn : q.Nodup) {j : Nat} {k : ByteArray} (h : q[j]? = some k) : posK q k = j := by
  obtain ⟨hj, rfl⟩ := List.getElem?_eq_some_iff.1 h
  exact posK_nodup hn hj
set_option maxRecDepth 100000 in
theorem posK_get {q : List ByteArray} {k : ByteArray} (h : k ∈ q) : q[posK q k]? = some k := by
  rw [List.getElem?_eq_getElem (posK_lt h), posK_at h]
set_option maxRecDepth 100000 in
/-- What a Map with another value of a key has of that key, and of others. -/
theorem mapPut_k (l : List V) (q : List ByteArray) (key : ByteArray) (x : V) : (mapPut l q key x).k = 7 := by
  unfold mapPut; split <;> rfl
set_option maxRecDepth 100000 in
theorem mapPut_at (l : List V) (q : List ByteArray) (hq : q.length = l.length) (hr : Rising q) (key : ByteArray) (x : V) :
    (mapPut l q key x).hasK key = true ∧ (mapPut l q key x).under key = x := by
  unfold mapPut
  by_cases h : (V.mk 7 false 0 0 ByteArray.empty l q).hasK key = true
  · rw [if_pos h]
    have hm := (hasK_mem _ _).1 h
    have hp := posK_lt hm
    have h1 : (V.map (putAt l (posK q key) x) q).hasK key = true := (hasK_mem _ _).2 hm
    refine ⟨h1, ?_⟩
    rw [under_yes h1]
    show (putAt l (posK q key) x)[posK q key]?.getD V.null = x
    simp only at hp
    rw [putAt_get _ _ _ _ (by omega), if_pos rfl]; rfl
  · rw [if_neg h]
    have hm : key ∉ q := fun hm => h ((hasK_mem _ _).2 hm)
    have hn := (ins_rising hr hm).nodup
    have hb := below_le key q
    have h1 : (V.map (l.take (below key q) ++ x :: l.drop (below key q)) (q.take (below key q) ++ key :: q.drop (below key q))).hasK key = true := (hasK_mem _ _).2 (by show key ∈ _; simp [V.map])
    refine ⟨h1, ?_⟩
    rw [under_yes h1]
    show (l.take (below key q) ++ x :: l.drop (below key q))[posK (q.take (below key q) ++ key :: q.drop (below key q)) key]?.getD V.null = x
    rw [posK_some hn (insAt_get q (below key q) 0 key hb).1, (insAt_get l (below key q) 0 x (by omega)).1]; rfl
set_option maxRecDepth 100000 in
theorem mapPut_other (l : List V) (q : List ByteArray) (hq : q.length = l.length) (hr : Rising q) (key : ByteArray) (x : V) {k2 : ByteArray} (hne : k2 ≠ key) :
    (mapPut l q key x).hasK k2 = (V.mk 7 false 0 0 ByteArray.empty l q).hasK k2 ∧ (mapPut l q key x).under k2 = (V.mk 7 false 0 0 ByteArray.empty l q).under k2 := by
  have H : (mapPut l q key x).hasK k2 = (V.mk 7 false 0 0 ByteArray.empty l q).hasK k2 := by
    rw [Bool.eq_iff_iff, hasK_mem, hasK_mem]
    unfold mapPut
    split
    · rfl
    · show k2 ∈ q.take (below key q) ++ key :: q.drop (below key q) ↔ k2 ∈ q
      have e : k2 ∈ q ↔ k2 ∈ q.take (below key q) ++ q.drop (below key q) := by rw [List.take_append_drop]
      rw [e]
      simp only [List.mem_append, List.mem_cons]
      constructor
      · rintro (h | h | h)
        · exact Or.inl h
        · exact absurd h hne
        · exact Or.inr h
      · rintro (h | h)
        · exact Or.inl h
        · exact Or.inr (Or.inr h)
  refine ⟨H, ?_⟩
  cases h2 : (V.mk 7 false 0 0 ByteArray.empty l q).hasK k2
  · rw [under_no h2, under_no (H.trans h2)]
  · rw [under_yes h2, under_yes (H.trans h2)]
    have hm2 : k2 ∈ q := (hasK_mem _ _).1 h2
    unfold mapPut
    split
    · rename_i h
      have hm := (hasK_mem _ _).1 h
      have hp := posK_lt hm
      show (putAt l (posK q key) x)[posK q k2]?.getD V.null = l[posK q k2]?.getD V.null
      simp only at hp hm
      rw [putAt_get _ _ _ _ (by omega), if_neg]
      intro e
      have h3 := posK_get hm2
      rw [e, posK_get hm] at h3
      exact hne (by injection h3 with h3; exact h3.symm)
    · rename_i h
      have hm : key ∉ q := fun hm => h ((hasK_mem _ _).2 hm)
      have hn := (ins_rising hr hm).nodup
      have hb := below_le key q
      show (l.take (below key q) ++ x :: l.drop (below key q))[posK (q.take (below key q) ++ key :: q.drop (below key q)) k2]?.getD V.null = l[posK q k2]?.getD V.null
      have h3 := (insAt_get q (below key q) (posK q k2) key hb).2
      rw [posK_get hm2] at h3
      rw [posK_some hn h3, (insAt_get l (below key q) (posK q k2) x (by omega)).2]
set_option maxRecDepth 100000 in
theorem mapPut_cl (l : List V) (q : List ByteArray) (hq : q.length = l.length) (hr : Rising q) (hl : ∀ y ∈ l, y.cl) (key : ByteArray) {x : V} (hx : x.cl) : (mapPut l q key x).cl := by
  unfold mapPut
  split
  · rename_i h
    have hm := (hasK_mem _ _).1 h
    have hp := posK_lt hm
    simp only at hp
    unfold V.map
    simp only [V.cl]
    refine ⟨by omega, by simp, by simp, by simp, by simp, by simp, by simp, fun _ => ⟨?_, hr⟩, by simp, clL_of ?_⟩
    · rw [putAt_len, if_pos (by omega)]; exact hq
    · intro y hy
      unfold putAt at hy
      rw [if_pos (by omega)] at hy
      exact (List.mem_or_eq_of_mem_set hy).elim (hl y) (fun e => by rw [e]; exact hx)
  · rename_i h
    have hm : key ∉ q := fun hm => h ((hasK_mem _ _).2 hm)
    have hb := below_le key q
    unfold V.map
    simp only [V.cl]
    refine ⟨by omega, by simp, by simp, by simp, by simp, by simp, by simp, fun _ => ⟨?_, ins_rising hr hm⟩, by simp, clL_of ?_⟩
    · simp; omega
    · intro y hy
      rcases List.mem_append.1 hy with h1 | h1
      · exact hl y (List.mem_of_mem_take h1)
      · rcases List.mem_cons.1 h1 with rfl | h1
        · exact hx
        · exact hl y (List.mem_of_mem_drop h1)
/-- A value with another one, where a step leads. -/
def V.put (v x : V) (s : St) : V × Int :=
  if s.byKey = true then (if v.k = 7 then (mapPut v.l v.keys s.key x, 0) else (V.null, 6))
  else if v.k = 6 then (if s.at_ ≤ v.l.length then (V.list (putAt v.l s.at_.toNat x), 0) else (V.null, 2)) else (V.null, 6)
/-- A value with another one, where steps lead. -/
def V.withR (v x : V) : List St → V × Int
  | [] => (x, 0)
  | s :: r => if r.isEmpty = true then v.put x s else if (v.follow s).2 = 0 then (if ((v.follow s).1.withR x r).2 = 0 then v.put ((v.follow s).1.withR x r).1 s else (V.null, ((v.follow s).1.withR x r).2)) else (V.null, (v.follow s).2)
set_option maxRecDepth 100000 in
theorem cl_map {v : V} (h : v.cl) (hk : v.k = 7) : v = V.map v.l v.keys ∧ v.keys.length = v.l.length ∧ Rising v.keys ∧ ∀ y ∈ v.l, y.cl := by
  obtain ⟨k, b, n, m, s, l, q⟩ := v
  simp only at hk
  subst hk
  simp only [V.cl] at h
  obtain ⟨-, h1, h2, h3, h4, -, -, h5, -, h6⟩ := h
  obtain ⟨h7, h8⟩ := h5 trivial
  refine ⟨?_, h7, h8, fun y hy => clL_mem h6 hy⟩
  rw [h1 (by decide), h2 (by decide) (by decide), h3 (by decide), h4 (by decide)]; rfl
set_option maxRecDepth 100000 in
theorem cl_list {v : V} (h : v.cl) (hk : v.k = 6) : v = V.list v.l ∧ ∀ y ∈ v.l, y.cl := by
  obtain ⟨k, b, n, m, s, l, q⟩ := v
  simp only at hk
  subst hk
  simp only [V.cl] at h
  obtain ⟨-, h1, h2, h3, h4, -, h0, -, -, h6⟩ := h
  refine ⟨?_, fun y hy => clL_mem h6 hy⟩
  rw [h1 (by decide), h2 (by decide) (by decide), h3 (by decide), h4 (by decide), h0 (by decide)]; rfl
set_option maxRecDepth 100000 in
theorem put_cl {v x : V} (h : v.cl) (hx : x.cl) (s : St) : (v.put x s).1.cl := by
  have h0 : V.null.cl := by simp [V.null, V.cl, V.cl.go]
  unfold V.put
  split
  · split
    · rename_i hk
      obtain ⟨-, h1, h2, h3⟩ := cl_map h hk
      exact mapPut_cl _ _ h1 h2 h3 _ hx
    · exact h0
  · split
    · rename_i hk
      obtain ⟨-, h3⟩ := cl_list h hk
      split
      · rename_i hi
        unfold V.list
        simp only [V.cl]
        refine ⟨by omega, by simp, by simp, by simp, by simp, by simp, by simp, by simp, by simp, clL_of ?_⟩
        intro y hy
        unfold putAt at hy
        split at hy
        · exact (List.mem_or_eq_of_mem_set hy).elim (h3 y) (fun e => by rw [e]; exact hx)
        · rcases List.mem_append.1 hy with h1 | h1
          · exact h3 y h1
          · simp at h1; subst h1; exact hx
      · exact h0
    · exact h0
set_option maxRecDepth 100000 in
theorem follow_cl {v : V} (h : v.cl) (s : St) : (v.follow s).1.cl := by
  have h0 : V.null.cl := by simp [V.null, V.cl, V.cl.go]
  have hg : ∀ (l : List V) (i : Nat), (∀ y ∈ l, y.cl) → (l[i]?.getD V.null).cl := fun l i hl => by
    cases h1 : l[i]? with
    | none => exact h0
    | some y => exact hl y (List.mem_of_getElem? h1)
  unfold V.follow
  split
  · split
    · rename_i hk
      obtain ⟨-, h1, h2, h3⟩ := cl_map h hk
      split
      · unfold V.under
        split
        · exact hg _ _ h3
        · exact h0
      · exact h0
    · exact h0
  · split
    · rename_i hk
      obtain ⟨-, h3⟩ := cl_list h hk
      split
      · exact hg _ _ h3
      · exact h0
    · exact h0
set_option maxRecDepth 100000 in
theorem put_map {v x : V} {s : St} (hb : s.byKey = true) (hk : v.k = 7) : v.put x s = (mapPut v.l v.keys s.key x, 0) := by
  unfold V.put; rw [if_pos hb, if_pos hk]
set_option maxRecDepth 100000 in
theorem put_list {v x : V} {s : St} (hb : s.byKey = false) (hk : v.k = 6) : v.put x s = if s.at_ ≤ v.l.length then (V.list (putAt v.l s.at_.toNat x), 0) else (V.null, 2) := by
  unfold V.put; rw [if_neg (by rw [hb]; simp), if_pos hk]
set_option maxRecDepth 100000 in
theorem put_kind {v x : V} {s : St} (h0 : (v.put x s).2 = 0) : (s.byKey = true → v.k = 7) ∧ (s.byKey = false → v.k = 6 ∧ s.at_ ≤ v.l.length) := by
  refine ⟨fun hb => ?_, fun hb => ?_⟩
  · unfold V.put at h0
    rw [if_pos hb] at h0
    by_cases hk : v.k = 7
    · exact hk
    · rw [if_neg hk] at h0; cases h0
  · unfold V.put at h0
    rw [if_neg (by rw [hb]; simp)] at h0
    by_cases hk : v.k = 6
    · refine ⟨hk, ?_⟩
      rw [if_pos hk] at h0
      by_cases hi : s.at_ ≤ v.l.length
      · exact hi
      · rw [if_neg hi] at h0; cases h0
    · rw [if_neg hk] at h0; cases h0
set_option maxRecDepth 100000 in
theorem follow_map {v : V} {t : St} (hb : t.byKey = true) (hk : v.k = 7) : v.follow t = if v.hasK t.key = true then (v.under t.key, 0) else (V.null, 8) := by
  unfold V.follow; rw [if_pos hb, if_pos hk]
set_option maxRecDepth 100000 in
theorem follow_list {v : V} {t : St} (hb : t.byKey = false) (hk : v.k = 6) : v.follow t = if t.at_ < v.l.length then (v.item t.at_, 0) else (V.null, 2) := by
  unfold V.follow; rw [if_neg (by rw [hb]; simp), if_pos hk]
set_option maxRecDepth 100000 in
theorem follow_kind {v : V} {t : St} (h0 : (v.follow t).2 = 0) : (t.byKey = true → v.k = 7) ∧ (t.byKey = false → v.k = 6 ∧ t.at_ < v.l.length) := by
  refine ⟨fun hb => ?_, fun hb => ?_⟩
  · unfold V.follow at h0
    rw [if_pos hb] at h0
    by_cases hk : v.k = 7
    · exact hk
    · rw [if_neg hk] at h0; cases h0
  · unfold V.follow at h0
    rw [if_neg (by rw [hb]; simp)] at h0
    by_cases hk : v.k = 6
    · refine ⟨hk, ?_⟩
      rw [if_pos hk] at h0
      by_cases hi : t.at_ < v.l.length
      · exact hi
      · rw [if_neg hi] at h0; cases h0
    · rw [if_neg hk] at h0; cases h0
set_option maxRecDepth 100000 in
theorem put_follow {v x : V} (h : v.cl) (s : St) (h0 : (v.put x s).2 = 0) : (v.put x s).1.follow s = (x, 0) := by
  cases hb : s.byKey
  · obtain ⟨hk, hi⟩ := (put_kind h0).2 hb
    have hp : 0 ≤ s.at_ := byKey_at hb
    rw [put_list hb hk, if_pos hi, follow_list hb rfl]
    have e : (V.list (putAt v.l s.at_.toNat x)).l = putAt v.l s.at_.toNat x := rfl
    have h4 : s.at_ < (putAt v.l s.at_.toNat x).length := by rw [putAt_len]; split <;> omega
    unfold V.item
    rw [e, if_pos h4, putAt_get _ _ _ _ (by omega), if_pos rfl]; rfl
  · have hk := (put_kind h0).1 hb
    obtain ⟨-, h1, h2, -⟩ := cl_map h hk
    obtain ⟨a, b⟩ := mapPut_at v.l v.keys h1 h2 s.key x
    rw [put_map hb hk, follow_map hb (mapPut_k _ _ _ _)]
    simp only [a, b, if_true]
set_option maxRecDepth 100000 in
theorem toList_nil {b : ByteArray} (h : b.toList.isEmpty = true) : b = ByteArray.empty := by
  obtain ⟨d⟩ := b
  rw [ByteArray.toList_eq] at h
  have : d = #[] := by simpa using h
  subst this; rfl
set_option maxRecDepth 100000 in
theorem put_other {v x : V} (h : v.cl) (s t : St) (h0 : (v.put x s).2 = 0) (ht : (v.follow t).2 = 0) (hne : s ≠ t) (hl : s.key ≠ t.key ∨ s.key = ByteArray.empty ∧ 0 ≤ s.at_ ∧ 0 ≤ t.at_) : (v.put x s).1.follow t = v.follow t := by
  have key0 : ∀ {u : St}, u.byKey = false → u.key = ByteArray.empty := fun {u} hu => by
    unfold St.byKey at hu
    rw [Bool.or_eq_false_iff] at hu
    exact toList_nil (by simpa using hu.1)
  cases hb : s.byKey
  · obtain ⟨hk, hi⟩ := (put_kind h0).2 hb
    cases hbt : t.byKey
    · obtain ⟨-, ht2⟩ := (follow_kind ht).2 hbt
      have hp : 0 ≤ s.at_ := byKey_at hb
      have hp2 : 0 ≤ t.at_ := byKey_at hbt
      have hat : t.at_ ≠ s.at_ := fun e => hne (by
        have k1 := key0 hb
        have k2 := key0 hbt
        obtain ⟨a, i⟩ := s
        obtain ⟨b, j⟩ := t
        simp only at k1 k2 e
        rw [k1, k2, e])
      rw [put_list hb hk, if_pos hi, follow_list hbt rfl, follow_list hbt hk]
      have e : (V.list (putAt v.l s.at_.toNat x)).l = putAt v.l s.at_.toNat x := rfl
      have h4 : t.at_ < (putAt v.l s.at_.toNat x).length := by rw [putAt_len]; split <;> omega
      unfold V.item
      rw [e, if_pos h4, if_pos ht2, putAt_get _ _ _ _ (by omega), if_neg (by omega)]
    · have h7 := (follow_kind ht).1 hbt
      omega
  · have hk := (put_kind h0).1 hb
    cases hbt : t.byKey
    · have h6 := ((follow_kind ht).2 hbt).1
      omega
    · obtain ⟨he, h1, h2, -⟩ := cl_map h hk
      have hkey : t.key ≠ s.key := by
        rcases hl with hl | ⟨hl, h3, -⟩
        · exact fun e => hl e.symm
        · exfalso
          unfold St.byKey at hb
          rw [hl, Bool.or_eq_true] at hb
          rcases hb with hb | hb
          · rw [ByteArray.toList_eq] at hb; cases hb
          · have := of_decide_eq_true hb; omega
      obtain ⟨a, b⟩ := mapPut_other v.l v.keys h1 h2 s.key x hkey
      have e1 : v.hasK t.key = (V.mk 7 false 0 0 ByteArray.empty v.l v.keys).hasK t.key := rfl
      have e2 : v.under t.key = (V.mk 7 false 0 0 ByteArray.empty v.l v.keys).under t.key := rfl
      rw [put_map hb hk, follow_map hbt (mapPut_k _ _ _ _), follow_map hbt hk, a, b, e1, e2]
set_option maxRecDepth 100000 in
/-- What a value with another one where steps lead is made of: the step's own. -/
theorem withR_cons {v x : V} {s : St} {r : List St} (h0 : (v.withR x (s :: r)).2 = 0) : ∃ y, v.withR x (s :: r) = v.put y s ∧ (v.put y s).2 = 0 ∧ (r = [] → y = x) ∧ (r ≠ [] → (v.follow s).2 = 0 ∧ (v.follow s).1.withR x r = (y, 0)) := by
  cases r with
  | nil => exact ⟨x, rfl, h0, fun _ => rfl, fun h => absurd rfl h⟩
  | cons t r =>
    rw [V.withR] at h0 ⊢
    rw [if_neg (by simp)] at h0 ⊢
    by_cases h1 : (v.follow s).2 = 0
    · rw [if_pos h1] at h0 ⊢
      by_cases h2 : ((v.follow s).1.withR x (t :: r)).2 = 0
      · rw [if_pos h2] at h0 ⊢
        exact ⟨_, rfl, h0, fun h => (by cases h), fun _ => ⟨h1, Prod.ext rfl h2⟩⟩
      · rw [if_neg h2] at h0
        exact absurd h0 h2
    · rw [if_neg h1] at h0
      exact absurd h0 h1
set_option maxRecDepth 100000 in
theorem withR_cl {x : V} (hx : x.cl) : ∀ (l : List St) {v : V}, v.cl → (v.withR x l).1.cl
  | [], v, h => hx
  | s :: r, v, h => by
    have h0 : V.null.cl := by simp [V.null, V.cl, V.cl.go]
    unfold V.withR
    split
    · exact put_cl h hx s
    · split
      · split
        · exact put_cl h (withR_cl hx r (follow_cl h s)) s
        · exact h0
      · exact h0
set_option maxRecDepth 100000 in
/-- What is put in is there. -/
theorem withR_goTo {x : V} : ∀ (l : List St) {v : V}, v.cl → x.cl → (v.withR x l).2 = 0 → (v.withR x l).1.goTo l = (x, 0)
  | [], v, h, hx, h0 => rfl
  | s :: r, v, h, hx, h0 => by
    obtain ⟨y, e, h1, h2, h3⟩ := withR_cons h0
    rw [e]
    have hf := put_follow h s h1
    unfold V.goTo
    rw [hf]
    simp only [if_true]
    by_cases hr : r = []
    · subst hr; rw [h2 rfl]; rfl
    · obtain ⟨h4, h5⟩ := h3 hr
      have ih := withR_goTo r (follow_cl h s) hx (by rw [h5])
      rw [h5] at ih
      exact ih
set_option maxRecDepth 100000 in
/-- A way that parts leads where it led. -/
theorem withR_part {x : V} (hx : x.cl) (s t : St) (l k : List St) (hne : s ≠ t) (hl : s.key ≠ t.key ∨ s.key = ByteArray.empty ∧ 0 ≤ s.at_ ∧ 0 ≤ t.at_) : ∀ (p : List St) {v : V}, v.cl → (v.withR x (p ++ s :: l)).2 = 0 → (v.goTo (p ++ t :: k)).2 = 0 → (v.withR x (p ++ s :: l)).1.goTo (p ++ t :: k) = v.goTo (p ++ t :: k)
  | [], v, h, h0, hg => by
    simp only [List.nil_append] at *
    obtain ⟨y, e, h1, -, -⟩ := withR_cons h0
    have ht : (v.follow t).2 = 0 := by
      unfold V.goTo at hg
      split at hg
      · rename_i h2; exact h2
      · exact hg
    rw [e, V.goTo, V.goTo, put_other h s t h1 ht hne hl]
  | a :: p, v, h, h0, hg => by
    simp only [List.cons_append] at *
    obtain ⟨y, e, h1, -, h3⟩ := withR_cons h0
    obtain ⟨h4, h5⟩ := h3 (by simp)
    rw [e, V.goTo, put_follow h a h1, V.goTo, h4]
    simp only [if_true]
    rw [V.goTo, h4] at hg
    simp only [if_true] at hg
    have ih := withR_part hx s t l k hne hl p (follow_cl h a) (by rw [h5]) hg
    rw [h5] at ih
    exact ih
end Go.Proofs.Ytheabeapmhoclaa

namespace Go.Proofs.Ytheabeapmhoclaa
open Go.RowKit Go.Maps

set_option maxRecDepth 100000 in
theorem cloneV_own (ao : Option Addr) (us : List Value) (c : Nat) (w : World) {ok : Nat → Prop} (hrow : CRow w ok ao us) (hok : SliceOk ao us.length c) (h1 : ∀ u ∈ us, u.oneCell' = true) (hn : us.length ≤ 1099511627776) :
    Calls Try.prog 66 #[.slice ao us.length c] w fun e w' => ∃ v', e = .returned v' ∧ w'.ownsRow w.heap.size 30 1 v' us.length us ∧ Below w.heap.size w w' := by
  cases ao with
  | none =>
    obtain ⟨h0, rfl⟩ := hok.1 rfl
    have hz : us = [] := List.eq_nil_of_length_eq_zero h0
    subst hz
    clear hrow h1 hn hok
    have q := fun (W : World) (a : Option Addr) (n c n' c' : Nat) => Lib.run_eql_slice_nil (P := Try.prog) W 57 30 a n c n' c' Try.underlying57
    go_enter Try.func66, Try.ntmps66
    go_wp2_with fail
    go_ret
    exact ⟨_, rfl, ⟨rfl, Or.inl ⟨rfl, rfl⟩⟩, Below.refl _ _⟩
  | some ad =>
    have hr1 := hrow.alloc (.cells #[] 30)
    have q := fun (W : World) (a : Option Addr) (n c n' c' : Nat) => Lib.run_eql_slice_nil (P := Try.prog) W 57 30 a n c n' c' Try.underlying57
    go_enter Try.func66, Try.ntmps66
    go_wp2_with (at_builtin; go_must (refine wpList_append_any rfl (.tmp 5) (.tmp 6) 57 30 _ _ Try.underlying57 infoVal rfl (by decide) rfl w.heap.size _ 0 [] rfl (World.ownsRow_lit w #[] 0 (Nat.le_refl _) (by simp [maxLen]) rfl) (some ad) us us.length c rfl rfl hr1 (by intro e; cases e) h1 (by omega) (by simp) ?_; intro v1 w1 hown1 hgrow1))
    simp only [Nat.zero_add, List.nil_append] at hown1
    have hb1 : Below w.heap.size w w1 := below_cown ((Below.refl _ _).alloc (Nat.le_refl _) _) (World.ownsRow_lit w #[] 0 (Nat.le_refl _) (by simp [maxLen]) rfl) (by simp) hgrow1
    clear hgrow1
    go_ret
    exact ⟨_, rfl, hown1, hb1⟩
set_option maxRecDepth 100000 in
theorem cloneS_own (ao : Option Addr) (us : List Value) (c : Nat) (w : World) {ok : Nat → Prop} (hrow : CRow w ok ao us) (hok : SliceOk ao us.length c) (h1 : ∀ u ∈ us, u.oneCell' = true) (hn : us.length ≤ 1099511627776) :
    Calls Try.prog 71 #[.slice ao us.length c] w fun e w' => ∃ v', e = .returned v' ∧ w'.ownsRow w.heap.size 9 1 v' us.length us ∧ Below w.heap.size w w' := by
  cases ao with
  | none =>
    obtain ⟨h0, rfl⟩ := hok.1 rfl
    have hz : us = [] := List.eq_nil_of_length_eq_zero h0
    subst hz
    clear hrow h1 hn hok
    have q := fun (W : World) (a : Option Addr) (n c n' c' : Nat) => Lib.run_eql_slice_nil (P := Try.prog) W 23 9 a n c n' c' Try.underlying23
    go_enter Try.func71, Try.ntmps71
    go_wp2_with fail
    go_ret
    exact ⟨_, rfl, ⟨rfl, Or.inl ⟨rfl, rfl⟩⟩, Below.refl _ _⟩
  | some ad =>
    have hr1 := hrow.alloc (.cells #[] 9)
    have q := fun (W : World) (a : Option Addr) (n c n' c' : Nat) => Lib.run_eql_slice_nil (P := Try.prog) W 23 9 a n c n' c' Try.underlying23
    go_enter Try.func71, Try.ntmps71
    go_wp2_with (at_builtin; go_must (refine wpList_append_any rfl (.tmp 5) (.tmp 6) 23 9 _ _ Try.underlying23 infoStr rfl (by decide) rfl w.heap.size _ 0 [] rfl (World.ownsRow_lit w #[] 0 (Nat.le_refl _) (by simp [maxLen]) rfl) (some ad) us us.length c rfl rfl hr1 (by intro e; cases e) h1 (by omega) (by simp) ?_; intro v1 w1 hown1 hgrow1))
    simp only [Nat.zero_add, List.nil_append] at hown1
    have hb1 : Below w.heap.size w w1 := below_cown ((Below.refl _ _).alloc (Nat.le_refl _) _) (World.ownsRow_lit w #[] 0 (Nat.le_refl _) (by simp [maxLen]) rfl) (by simp) hgrow1
    clear hgrow1
    go_ret
    exact ⟨_, rfl, hown1, hb1⟩
set_option maxRecDepth 100000 in
/-- A row of values out of a row of what they hold. -/
theorem RRow.of_vals {w : World} {ok : Nat → Prop} {a : Option Addr} {us : List Value} {l : List V} (hc : CRow w ok a us) (hl : us.length = l.length) (hin : ∀ j (hj : j < us.length) (hk : j < l.length), Rep w ok us[j] l[j]) : RRow w ok a l := by
  refine ⟨fun j => us[j]?.getD .nilIface, fun h0 => ?_, fun j hj => ?_⟩
  · obtain ⟨b, off, rfl, hb, hcell⟩ := hc (by intro e; subst e; simp at hl; omega)
    refine ⟨b, off, rfl, hb, fun j hj => ?_⟩
    have hju : j < us.length := by omega
    rw [hcell j us[j] (List.getElem?_eq_getElem hju)]
    simp [hju]
  · have hju : j < us.length := by omega
    simpa [hju] using hin j hju hj
set_option maxRecDepth 100000 in
/-- What a row of values is to a reader: what they hold, one by one. -/
theorem RRow.vals {w : World} {ok : Nat → Prop} {a : Option Addr} {l : List V} (h : RRow w ok a l) : ∃ us : List Value, us.length = l.length ∧ CRow w ok a us ∧ (∀ u ∈ us, u.oneCell' = true) ∧ ∀ j (hj : j < us.length) (hk : j < l.length), Rep w ok us[j] l[j] := by
  obtain ⟨H, h1, h2⟩ := h
  refine ⟨(List.range l.length).map H, by simp, h1.crow, one_map h2, fun j hj hk => ?_⟩
  simpa using h2 j hk
set_option maxRecDepth 100000 in
theorem ins_rep {w : World} {ok : Nat → Prop} {us : List Value} {l : List V} (hl : us.length = l.length) (hin : ∀ j (hj : j < us.length) (hk : j < l.length), Rep w ok us[j] l[j]) {u : Value} {x : V} (hu : Rep w ok u x) (i : Nat) (hi : i ≤ l.length) :
    ∀ j (hj : j < (us.take i ++ u :: us.drop i).length) (hk : j < (l.take i ++ x :: l.drop i).length), Rep w ok (us.take i ++ u :: us.drop i)[j] (l.take i ++ x :: l.drop i)[j] := by
  intro j hj hk
  have e1 : (us.take i).length = i := by simp; omega
  have e2 : (l.take i).length = i := by simp; omega
  by_cases h1 : j < i
  · rw [List.getElem_append_left (by omega), List.getElem_append_left (by omega), List.getElem_take, List.getElem_take]
    exact hin j (by omega) (by omega)
  · rw [List.getElem_append_right (by omega), List.getElem_append_right (by omega)]
    simp only [e1, e2]
    by_cases h2 : j = i
    · subst h2
      simpa using hu
    · obtain ⟨k, rfl⟩ : ∃ k, j = i + 1 + k := ⟨j - i - 1, by omega⟩
      have e3 : i + 1 + k - i = k + 1 := by omega
      simp only [e3, List.getElem_cons_succ, List.getElem_drop]
      exact hin _ _ _
end Go.Proofs.Ytheabeapmhoclaa

namespace Go.Proofs.Ytheabeapmhoclaa
open Go.RowKit Go.Maps

set_option maxRecDepth 100000 in
theorem info_v : (Try.prog.info? 30).map (fun i => (i.zero, i.size, i.bytes)) = some (some (.agg #[.nilIface]), 1, 16) := by kernel_rfl
set_option maxRecDepth 100000 in
theorem isize_v : (Try.prog.info? 30).map (·.size) = some 1 := by kernel_rfl
set_option maxRecDepth 100000 in
set_option maxHeartbeats 3200000 in
theorem ins_end_v {w : World} {base : Nat} {sv : Value} {us : List Value} (h : w.ownsRow base 30 1 sv us.length us) {vb : Nat} {u : Value} (hu : u.oneCell' = true) (hv : w.heap[vb]? = some (.cells #[u] 30 (0, 0))) (hbase : base ≤ w.heap.size) (hn : us.length ≤ 1048576) :
    Calls Try.prog 92 #[sv, .int .i64 (us.length : Nat), .slice (some ⟨vb, 0, none⟩) 1 1] w fun e w' => ∃ v', e = .returned v' ∧ w'.ownsRow base 30 1 v' (us.length + 1) (us ++ [u]) ∧ w.grownBy w' sv.ownBlock := by
  have hrow : CRow w (fun _ => True) (some ⟨vb, 0, none⟩) [u] := fun _ => ⟨vb, 0, rfl, trivial, fun j x hx => by
    rw [cell_of_row _ _ _ _ _ _ hv]
    rw [Nat.zero_add]
    simpa using hx⟩
  rcases h.2 with ⟨rfl, h0⟩ | ⟨g, cap, cur, rfl, hg, hblk, hc, hm, hcs, hct⟩
  · obtain rfl : us = [] := List.eq_nil_of_length_eq_zero h0
    go_enter Try.func92, Try.ntmps92
    go_wp2_with (at_builtin; refine wpList_append_any rfl _ _ 57 30 _ 16 Try.underlying57 info_v rfl (by omega) rfl base _ 0 [] rfl h _ [u] 1 1 rfl rfl hrow (fun e => by cases e) (by simpa using hu) (by omega) hbase ?_; intro v' w' ho hgr)
    go_ret
    exact ⟨v', rfl, by simpa using ho, hgr⟩
  · obtain ⟨n, hnn⟩ : ∃ n, us.length = n := ⟨_, rfl⟩
    rw [hnn] at h hc hn hct ⊢
    have hnb : n + 1 ≤ 1099511627776 := by omega
    clear hct hcs hblk hnn
    go_enter Try.func92, Try.ntmps92
    go_wp2_with (at_builtin; (refine wpList_append_any rfl _ _ 57 30 _ 16 Try.underlying57 info_v rfl (by omega) rfl base _ n us rfl h _ [u] 1 1 rfl rfl hrow (fun e => by cases e) (by simpa using hu) hnb hbase ?_); intro v' w' ho hgr)
    all_goals
      go_ret
      exact ⟨v', rfl, ho, hgr⟩
set_option maxRecDepth 100000 in
set_option maxHeartbeats 3200000 in
theorem ins_room_v {w : World} {g n cap i : Nat} {C us : List Value} (hblk : w.heap[g]? = some (.cells C.toArray 30 (0, 0))) (hC : C.length = cap) (hct : C.take n = us) (hi : i < n) (hroom : n + 1 ≤ cap) (hone : ∀ x ∈ us, x.oneCell' = true)
    {vb : Nat} {u : Value} (hu : u.oneCell' = true) (hv : w.heap[vb]? = some (.cells #[u] 30 (0, 0))) (hvg : vb ≠ g) (hn : n ≤ 1048576) :
    Calls Try.prog 92 #[.slice (some ⟨g, 0, none⟩) n cap, .int .i64 (i : Nat), .slice (some ⟨vb, 0, none⟩) 1 1] w fun e w' => e = .returned (.slice (some ⟨g, 0, none⟩) (n + 1) cap) ∧ w'.heap[g]? = some (.cells (splice (splice C (i + 1) (us.drop i)) i [u]).toArray 30 (0, 0)) ∧ Below g w w' := by
  have hz2 : ¬ ((i : Int) = (n : Int)) := by omega
  have hz3 : ¬ ((cap : Int) < (n : Int) + 1) := by omega
  have hw1 : IntKind.i64.wrap ((i : Int) + 1) = (i : Int) + 1 := by rw [IntKind.wrap_i64]; omega
  have hw2 : IntKind.i64.wrap ((n : Int) + 1) = (n : Int) + 1 := by rw [IntKind.wrap_i64]; omega
  have hb1 : (0 : Int) ≤ (i : Int) + 1 := by omega
  have htn : ((i : Int) + 1).toNat = i + 1 := by omega
  have hb3 : (i : Int) ≤ (n : Int) + 1 := by omega
  have hin : i ≤ n := by omega
  have mixed : Try.prog.follows Departure.mixedOrders = true := by kernel_rfl
  have hov : ∀ lb cb : Nat, (callFunc 102 #[.slice (some ⟨vb, 0, none⟩) 1 1, .slice (some ⟨g, i + 1, none⟩) lb cb]).run Try.prog w = .ok (.value (.bool false)) w := fun lb cb => by
    rw [run_callFunc_extern Try.func102 (by kernel_rfl) (by kernel_rfl) (by kernel_rfl) (e := Extern.SlicesOverlaps.overlaps #[57, 57] #[4]) (by kernel_rfl),
      Lib.run_overlaps_apart w 57 4 30 Try.underlying57 1 (fun w => by kernel_rfl) ⟨vb, 0, none⟩ ⟨g, i + 1, none⟩ 1 1 lb cb hvg 30 30 1 cap (by simp [World.shape?, hv]) (by simp [World.shape?, hblk, hC]) (by omega) (frozen_of_row _ _ _ _ _ hv) (frozen_of_row _ _ _ _ _ hv)]
    rfl
  have hcne : ¬ (cap = i + 1) := by omega
  have hcne2 : ¬ (cap = i) := by omega
  go_enter Try.func92, Try.ntmps92
  go_wp2_with (simp only [hov])
  have hlen : (us.drop i).length = n - i := by rw [← hct]; simp; omega
  have hsrc : ∀ (j : Nat) (x : Value), (us.drop i)[j]? = some x → w.drew.cell? ((⟨g, i, none⟩ : Addr).add j) = some x := fun j x hj => by
    rw [Addr.add_lit, cell_of_row _ _ _ _ _ _ (show w.drew.heap[g]? = _ from hblk)]
    rw [← hct, List.getElem?_drop, List.getElem?_take] at hj
    split at hj
    · simpa using hj
    · cases hj
  have hfit : i + 1 + (us.drop i).length ≤ C.length := by rw [hlen]; omega
  have hmin : (us.drop i).length = Nat.min (n + 1 - i) (n + 1 - (i + 1)) := by rw [hlen]; simp only [Nat.min_def]; split <;> omega
  have hone1 : ∀ x ∈ us.drop i, x.oneCell' = true := fun x hx => hone x (List.mem_of_mem_drop hx)
  obtain ⟨W4, hr4, hg4, ho4, -, hb4⟩ := copy_run w.drew 57 30 3 Try.underlying57 isize_v g (i + 1) (n + 1 - (i + 1)) (cap - (i + 1)) ⟨g, i, none⟩ (n + 1 - i) (cap - i) C 30 (us.drop i) hblk hmin hsrc hfit hone1
  have hB4 := hb4 g w (Nat.le_refl _) (Below.refl _ _).drew
  have hv4 : W4.heap[vb]? = some (.cells #[u] 30 (0, 0)) := (ho4 vb hvg).trans hv
  have hsl : (splice C (i + 1) (us.drop i)).length = C.length := length_splice _ _ _ hfit
  obtain ⟨W5, hr5, hg5, -, -, hb5⟩ := copy_run W4 57 30 3 Try.underlying57 isize_v g i (n + 1 - i) (cap - i) ⟨vb, 0, none⟩ 1 1 (splice C (i + 1) (us.drop i)) 30 [u] hg4 (by simp only [List.length_cons, List.length_nil, Nat.min_def]; split <;> omega) (fun j x hx => by
    rw [Addr.add_lit, cell_of_row _ _ _ _ _ _ hv4]
    simpa using hx) (by rw [hsl]; simp; omega) (by simpa using hu)
  have hB5 := hb5 g w (Nat.le_refl _) hB4
  have HG5 : Hid (W5.heap[g]? = some (.cells (splice (splice C (i + 1) (us.drop i)) i [u]).toArray 30 (0, 0))) := hg5
  clear hov hg4 ho4 hb4 hg5 hb5 hv4 hsl hsrc hmin hfit hone1 hblk hv hct hlen hone
  go_region_law_o (refine step_copy_any rfl _ _ 57 rfl _ _ (by simp [Act.eval, Act.put]) (by simp [Act.eval, Act.put]) hr4 ?_)
  go_wp2_with (at_builtin; refine wpList_copy_any rfl _ _ 57 rfl _ _ rfl rfl hr5 ?_)
  go_ret
  exact ⟨rfl, HG5.out, hB5⟩
set_option maxRecDepth 100000 in
set_option maxHeartbeats 3200000 in
theorem ins_grow_v {w : World} {g n cap i : Nat} {us : List Value} (hcell : ∀ j x, us[j]? = some x → w.cell? ⟨g, j, none⟩ = some x) (hl : us.length = n) (hi : i < n) (hnc : n ≤ cap) (hroom : cap < n + 1) (hone : ∀ x ∈ us, x.oneCell' = true)
    {vb : Nat} {u : Value} (hu : u.oneCell' = true) (hv : w.heap[vb]? = some (.cells #[u] 30 (0, 0))) (hn : n ≤ 1048576) :
    Calls Try.prog 92 #[.slice (some ⟨g, 0, none⟩) n cap, .int .i64 (i : Nat), .slice (some ⟨vb, 0, none⟩) 1 1] w fun e w' => ∃ (G : Nat) (R : List Value), e = .returned (.slice (some ⟨w.heap.size, 0, none⟩) (n + 1) G) ∧ n + 1 ≤ G ∧ G ≤ maxLen ∧ R.length = G ∧ R.take (n + 1) = us.take i ++ u :: us.drop i ∧ w'.heap[w.heap.size]? = some (.cells R.toArray 30 (0, 0)) ∧ Below w.heap.size w w' := by
  obtain ⟨i0, hi0, hz0, hzs, hzb⟩ := info_parts info_v
  have mixed : Try.prog.follows Departure.mixedOrders = true := by kernel_rfl
  have hgw : g < w.heap.size := World.block_lt_of_cell? _ _ (hcell 0 us[0] (by rw [List.getElem?_eq_getElem]))
  have hvw : vb < w.heap.size := (Array.getElem?_eq_some_iff.1 hv).1
  have hkk : (n : Int) + 1 - (i : Int) = ((n + 1 - i : Nat) : Int) := by omega
  have hik : i + (n + 1 - i) = n + 1 := by omega
  have hold : (Builtin.firstCells i0.size i (.slice (some ⟨g, 0, none⟩) i cap)).run Try.prog w.drew = .ok (us.take i).toArray w.drew := by
    rw [hzs]
    exact run_firstCells_some w.drew 1 i ⟨g, 0, none⟩ i cap (us.take i) (by rw [List.length_take]; omega) (fun j x hj => by
      rw [Addr.add_lit, Nat.zero_add]
      rw [List.getElem?_take] at hj
      split at hj
      · exact hcell j x hj
      · cases hj)
  obtain ⟨G, hG⟩ : ∃ G, G = grownCap w (n + 1) cap 30 := ⟨_, rfl⟩
  have hGn : n + 1 ≤ G := by rw [hG]; exact grownCap_ge w _ _ _
  have hGm : G ≤ maxLen := by rw [hG]; exact grownCap_le_maxLen w (n + 1) cap 30 (by unfold maxLen; omega)
  have hG63 : G ≤ 9223372036854775807 := by unfold maxLen at hGm; omega
  obtain ⟨Z, hZ⟩ : ∃ Z : List Value, Z = (Builtin.zeroCells (.agg #[.nilIface] : Value).cells (n + 1 - i) ++ Builtin.zeroCells (.agg #[.nilIface] : Value).cells (G - (n + 1))).toList := ⟨_, rfl⟩
  have hZl : Z.length = G - i := by
    rw [hZ]
    simp [Builtin.zeroCells, Value.cells]
    omega
  have hrz : ∀ ty, (Builtin.append_ #[57, 3] ty #[.slice (some ⟨g, 0, none⟩) i cap, .int .i64 ((n : Int) + 1 - (i : Int))]).run Try.prog w = .ok (.slice (some ⟨w.heap.size, 0, none⟩) (n + 1) G) (w.drew.alloc (.cells (us.take i ++ Z).toArray 30)) := fun ty => by
    have h := Lib.run_append_grow_zeros w 57 3 ty 30 i0 _ .i64 .i64 Try.underlying57 Try.underlying3 hi0 hz0 (some ⟨g, 0, none⟩) i cap (us.take i) hold (n + 1 - i) (by omega) (by omega) (by omega) (by omega) (by rw [hzb]; omega) (by rw [hzb, hik]; exact growslice_fits hroom (by omega))
    rw [hik, ← hG] at h
    have hA : (us.take i).toArray ++ Builtin.zeroCells (.agg #[.nilIface] : Value).cells (n + 1 - i) ++ Builtin.zeroCells (.agg #[.nilIface] : Value).cells (G - (n + 1)) = (us.take i ++ Z).toArray := by
      rw [hZ]
      apply Array.toList_inj.1
      simp
    rw [hkk, h, hA]
  have hb1 : Below w.heap.size w (w.drew.alloc (.cells (us.take i ++ Z).toArray 30)) := ((Below.refl _ _).drew).alloc (Nat.le_refl _) _
  have hg1 : (w.drew.alloc (.cells (us.take i ++ Z).toArray 30)).heap[w.heap.size]? = some (.cells (us.take i ++ Z).toArray 30 (0, 0)) := heap_alloc_new w.drew _
  generalize w.drew.alloc (.cells (us.take i ++ Z).toArray 30) = W1 at *
  have hT : (us.take i).length = i := by simp; omega
  have hM : (us.drop i).length = n - i := by simp; omega
  have hRl : (us.take i ++ Z).length = G := by rw [List.length_append, hT, hZl]; omega
  have hv1 := (hb1.block vb hvw).trans hv
  obtain ⟨W2, hr2, hg2, -, -, hb2⟩ := copy_run W1 57 30 3 Try.underlying57 isize_v w.heap.size i (n + 1 - i) (G - i) ⟨vb, 0, none⟩ 1 1 (us.take i ++ Z) 30 [u] hg1 (by simp only [List.length_cons, List.length_nil, Nat.min_def]; split <;> omega) (fun j x hx => by
    rw [Addr.add_lit, cell_of_row _ _ _ _ _ _ hv1]
    simpa using hx) (by rw [hRl]; simp; omega) (by simpa using hu)
  have hB2 := hb2 w.heap.size w (Nat.le_refl _) hb1
  have hsl : (splice (us.take i ++ Z) i [u]).length = G := (length_splice _ _ _ (by rw [hRl]; simp; omega)).trans hRl
  obtain ⟨W3, hr3, hg3, -, -, hb3⟩ := copy_run W2.drew 57 30 3 Try.underlying57 isize_v w.heap.size (i + 1) (n + 1 - (i + 1)) (G - (i + 1)) ⟨g, i, none⟩ (n - i) (cap - i) (splice (us.take i ++ Z) i [u]) 30 (us.drop i) hg2 (by rw [hM]; simp only [Nat.min_def]; split <;> omega) (fun j x hx => by
    rw [Addr.add_lit]
    rw [List.getElem?_drop] at hx
    exact (hB2.drew.cell (p := ⟨g, i + j, none⟩) hgw).trans (hcell _ _ hx)) (by rw [hsl, hM]; omega) (fun x hx => hone x (List.mem_of_mem_drop hx))
  have hB3 := hb3 w.heap.size w (Nat.le_refl _) hB2.drew
  obtain ⟨q1, q2⟩ := splice_new (us.take i) Z (us.drop i) i n u hT (by omega) (by omega)
  rw [hRl] at q2
  have HF : Hid ((splice (splice (us.take i ++ Z) i [u]) (i + 1) (us.drop i)).length = G ∧ (splice (splice (us.take i ++ Z) i [u]) (i + 1) (us.drop i)).take (n + 1) = us.take i ++ u :: us.drop i ∧ W3.heap[w.heap.size]? = some (.cells (splice (splice (us.take i ++ Z) i [u]) (i + 1) (us.drop i)).toArray 30 (0, 0))) := ⟨q2, q1, hg3⟩
  have hz2 : ¬ ((i : Int) = (n : Int)) := by omega
  have hz3 : (cap : Int) < (n : Int) + 1 := by omega
  have hw1 : IntKind.i64.wrap ((i : Int) + 1) = (i : Int) + 1 := by rw [IntKind.wrap_i64]; omega
  have hw2 : IntKind.i64.wrap ((n : Int) + 1) = (n : Int) + 1 := by rw [IntKind.wrap_i64]; omega
  have hw3 : IntKind.i64.wrap ((n : Int) + 1 - (i : Int)) = (n : Int) + 1 - (i : Int) := by rw [IntKind.wrap_i64]; omega
  have hb1' : (0 : Int) ≤ (i : Int) + 1 := by omega
  have htn : ((i : Int) + 1).toNat = i + 1 := by omega
  have hb3' : (i : Int) ≤ (n : Int) := by omega
  have hb4' : (i : Int) ≤ (n : Int) + 1 := by omega
  have hin : i ≤ n := by omega
  have hGi : ¬ (G = i) := by omega
  have hGi1 : ¬ (G = i + 1) := by omega
  have hci : ¬ (cap = i) := by omega
  clear hcell hl hone hv hold hkk hik hG hZ hZl hb1 hg1 hT hM hRl hv1 hg2 hb2 hB2 hsl hg3 hb3 q1 q2 hz0 hzs hzb hi0
  go_enter Try.func92, Try.ntmps92
  go_wp2_with (first
    | (at_builtin; refine Lib.wpList_append_run _ rfl _ _ _ _ rfl _ _ rfl rfl _ _ (hrz _) ?_)
    | (at_builtin; refine wpList_copy_any rfl _ _ 57 rfl _ _ rfl rfl hr2 ?_))
  go_region_law_o (refine step_copy_any rfl _ _ 57 rfl _ _ (by simp [Act.eval, Act.put]) (by simp [Act.eval, Act.put]) hr3 ?_)
  go_wp2
  go_ret
  exact ⟨G, _, rfl, hGn, hGm, HF.out.1, HF.out.2.1, HF.out.2.2, hB3⟩
set_option maxRecDepth 100000 in
/-- slices.Insert of one. -/
theorem ins_any_v {w : World} {base : Nat} {sv : Value} {us : List Value} (h : w.ownsRow base 30 1 sv us.length us) (hone : ∀ x ∈ us, x.oneCell' = true) {i : Nat} (hi : i ≤ us.length) {vb : Nat} {u : Value} (hu : u.oneCell' = true) (hv : w.heap[vb]? = some (.cells #[u] 30 (0, 0))) (hvs : sv.ownBlock ≠ some vb) (hbase : base ≤ w.heap.size) (hn : us.length ≤ 1048576) :
    Calls Try.prog 92 #[sv, .int .i64 (i : Nat), .slice (some ⟨vb, 0, none⟩) 1 1] w fun e w' => ∃ v', e = .returned v' ∧ w'.ownsRow base 30 1 v' (us.length + 1) (us.take i ++ u :: us.drop i) ∧ ∀ X, X ≤ w.heap.size → (∀ k, sv.ownBlock = some k → X ≤ k) → Below X w w' := by
  by_cases he : i = us.length
  · subst he
    refine (ins_end_v h hu hv hbase hn).mono ?_
    rintro e w' ⟨v', rfl, ho, hg⟩
    exact ⟨v', rfl, by simpa using ho, fun X hX hk => (Below.refl _ _).grown hg hX hk⟩
  · have hlt : i < us.length := by omega
    rcases h.2 with ⟨rfl, h0⟩ | ⟨g, cap, cur, rfl, hg, hblk, hc, hm, hcs, hct⟩
    · omega
    · rw [Nat.mul_one] at hcs hct
      have hvg : vb ≠ g := fun e => hvs (by rw [e]; rfl)
      by_cases hr : us.length + 1 ≤ cap
      · refine (ins_room_v (C := cur.toList) (us := us) (by simpa using hblk) (by simpa using hcs) hct hlt hr hone hu hv hvg hn).mono ?_
        rintro e w' ⟨rfl, h1, h2⟩
        obtain ⟨q1, q2⟩ := splice_room cur.toList us i us.length u hlt hct (by rw [show cur.toList.length = cap by simpa using hcs]; exact hr)
        refine ⟨_, rfl, ⟨by simp; omega, Or.inr ⟨g, cap, _, rfl, hg, h1, hr, hm, ?_, ?_⟩⟩, fun X hX hk => h2.mono (hk g rfl)⟩
        · rw [Nat.mul_one]
          simp only [List.size_toArray]
          rw [q2]
          simpa using hcs
        · rw [Nat.mul_one]
          exact q1
      · refine (ins_grow_v (g := g) (cap := cap) (us := us) (fun j x hx => ?_) rfl hlt hc (by omega) hone hu hv hn).mono ?_
        · rw [cell_of_row _ _ _ _ _ _ hblk]
          rw [← hct, List.getElem?_take] at hx
          split at hx
          · simpa using hx
          · cases hx
        · rintro e w' ⟨G, R, rfl, h1, h2, h3, h4, h5, h6⟩
          refine ⟨_, rfl, ⟨by simp; omega, Or.inr ⟨w.heap.size, G, _, rfl, hbase, h5, h1, h2, ?_, ?_⟩⟩, fun X hX _ => h6.mono hX⟩
          · rw [Nat.mul_one]
            simpa using h3
          · rw [Nat.mul_one]
            exact h4
end Go.Proofs.Ytheabeapmhoclaa

namespace Go.Proofs.Ytheabeapmhoclaa
open Go.RowKit Go.Maps

set_option maxRecDepth 100000 in
theorem info_s : (Try.prog.info? 9).map (fun i => (i.zero, i.size, i.bytes)) = some (some (.string ByteArray.empty), 1, 16) := by kernel_rfl
set_option maxRecDepth 100000 in
theorem isize_s : (Try.prog.info? 9).map (·.size) = some 1 := by kernel_rfl
set_option maxRecDepth 100000 in
set_option maxHeartbeats 3200000 in
theorem ins_end_s {w : World} {base : Nat} {sv : Value} {us : List Value} (h : w.ownsRow base 9 1 sv us.length us) {vb : Nat} {u : Value} (hu : u.oneCell' = true) (hv : w.heap[vb]? = some (.cells #[u] 9 (0, 0))) (hbase : base ≤ w.heap.size) (hn : us.length ≤ 1048576) :
    Calls Try.prog 91 #[sv, .int .i64 (us.length : Nat), .slice (some ⟨vb, 0, none⟩) 1 1] w fun e w' => ∃ v', e = .returned v' ∧ w'.ownsRow base 9 1 v' (us.length + 1) (us ++ [u]) ∧ w.grownBy w' sv.ownBlock := by
  have hrow : CRow w (fun _ => True) (some ⟨vb, 0, none⟩) [u] := fun _ => ⟨vb, 0, rfl, trivial, fun j x hx => by
    rw [cell_of_row _ _ _ _ _ _ hv]
    rw [Nat.zero_add]
    simpa using hx⟩
  rcases h.2 with ⟨rfl, h0⟩ | ⟨g, cap, cur, rfl, hg, hblk, hc, hm, hcs, hct⟩
  · obtain rfl : us = [] := List.eq_nil_of_length_eq_zero h0
    go_enter Try.func91, Try.ntmps91
    go_wp2_with (at_builtin; refine wpList_append_any rfl _ _ 23 9 _ 16 Try.underlying23 info_s rfl (by omega) rfl base _ 0 [] rfl h _ [u] 1 1 rfl rfl hrow (fun e => by cases e) (by simpa using hu) (by omega) hbase ?_; intro v' w' ho hgr)
    go_ret
    exact ⟨v', rfl, by simpa using ho, hgr⟩
  · obtain ⟨n, hnn⟩ : ∃ n, us.length = n := ⟨_, rfl⟩
    rw [hnn] at h hc hn hct ⊢
    have hnb : n + 1 ≤ 1099511627776 := by omega
    clear hct hcs hblk hnn
    go_enter Try.func91, Try.ntmps91
    go_wp2_with (at_builtin; (refine wpList_append_any rfl _ _ 23 9 _ 16 Try.underlying23 info_s rfl (by omega) rfl base _ n us rfl h _ [u] 1 1 rfl rfl hrow (fun e => by cases e) (by simpa using hu) hnb hbase ?_); intro v' w' ho hgr)
    all_goals
      go_ret
      exact ⟨v', rfl, ho, hgr⟩
set_option maxRecDepth 100000 in
set_option maxHeartbeats 3200000 in
theorem ins_room_s {w : World} {g n cap i : Nat} {C us : List Value} (hblk : w.heap[g]? = some (.cells C.toArray 9 (0, 0))) (hC : C.length = cap) (hct : C.take n = us) (hi : i < n) (hroom : n + 1 ≤ cap) (hone : ∀ x ∈ us, x.oneCell' = true)
    {vb : Nat} {u : Value} (hu : u.oneCell' = true) (hv : w.heap[vb]? = some (.cells #[u] 9 (0, 0))) (hvg : vb ≠ g) (hn : n ≤ 1048576) :
    Calls Try.prog 91 #[.slice (some ⟨g, 0, none⟩) n cap, .int .i64 (i : Nat), .slice (some ⟨vb, 0, none⟩) 1 1] w fun e w' => e = .returned (.slice (some ⟨g, 0, none⟩) (n + 1) cap) ∧ w'.heap[g]? = some (.cells (splice (splice C (i + 1) (us.drop i)) i [u]).toArray 9 (0, 0)) ∧ Below g w w' := by
  have hz2 : ¬ ((i : Int) = (n : Int)) := by omega
  have hz3 : ¬ ((cap : Int) < (n : Int) + 1) := by omega
  have hw1 : IntKind.i64.wrap ((i : Int) + 1) = (i : Int) + 1 := by rw [IntKind.wrap_i64]; omega
  have hw2 : IntKind.i64.wrap ((n : Int) + 1) = (n : Int) + 1 := by rw [IntKind.wrap_i64]; omega
  have hb1 : (0 : Int) ≤ (i : Int) + 1 := by omega
  have htn : ((i : Int) + 1).toNat = i + 1 := by omega
  have hb3 : (i : Int) ≤ (n : Int) + 1 := by omega
  have hin : i ≤ n := by omega
  have mixed : Try.prog.follows Departure.mixedOrders = true := by kernel_rfl
  have hov : ∀ lb cb : Nat, (callFunc 100 #[.slice (some ⟨vb, 0, none⟩) 1 1, .slice (some ⟨g, i + 1, none⟩) lb cb]).run Try.prog w = .ok (.value (.bool false)) w := fun lb cb => by
    rw [run_callFunc_extern Try.func100 (by kernel_rfl) (by kernel_rfl) (by kernel_rfl) (e := Extern.SlicesOverlaps.overlaps #[23, 23] #[4]) (by kernel_rfl),
      Lib.run_overlaps_apart w 23 4 9 Try.underlying23 1 (fun w => by kernel_rfl) ⟨vb, 0, none⟩ ⟨g, i + 1, none⟩ 1 1 lb cb hvg 9 9 1 cap (by simp [World.shape?, hv]) (by simp [World.shape?, hblk, hC]) (by omega) (frozen_of_row _ _ _ _ _ hv) (frozen_of_row _ _ _ _ _ hv)]
    rfl
  have hcne : ¬ (cap = i + 1) := by omega
  have hcne2 : ¬ (cap = i) := by omega
  go_enter Try.func91, Try.ntmps91
  go_wp2_with (simp only [hov])
  have hlen : (us.drop i).length = n - i := by rw [← hct]; simp; omega
  have hsrc : ∀ (j : Nat) (x : Value), (us.drop i)[j]? = some x → w.drew.cell? ((⟨g, i, none⟩ : Addr).add j) = some x := fun j x hj => by
    rw [Addr.add_lit, cell_of_row _ _ _ _ _ _ (show w.drew.heap[g]? = _ from hblk)]
    rw [← hct, List.getElem?_drop, List.getElem?_take] at hj
    split at hj
    · simpa using hj
    · cases hj
  have hfit : i + 1 + (us.drop i).length ≤ C.length := by rw [hlen]; omega
  have hmin : (us.drop i).length = Nat.min (n + 1 - i) (n + 1 - (i + 1)) := by rw [hlen]; simp only [Nat.min_def]; split <;> omega
  have hone1 : ∀ x ∈ us.drop i, x.oneCell' = true := fun x hx => hone x (List.mem_of_mem_drop hx)
  obtain ⟨W4, hr4, hg4, ho4, -, hb4⟩ := copy_run w.drew 23 9 3 Try.underlying23 isize_s g (i + 1) (n + 1 - (i + 1)) (cap - (i + 1)) ⟨g, i, none⟩ (n + 1 - i) (cap - i) C 9 (us.drop i) hblk hmin hsrc hfit hone1
  have hB4 := hb4 g w (Nat.le_refl _) (Below.refl _ _).drew
  have hv4 : W4.heap[vb]? = some (.cells #[u] 9 (0, 0)) := (ho4 vb hvg).trans hv
  have hsl : (splice C (i + 1) (us.drop i)).length = C.length := length_splice _ _ _ hfit
  obtain ⟨W5, hr5, hg5, -, -, hb5⟩ := copy_run W4 23 9 3 Try.underlying23 isize_s g i (n + 1 - i) (cap - i) ⟨vb, 0, none⟩ 1 1 (splice C (i + 1) (us.drop i)) 9 [u] hg4 (by simp only [List.length_cons, List.length_nil, Nat.min_def]; split <;> omega) (fun j x hx => by
    rw [Addr.add_lit, cell_of_row _ _ _ _ _ _ hv4]
    simpa using hx) (by rw [hsl]; simp; omega) (by simpa using hu)
  have hB5 := hb5 g w (Nat.le_refl _) hB4
  have HG5 : Hid (W5.heap[g]? = some (.cells (splice (splice C (i + 1) (us.drop i)) i [u]).toArray 9 (0, 0))) := hg5
  clear hov hg4 ho4 hb4 hg5 hb5 hv4 hsl hsrc hmin hfit hone1 hblk hv hct hlen hone
  go_region_law_o (refine step_copy_any rfl _ _ 23 rfl _ _ (by simp [Act.eval, Act.put]) (by simp [Act.eval, Act.put]) hr4 ?_)
  go_wp2_with (at_builtin; refine wpList_copy_any rfl _ _ 23 rfl _ _ rfl rfl hr5 ?_)
  go_ret
  exact ⟨rfl, HG5.out, hB5⟩
set_option maxRecDepth 100000 in
set_option maxHeartbeats 3200000 in
theorem ins_grow_s {w : World} {g n cap i : Nat} {us : List Value} (hcell : ∀ j x, us[j]? = some x → w.cell? ⟨g, j, none⟩ = some x) (hl : us.length = n) (hi : i < n) (hnc : n ≤ cap) (hroom : cap < n + 1) (hone : ∀ x ∈ us, x.oneCell' = true)
    {vb : Nat} {u : Value} (hu : u.oneCell' = true) (hv : w.heap[vb]? = some (.cells #[u] 9 (0, 0))) (hn : n ≤ 1048576) :
    Calls Try.prog 91 #[.slice (some ⟨g, 0, none⟩) n cap, .int .i64 (i : Nat), .slice (some ⟨vb, 0, none⟩) 1 1] w fun e w' => ∃ (G : Nat) (R : List Value), e = .returned (.slice (some ⟨w.heap.size, 0, none⟩) (n + 1) G) ∧ n + 1 ≤ G ∧ G ≤ maxLen ∧ R.length = G ∧ R.take (n + 1) = us.take i ++ u :: us.drop i ∧ w'.heap[w.heap.size]? = some (.cells R.toArray 9 (0, 0)) ∧ Below w.heap.size w w' := by
  obtain ⟨i0, hi0, hz0, hzs, hzb⟩ := info_parts info_s
  have mixed : Try.prog.follows Departure.mixedOrders = true := by kernel_rfl
  have hgw : g < w.heap.size := World.block_lt_of_cell? _ _ (hcell 0 us[0] (by rw [List.getElem?_eq_getElem]))
  have hvw : vb < w.heap.size := (Array.getElem?_eq_some_iff.1 hv).1
  have hkk : (n : Int) + 1 - (i : Int) = ((n + 1 - i : Nat) : Int) := by omega
  have hik : i + (n + 1 - i) = n + 1 := by omega
  have hold : (Builtin.firstCells i0.size i (.slice (some ⟨g, 0, none⟩) i cap)).run Try.prog w.drew = .ok (us.take i).toArray w.drew := by
    rw [hzs]
    exact run_firstCells_some w.drew 1 i ⟨g, 0, none⟩ i cap (us.take i) (by rw [List.length_take]; omega) (fun j x hj => by
      rw [Addr.add_lit, Nat.zero_add]
      rw [List.getElem?_take] at hj
      split at hj
      · exact hcell j x hj
      · cases hj)
  obtain ⟨G, hG⟩ : ∃ G, G = grownCap w (n + 1) cap 9 := ⟨_, rfl⟩
  have hGn : n + 1 ≤ G := by rw [hG]; exact grownCap_ge w _ _ _
  have hGm : G ≤ maxLen := by rw [hG]; exact grownCap_le_maxLen w (n + 1) cap 9 (by unfold maxLen; omega)
  have hG63 : G ≤ 9223372036854775807 := by unfold maxLen at hGm; omega
  obtain ⟨Z, hZ⟩ : ∃ Z : List Value, Z = (Builtin.zeroCells (.string ByteArray.empty : Value).cells (n + 1 - i) ++ Builtin.zeroCells (.string ByteArray.empty : Value).cells (G - (n + 1))).toList := ⟨_, rfl⟩
  have hZl : Z.length = G - i := by
    rw [hZ]
    simp [Builtin.zeroCells, Value.cells]
    omega
  have hrz : ∀ ty, (Builtin.append_ #[23, 3] ty #[.slice (some ⟨g, 0, none⟩) i cap, .int .i64 ((n : Int) + 1 - (i : Int))]).run Try.prog w = .ok (.slice (some ⟨w.heap.size, 0, none⟩) (n + 1) G) (w.drew.alloc (.cells (us.take i ++ Z).toArray 9)) := fun ty => by
    have h := Lib.run_append_grow_zeros w 23 3 ty 9 i0 _ .i64 .i64 Try.underlying23 Try.underlying3 hi0 hz0 (some ⟨g, 0, none⟩) i cap (us.take i) hold (n + 1 - i) (by omega) (by omega) (by omega) (by omega) (by rw [hzb]; omega) (by rw [hzb, hik]; exact growslice_fits hroom (by omega))
    rw [hik, ← hG] at h
    have hA : (us.take i).toArray ++ Builtin.zeroCells (.string ByteArray.empty : Value).cells (n + 1 - i) ++ Builtin.zeroCells (.string ByteArray.empty : Value).cells (G - (n + 1)) = (us.take i ++ Z).toArray := by
      rw [hZ]
      apply Array.toList_inj.1
      simp
    rw [hkk, h, hA]
  have hb1 : Below w.heap.size w (w.drew.alloc (.cells (us.take i ++ Z).toArray 9)) := ((Below.refl _ _).drew).alloc (Nat.le_refl _) _
  have hg1 : (w.drew.alloc (.cells (us.take i ++ Z).toArray 9)).heap[w.heap.size]? = some (.cells (us.take i ++ Z).toArray 9 (0, 0)) := heap_alloc_new w.drew _
  generalize w.drew.alloc (.cells (us.take i ++ Z).toArray 9) = W1 at *
  have hT : (us.take i).length = i := by simp; omega
  have hM : (us.drop i).length = n - i := by simp; omega
  have hRl : (us.take i ++ Z).length = G := by rw [List.length_append, hT, hZl]; omega
  have hv1 := (hb1.block vb hvw).trans hv
  obtain ⟨W2, hr2, hg2, -, -, hb2⟩ := copy_run W1 23 9 3 Try.underlying23 isize_s w.heap.size i (n + 1 - i) (G - i) ⟨vb, 0, none⟩ 1 1 (us.take i ++ Z) 9 [u] hg1 (by simp only [List.length_cons, List.length_nil, Nat.min_def]; split <;> omega) (fun j x hx => by
    rw [Addr.add_lit, cell_of_row _ _ _ _ _ _ hv1]
    simpa using hx) (by rw [hRl]; simp; omega) (by simpa using hu)
  have hB2 := hb2 w.heap.size w (Nat.le_refl _) hb1
  have hsl : (splice (us.take i ++ Z) i [u]).length = G := (length_splice _ _ _ (by rw [hRl]; simp; omega)).trans hRl
  obtain ⟨W3, hr3, hg3, -, -, hb3⟩ := copy_run W2.drew 23 9 3 Try.underlying23 isize_s w.heap.size (i + 1) (n + 1 - (i + 1)) (G - (i + 1)) ⟨g, i, none⟩ (n - i) (cap - i) (splice (us.take i ++ Z) i [u]) 9 (us.drop i) hg2 (by rw [hM]; simp only [Nat.min_def]; split <;> omega) (fun j x hx => by
    rw [Addr.add_lit]
    rw [List.getElem?_drop] at hx
    exact (hB2.drew.cell (p := ⟨g, i + j, none⟩) hgw).trans (hcell _ _ hx)) (by rw [hsl, hM]; omega) (fun x hx => hone x (List.mem_of_mem_drop hx))
  have hB3 := hb3 w.heap.size w (Nat.le_refl _) hB2.drew
  obtain ⟨q1, q2⟩ := splice_new (us.take i) Z (us.drop i) i n u hT (by omega) (by omega)
  rw [hRl] at q2
  have HF : Hid ((splice (splice (us.take i ++ Z) i [u]) (i + 1) (us.drop i)).length = G ∧ (splice (splice (us.take i ++ Z) i [u]) (i + 1) (us.drop i)).take (n + 1) = us.take i ++ u :: us.drop i ∧ W3.heap[w.heap.size]? = some (.cells (splice (splice (us.take i ++ Z) i [u]) (i + 1) (us.drop i)).toArray 9 (0, 0))) := ⟨q2, q1, hg3⟩
  have hz2 : ¬ ((i : Int) = (n : Int)) := by omega
  have hz3 : (cap : Int) < (n : Int) + 1 := by omega
  have hw1 : IntKind.i64.wrap ((i : Int) + 1) = (i : Int) + 1 := by rw [IntKind.wrap_i64]; omega
  have hw2 : IntKind.i64.wrap ((n : Int) + 1) = (n : Int) + 1 := by rw [IntKind.wrap_i64]; omega
  have hw3 : IntKind.i64.wrap ((n : Int) + 1 - (i : Int)) = (n : Int) + 1 - (i : Int) := by rw [IntKind.wrap_i64]; omega
  have hb1' : (0 : Int) ≤ (i : Int) + 1 := by omega
  have htn : ((i : Int) + 1).toNat = i + 1 := by omega
  have hb3' : (i : Int) ≤ (n : Int) := by omega
  have hb4' : (i : Int) ≤ (n : Int) + 1 := by omega
  have hin : i ≤ n := by omega
  have hGi : ¬ (G = i) := by omega
  have hGi1 : ¬ (G = i + 1) := by omega
  have hci : ¬ (cap = i) := by omega
  clear hcell hl hone hv hold hkk hik hG hZ hZl hb1 hg1 hT hM hRl hv1 hg2 hb2 hB2 hsl hg3 hb3 q1 q2 hz0 hzs hzb hi0
  go_enter Try.func91, Try.ntmps91
  go_wp2_with (first
    | (at_builtin; refine Lib.wpList_append_run _ rfl _ _ _ _ rfl _ _ rfl rfl _ _ (hrz _) ?_)
    | (at_builtin; refine wpList_copy_any rfl _ _ 23 rfl _ _ rfl rfl hr2 ?_))
  go_region_law_o (refine step_copy_any rfl _ _ 23 rfl _ _ (by simp [Act.eval, Act.put]) (by simp [Act.eval, Act.put]) hr3 ?_)
  go_wp2
  go_ret
  exact ⟨G, _, rfl, hGn, hGm, HF.out.1, HF.out.2.1, HF.out.2.2, hB3⟩
set_option maxRecDepth 100000 in
/-- slices.Insert of one. -/
theorem ins_any_s {w : World} {base : Nat} {sv : Value} {us : List Value} (h : w.ownsRow base 9 1 sv us.length us) (hone : ∀ x ∈ us, x.oneCell' = true) {i : Nat} (hi : i ≤ us.length) {vb : Nat} {u : Value} (hu : u.oneCell' = true) (hv : w.heap[vb]? = some (.cells #[u] 9 (0, 0))) (hvs : sv.ownBlock ≠ some vb) (hbase : base ≤ w.heap.size) (hn : us.length ≤ 1048576) :
    Calls Try.prog 91 #[sv, .int .i64 (i : Nat), .slice (some ⟨vb, 0, none⟩) 1 1] w fun e w' => ∃ v', e = .returned v' ∧ w'.ownsRow base 9 1 v' (us.length + 1) (us.take i ++ u :: us.drop i) ∧ ∀ X, X ≤ w.heap.size → (∀ k, sv.ownBlock = some k → X ≤ k) → Below X w w' := by
  by_cases he : i = us.length
  · subst he
    refine (ins_end_s h hu hv hbase hn).mono ?_
    rintro e w' ⟨v', rfl, ho, hg⟩
    exact ⟨v', rfl, by simpa using ho, fun X hX hk => (Below.refl _ _).grown hg hX hk⟩
  · have hlt : i < us.length := by omega
    rcases h.2 with ⟨rfl, h0⟩ | ⟨g, cap, cur, rfl, hg, hblk, hc, hm, hcs, hct⟩
    · omega
    · rw [Nat.mul_one] at hcs hct
      have hvg : vb ≠ g := fun e => hvs (by rw [e]; rfl)
      by_cases hr : us.length + 1 ≤ cap
      · refine (ins_room_s (C := cur.toList) (us := us) (by simpa using hblk) (by simpa using hcs) hct hlt hr hone hu hv hvg hn).mono ?_
        rintro e w' ⟨rfl, h1, h2⟩
        obtain ⟨q1, q2⟩ := splice_room cur.toList us i us.length u hlt hct (by rw [show cur.toList.length = cap by simpa using hcs]; exact hr)
        refine ⟨_, rfl, ⟨by simp; omega, Or.inr ⟨g, cap, _, rfl, hg, h1, hr, hm, ?_, ?_⟩⟩, fun X hX hk => h2.mono (hk g rfl)⟩
        · rw [Nat.mul_one]
          simp only [List.size_toArray]
          rw [q2]
          simpa using hcs
        · rw [Nat.mul_one]
          exact q1
      · refine (ins_grow_s (g := g) (cap := cap) (us := us) (fun j x hx => ?_) rfl hlt hc (by omega) hone hu hv hn).mono ?_
        · rw [cell_of_row _ _ _ _ _ _ hblk]
          rw [← hct, List.getElem?_take] at hx
          split at hx
          · simpa using hx
          · cases hx
        · rintro e w' ⟨G, R, rfl, h1, h2, h3, h4, h5, h6⟩
          refine ⟨_, rfl, ⟨by simp; omega, Or.inr ⟨w.heap.size, G, _, rfl, hbase, h5, h1, h2, ?_, ?_⟩⟩, fun X hX _ => h6.mono hX⟩
          · rw [Nat.mul_one]
            simpa using h3
          · rw [Nat.mul_one]
            exact h4
end Go.Proofs.Ytheabeapmhoclaa

namespace Go.Proofs.Ytheabeapmhoclaa
open Go.RowKit Go.Maps

def bsL_ren : Go.Shelf.Ren := ⟨fun | 26 => 90 | 33 => 98 | 34 => 99 | 38 => 114 | n => n, fun | 0 => 0 | 3 => 3 | 4 => 4 | 9 => 9 | 24 => 23 | 40 => 146 | n => n, fun | n => n⟩
set_option maxRecDepth 100000 in
theorem bsL : Go.Proofs.Lays2.n26 Try.prog bsL_ren := {
  mixed := by kernel_rfl
  f26 := Try.func90.trans (congrArg some (by kernel_rfl))
  f33 := Try.func98.trans (congrArg some (by kernel_rfl))
  f34 := Try.func99.trans (congrArg some (by kernel_rfl))
  f38 := Try.func114.trans (congrArg some (by kernel_rfl))
  t0 := Try.underlying0
  a0 := Try.isAgg0
  z0 := fun w => by kernel_rfl
  v0 := fun w => by kernel_rfl
  t3 := Try.underlying3
  a3 := Try.isAgg3
  z3 := fun w => by kernel_rfl
  v3 := fun w => by kernel_rfl
  t4 := Try.underlying4
  a4 := Try.isAgg4
  z4 := fun w => by kernel_rfl
  v4 := fun w => by kernel_rfl
  t9 := Try.underlying9
  a9 := Try.isAgg9
  z9 := fun w => by kernel_rfl
  v9 := fun w => by kernel_rfl
  t24 := Try.underlying23
  a24 := Try.isAgg23
  z24 := fun w => by kernel_rfl
  v24 := fun w => by kernel_rfl
  t40 := Try.underlying146
  a40 := Try.isAgg146
  z40 := fun w => by kernel_rfl
  v40 := fun w => by kernel_rfl }
set_option maxRecDepth 100000 in
theorem below_not {key : ByteArray} {q : List ByteArray} (h : Rising q) (t : Nat) (ht : t < q.length) (hb : below key q ≤ t) : ltB q[t] key = false := by
  rw [Bool.eq_false_iff]
  intro h1
  have h2 := ltB_iff.1 h1
  have hl : below key q < q.length := by omega
  refine below_at key q hl ?_
  rcases Nat.lt_or_eq_of_le hb with h3 | h3
  · exact ltS_trans (List.pairwise_iff_getElem.1 h _ _ hl ht h3) h2
  · simpa only [h3] using h2
set_option maxRecDepth 100000 in
theorem bs_any {w : World} {ok : Nat → Prop} {ka : Option Addr} {q : List ByteArray} (kc : Nat) (hr : SRow w ok ka q) (hq : Rising q) (hn : q.length ≤ 1048576) (key : ByteArray) :
    Calls Try.prog 90 #[.slice ka q.length kc, .string key] w fun e w' => ∃ f : Bool, e = .returned (.tuple #[.int .i64 (below key q : Nat), .bool f]) ∧ Below w.heap.size w w' := by
  by_cases h0 : q = []
  · subst h0
    refine (Go.Proofs.Any2.slices_BinarySearch_string_empty bsL ka kc key w).mono ?_
    rintro e w' ⟨rfl, rfl⟩
    exact ⟨false, rfl, Below.refl _ _⟩
  · obtain ⟨b, off, rfl, -, hc⟩ := hr.2 h0
    have hcell : ∀ j, j < q.length → w.cell? ⟨b, off + j, none⟩ = some (.string ((fun j => q[j]?.getD key) j)) := fun j hj => by
      rw [hc j hj]
      simp [hj]
    have hbs : Lib.bsGo (fun t => Op.bytesLess ((fun j => q[j]?.getD key) t).toList key.toList) q.length 0 q.length = below key q := by
      refine Lib.bsGo_spec _ _ (fun t ht => ?_) (fun t ht => ?_) _ _ _ (by omega) (Nat.zero_le _) (below_le key q)
      · have hl : t < q.length := by have := below_le key q; omega
        have := below_lt key q t ht hl
        simp only [lessB, hl, List.getElem?_eq_getElem, Option.getD_some]
        exact ltB_iff.2 this
      · simp only [lessB]
        by_cases hl : t < q.length
        · simp only [hl, List.getElem?_eq_getElem, Option.getD_some]
          exact below_not hq t hl ht
        · rw [List.getElem?_eq_none (by omega)]
          rw [Bool.eq_false_iff]
          exact fun h1 => ltS_asymm (ltB_iff.1 h1) (ltB_iff.1 h1)
    refine (Go.Proofs.Any2.slices_BinarySearch_string bsL b off q.length kc _ key w (by omega) hcell).mono ?_
    rintro e w' ⟨rfl, n, rfl⟩
    rw [hbs]
    exact ⟨_, rfl, ⟨rfl, rfl, rfl, Nat.le_refl _, fun _ _ => rfl⟩⟩
end Go.Proofs.Ytheabeapmhoclaa

namespace Go.Proofs.Ytheabeapmhoclaa
open Go.RowKit Go.Maps Go.WideMaps

set_option maxRecDepth 100000 in
theorem insS_any {w : World} {base : Nat} {sv : Value} {q : List ByteArray} (h : w.ownsRow base 9 1 sv q.length (q.map Value.string)) {i : Nat} (hi : i ≤ q.length) {vb : Nat} {key : ByteArray} (hv : w.heap[vb]? = some (.cells #[.string key] 9 (0, 0))) (hvs : sv.ownBlock ≠ some vb) (hbase : base ≤ w.heap.size) (hn : q.length ≤ 1048576) :
    Calls Try.prog 91 #[sv, .int .i64 (i : Nat), .slice (some ⟨vb, 0, none⟩) 1 1] w fun e w' => ∃ v', e = .returned v' ∧ w'.ownsRow base 9 1 v' (q.length + 1) ((q.take i ++ key :: q.drop i).map Value.string) ∧ ∀ X, X ≤ w.heap.size → (∀ k, sv.ownBlock = some k → X ≤ k) → Below X w w' := by
  have hl : (q.map Value.string).length = q.length := by simp
  refine (ins_any_s (us := q.map Value.string) (by rw [hl]; exact h) (by simp [Value.oneCell']) (by rw [hl]; exact hi) (by rfl) hv hvs hbase (by rw [hl]; exact hn)).mono ?_
  rintro e w' ⟨v', rfl, h1, h2⟩
  refine ⟨v', rfl, ?_, h2⟩
  rw [hl] at h1
  rw [List.map_append, List.map_cons, List.map_take, List.map_drop]
  exact h1
set_option maxRecDepth 100000 in
theorem own_ge {w : World} {base n : Nat} {E : TypeId} {v : Value} {xs : List Value} (h : w.ownsRow base E 1 v n xs) : ∀ k, v.ownBlock = some k → base ≤ k ∧ k < w.heap.size := fun k hk => h.lt k hk
set_option maxRecDepth 100000 in
set_option maxHeartbeats 1600000 in
theorem twith_any {w : World} {ok : Nat → Prop} (hk : ∀ b, w.heap.size ≤ b → ok b) (B M : Nat) (l : List V) (q : List ByteArray) (a : Option Addr) (c : Nat) (ka : Option Addr) (kc : Nat) (c4 : w.cell? ⟨B, 4, none⟩ = some (.slice a l.length c)) (c5 : w.cell? ⟨B, 5, none⟩ = some (.slice ka q.length kc)) (c6 : w.cell? ⟨B, 6, none⟩ = some (.map (some M))) (hM : Places w M q) (hr : RRow w ok a l) (hok : SliceOk a l.length c) (hs : SRow w ok ka q) (hok2 : SliceOk ka q.length kc) (hq : q.length = l.length) (hqr : Rising q)
    (key : ByteArray) (hkm : key.size ≤ maxLen) {u : Value} {x : V} (hu : Rep w ok u x) (hn : l.length ≤ 1048575) (hbk : V.bulk.go (mapPut l q key x).l ≤ 1048576) :
    Calls Try.prog 78 #[.pointer (some ⟨B, 0, none⟩), .string key, .agg #[u]] w fun e w' => ∃ h, e = .returned (.agg #[h]) ∧ Rep w' ok h (mapPut l q key x) ∧ Below w.heap.size w w' := by
  obtain ⟨n, D, hown, hh, hat⟩ := hM
  have hkey : keyOf Try.prog 9 (.string key) = some (litS key) := keyOf_string_mk Try.underlying9 hkm
  have hhz : Maps.has D (litS key) = (V.mk 7 false 0 0 ByteArray.empty l q).hasK key := by rw [Bool.eq_iff_iff, hasK_mem]; exact hh key
  have hlt := World.block_lt_of_cell? _ _ c6
  have hone := hu.one
  have hB0 := BX.start w u
  have hownW : ∀ W, BX w W u → W.ownsMap Try.prog 9 (plainElem Try.prog 3) M n D := fun W hW => mapOwn_agree hown (hW.2.2.block M hown.lt)
  have HX : Hid (∀ W, BX w W u → W.cell? ⟨w.heap.size, 0, none⟩ = some u ∧ W.cell? ⟨B, 4, none⟩ = some (.slice a l.length c) ∧ W.cell? ⟨B, 5, none⟩ = some (.slice ka q.length kc) ∧ W.cell? ⟨B, 6, none⟩ = some (.map (some M))) := fun W hW => ⟨hW.cell, (hW.2.2.cell (p := ⟨B, 4, none⟩) hlt).trans c4, (hW.2.2.cell (p := ⟨B, 5, none⟩) hlt).trans c5, (hW.2.2.cell (p := ⟨B, 6, none⟩) hlt).trans c6⟩
  have hup : ∀ W, BX w W u → RRow W (fun b => ok b ∧ b ≠ w.heap.size + 1) a l ∧ SRow W (fun b => ok b ∧ b ≠ w.heap.size + 1) ka q ∧ Rep W (fun b => ok b ∧ b ≠ w.heap.size + 1) u x ∧ w.heap.size + 2 ≤ W.heap.size := fun W hW => by
    obtain ⟨-, ⟨y, hy⟩, hb⟩ := hW
    have hsz := (Array.getElem?_eq_some_iff.1 hy).1
    refine ⟨?_, ?_, ?_, hsz⟩
    · exact ((hr.mono (ok' := fun b => ok b ∧ b < w.heap.size) (fun b h1 h2 => ⟨h1, h2⟩)).agree (w' := W) (fun b h1 _ => hb.block b h1.2)).mono (fun b h1 _ => ⟨h1.1, by omega⟩)
    · exact ((hs.mono (ok' := fun b => ok b ∧ b < w.heap.size) (fun b h1 h2 => ⟨h1, h2⟩)).agree (w' := W) (fun b h1 _ => hb.block b h1.2)).mono (fun b h1 _ => ⟨h1.1, by omega⟩)
    · exact ((hu.mono (ok' := fun b => ok b ∧ b < w.heap.size) (fun b h1 h2 => ⟨h1, h2⟩)).agree (w' := W) (fun b h1 _ => hb.block b h1.2)).mono (fun b h1 _ => ⟨h1.1, by omega⟩)
  obtain ⟨d0, d4, d5, d6⟩ := HX.out _ hB0
  have hown' := hownW _ hB0
  have CM : Hid (∀ W a' c' ka' kc' (L : List V) (Q : List ByteArray), BX w W u → RRow W (fun b => ok b ∧ b ≠ w.heap.size + 1) a' L → SliceOk a' L.length c' → SRow W (fun b => ok b ∧ b ≠ w.heap.size + 1) ka' Q → SliceOk ka' Q.length kc' → Q.length = L.length → Q.Nodup → V.bulk.go L ≤ 1048576 → Calls Try.prog 62 #[.slice ka' Q.length kc', .slice a' L.length c'] W fun e w' => ∃ h, e = .returned (.agg #[h]) ∧ h.oneCell' = true ∧ Rep w' (fun b => ok b ∧ b ≠ w.heap.size + 1) h (V.map L Q) ∧ Below W.heap.size W w') := fun W a' c' ka' kc' L Q hW h1 h2 h3 h4 h5 h6 h7 => by
    have hsz := (hup W hW).2.2.2
    refine (mapOf_any a' L c' ka' Q kc' W (ok := fun b => ok b ∧ b ≠ w.heap.size + 1) (fun b hb => ⟨hk b (by omega), by omega⟩) h1 h2 h7 h3 h4 h5 h6).mono ?_
    rintro e w' ⟨g, rfl, h3, h4⟩
    exact ⟨g, rfl, h3.one, h3, h4⟩
  unfold mapPut at hbk ⊢
  cases hz : (V.mk 7 false 0 0 ByteArray.empty l q).hasK key
  · rw [if_neg (by rw [hz]; simp)] at hbk
    rw [if_neg (by simp)]
    rw [hz] at hhz
    have hnot : key ∉ q := fun hm => by
      have := (hasK_mem (V.mk 7 false 0 0 ByteArray.empty l q) key).2 hm
      rw [hz] at this; cases this
    have hbl := below_le key q
    have CB : Hid (∀ W, BX w W u → Calls Try.prog 90 #[.slice ka q.length kc, .string key] W fun e w' => ∃ f : Bool, e = .returned (.tuple #[.int .i64 (below key q : Nat), .bool f]) ∧ Below W.heap.size W w') := fun W hW => bs_any kc (hup W hW).2.1 hqr (by omega) key
    have CK : Hid (∀ W, BX w W u → Calls Try.prog 71 #[.slice ka q.length kc] W fun e w' => ∃ v', e = .returned v' ∧ w'.ownsRow W.heap.size 9 1 v' q.length (q.map Value.string) ∧ Below W.heap.size W w') := fun W hW => by
      have := cloneS_own ka (q.map Value.string) kc W (hup W hW).2.1.crow (by simpa using hok2) (by simp [Value.oneCell']) (by simp; omega)
      simpa using this
    obtain ⟨i, hi⟩ : ∃ i, i = below key q := ⟨_, rfl⟩
    have CV : Hid (∀ W, BX w W u → ∃ us : List Value, us.length = l.length ∧ (∀ j (hj : j < us.length) (hk : j < l.length), Rep W (fun b => ok b ∧ b ≠ w.heap.size + 1) us[j] l[j]) ∧ (∀ y ∈ us, y.oneCell' = true) ∧ Calls Try.prog 66 #[.slice a l.length c] W fun e w' => ∃ v', e = .returned v' ∧ w'.ownsRow W.heap.size 30 1 v' l.length us ∧ Below W.heap.size W w') := fun W hW => by
      obtain ⟨us, h1, h2, h3, h4⟩ := (hup W hW).1.vals
      refine ⟨us, h1, h4, h3, ?_⟩
      have := cloneV_own a us c W h2 (by rw [h1]; exact hok) h3 (by omega)
      rw [h1] at this
      exact this
    have hil : i ≤ q.length := by rw [hi]; exact hbl
    have hil2 : i ≤ l.length := by omega
    have hQl : (q.take i ++ key :: q.drop i).length = q.length + 1 := by simp; omega
    have hLl : (l.take i ++ x :: l.drop i).length = l.length + 1 := by simp; omega
    have hQn : Hid ((q.take i ++ key :: q.drop i).Nodup) := by rw [hi]; exact (ins_rising hqr hnot).nodup
    have hQs : Hid (∀ y ∈ q.take i ++ key :: q.drop i, y.size ≤ maxLen) := fun y hy => by
      rcases List.mem_append.1 hy with h1 | h1
      · exact hs.1 y (List.mem_of_mem_take h1)
      · rcases List.mem_cons.1 h1 with rfl | h1
        · exact hkm
        · exact hs.1 y (List.mem_of_mem_drop h1)
    have hLb : Hid (V.bulk.go (l.take i ++ x :: l.drop i) ≤ 1048576) := by rw [hi]; exact hbk
    rw [← hi] at CB ⊢
    have HU : Hid (∀ W, BX w W u → Rep W (fun b => ok b ∧ b ≠ w.heap.size + 1) u x ∧ w.heap.size + 2 ≤ W.heap.size) := fun W hW => (hup W hW).2.2
    have hn1 : q.length ≤ 1048576 := by omega
    have HQ : Hid (q.length = l.length) := hq
    have CI : Hid (∀ W v4 us vb b4, BX w W u → w.heap.size + 2 ≤ b4 → b4 ≤ W.heap.size → us.length = l.length → (∀ j (hj : j < us.length) (hk : j < l.length), Rep W (fun b => (ok b ∧ b ≠ w.heap.size + 1) ∧ b < b4) us[j] l[j]) → (∀ y ∈ us, y.oneCell' = true) → W.ownsRow b4 30 1 v4 l.length us → W.heap[vb]? = some (.cells #[u] 30 (0, 0)) → v4.ownBlock ≠ some vb → Calls Try.prog 92 #[v4, .int .i64 (i : Nat), .slice (some ⟨vb, 0, none⟩) 1 1] W fun e w' => ∃ a5 c5, e = .returned (.slice a5 (l.take i ++ x :: l.drop i).length c5) ∧ RRow w' (fun b => ok b ∧ b ≠ w.heap.size + 1) a5 (l.take i ++ x :: l.drop i) ∧ SliceOk a5 (l.take i ++ x :: l.drop i).length c5 ∧ Below b4 W w') := fun W v4 us vb b4 hW hb4 hbW hul hrep h1 ho hv hne => by
      refine (ins_any_v (us := us) (by rw [hul]; exact ho) h1 (by omega) hone hv hne hbW (by omega)).mono ?_
      rintro e w' ⟨v', rfl, ho', hbl'⟩
      have hb' := hbl' b4 hbW (fun k hk => (ho.lt k hk).1)
      rw [hul] at ho'
      obtain ⟨a5, c5, rfl, hc5, hk5, hl5⟩ := own_crow ho' (ok := fun b => ok b ∧ b ≠ w.heap.size + 1) (fun b hb => ⟨hk b (by omega), by omega⟩)
      have hux : Rep W (fun b => (ok b ∧ b ≠ w.heap.size + 1) ∧ b < b4) u x := by
        have h1 := (hu.mono (ok' := fun b => ok b ∧ b < w.heap.size) (fun b h1 h2 => ⟨h1, h2⟩)).agree (w' := W) (fun b h1 _ => hW.2.2.block b h1.2)
        exact h1.mono (fun b h1 _ => ⟨⟨h1.1, by omega⟩, by omega⟩)
      have hall := ins_rep (i := i) (by omega) (fun j hj hk => (hrep j hj hk)) hux (by omega)
      refine ⟨a5, c5, by rw [hLl], RRow.of_vals hc5 (by rw [hl5, hLl]) (fun j hj hk => ?_), by rw [hLl]; exact hk5, hb'⟩
      exact ((hall j hj hk).agree (w' := w') (fun b h1 _ => hb'.block b h1.2)).mono (fun b h1 _ => h1.1)
    have CS : Hid (∀ W v2 vb b2, BX w W u → w.heap.size + 2 ≤ b2 → b2 ≤ W.heap.size → W.ownsRow b2 9 1 v2 q.length (q.map Value.string) → W.heap[vb]? = some (.cells #[.string key] 9 (0, 0)) → v2.ownBlock ≠ some vb → Calls Try.prog 91 #[v2, .int .i64 (i : Nat), .slice (some ⟨vb, 0, none⟩) 1 1] W fun e w' => ∃ a5 c5, e = .returned (.slice a5 (q.take i ++ key :: q.drop i).length c5) ∧ SRow w' (fun b => ok b ∧ b ≠ w.heap.size + 1) a5 (q.take i ++ key :: q.drop i) ∧ SliceOk a5 (q.take i ++ key :: q.drop i).length c5 ∧ Below b2 W w') := fun W v2 vb b2 hW hb2 hbW ho hv hne => by
      refine (insS_any ho hil hv hne hbW hn1).mono ?_
      rintro e w' ⟨v', rfl, ho', hbl'⟩
      have hb' := hbl' b2 hbW (fun k hk => (ho.lt k hk).1)
      obtain ⟨a5, c5, rfl, hc5, hk5, hl5⟩ := own_crow ho' (ok := fun b => ok b ∧ b ≠ w.heap.size + 1) (fun b hb => ⟨hk b (by omega), by omega⟩)
      exact ⟨a5, c5, by rw [hQl], hc5.srow (fun y hy => hQs.out y hy), by rw [hQl]; exact hk5, hb'⟩
    clear hk hr hok hs hok2 hu hn hbk c4 c5 c6 hup hat hownW hown hh hqr hkm hbl hi hnot hz hq hil hil2
    generalize List.take i q ++ key :: List.drop i q = QL at *
    generalize List.take i l ++ x :: List.drop i l = LL at *
    have HL : Hid (QL.length = LL.length) := by show _ = _; rw [hQl, hLl, HQ.out]
    clear hQl hLl
    go_enter Try.func78, Try.ntmps78
    go_wp2_with (at_lookup; refine wpList_look2 _ rfl _ _ 98 rfl 9 3 .i64 keyedS Try.underlying98 Try.underlying3 (zeroI _) M n _ rfl hown' _ _ rfl hkey 0 false (fun h => by cases h) hhz ?_; intro cc hcc)
    refine (CB.out _ hB0).mono ?_
    rintro e w1 ⟨f, rfl, hb1⟩
    have hB1 := hB0.below hb1
    obtain ⟨p0, p4, p5, p6⟩ := HX.out _ hB1
    clear d0 d4 d5 d6 hown' CB hb1 hB0
    go_wp2_with fail
    refine (CK.out _ hB1).mono ?_
    rintro e w2 ⟨v2, rfl, ho2, hb2⟩
    have z1 := (HU.out _ hB1).2
    have hs2 := hb2.size
    clear p0 p4 p5 p6 CK
    go_wp2_with fail
    have hB2a := hB1.below (hb2.alloc hb2.size (.cells #[.string key] 9))
    have ho2a := cown_below ho2 ((Below.refl w2.heap.size w2).alloc (Nat.le_refl _) (.cells #[.string key] 9))
    refine (CS.out _ v2 w2.heap.size w1.heap.size hB2a (by omega) (by simp; omega) ho2a (heap_alloc_new _ _) (fun e => by have := (ho2.lt _ e).2; omega)).mono ?_
    rintro e w3 ⟨a3, c3, rfl, hsr, hk3, hb3⟩
    have hB3 := hB2a.upto (X := w1.heap.size) z1 hb3
    have hs3 := (HU.out _ hB3).2
    have hS3 : BX w w3 u ∧ Below w3.heap.size w3 w3 := ⟨hB3, Below.refl _ _⟩
    clear CS ho2 ho2a hb2 hB2a hb3 hs2 z1 hB1 hkey hhz hcc hlt
    go_wp2_with fail
    refine wp_region_held_drew (S := fun w' => BX w w' u ∧ Below w3.heap.size w3 w') (by kernel_rfl) ⟨hS3.1.drew, hS3.2.drew⟩ (fun hSS => ?_)
    refine wpAnyH_take (i := 0) (v := ?_) rfl (by kernel_rfl) (by kernel_rfl) (by kernel_rfl) (fun _ _ _ h => h) (Or.inl ⟨by rfl, ?_⟩) hSS ?_
    rotate_left
    · intro wz hSz
      go_simp
      try with_reducible rfl
    simp only [List.getElem_toArray, List.getElem_cons_zero, Act.put, List.setIfInBounds_toArray, List.set_cons_zero, List.set_cons_succ]
    refine wpAnyH_take (i := 1) (v := ?_) rfl (by kernel_rfl) (by kernel_rfl) (by kernel_rfl) (fun _ _ _ h => h) (Or.inl ⟨by rfl, ?_⟩) hSS ?_
    rotate_left
    · intro wz hSz
      go_simp
      try with_reducible rfl
    simp only [List.getElem_toArray, List.getElem_cons_zero, List.getElem_cons_succ, Act.put, List.setIfInBounds_toArray, List.set_cons_zero, List.set_cons_succ]
    refine wpAnyH_take (i := 2) (v := ?_) rfl (by kernel_rfl) (by kernel_rfl) (by kernel_rfl) (fun _ _ _ h => h) (Or.inl ⟨by rfl, ?_⟩) hSS ?_
    rotate_left
    · intro wz hSz
      go_simp
      try with_reducible rfl
    simp only [List.getElem_toArray, List.getElem_cons_zero, List.getElem_cons_succ, Act.put, List.setIfInBounds_toArray, List.set_cons_zero, List.set_cons_succ]
    refine wpAnyH_take (i := 3) (v := ?_) rfl (by kernel_rfl) (by kernel_rfl) (by kernel_rfl) (fun _ _ _ h => h) (Or.inl ⟨by rfl, ?_⟩) hSS ?_
    rotate_left
    · intro wz hSz
      go_simp
      try with_reducible rfl
    simp only [List.getElem_toArray, List.getElem_cons_zero, List.getElem_cons_succ, Act.put, List.setIfInBounds_toArray, List.set_cons_zero, List.set_cons_succ]
    refine wpAnyH_take (i := 4) (v := ?_) rfl (by kernel_rfl) (by kernel_rfl) (by kernel_rfl) (fun _ _ _ h => h) (Or.inl ⟨by rfl, ?_⟩) hSS ?_
    rotate_left
    · intro wz hSz
      obtain ⟨p0, p4, p5, p6⟩ := HX.out _ hSz.1
      go_simp
      try with_reducible rfl
    simp only [List.getElem_toArray, List.getElem_cons_zero, List.getElem_cons_succ, Act.put, List.setIfInBounds_toArray, List.set_cons_zero, List.set_cons_succ]
    refine wpAnyH_take (i := 6) (v := ?_) rfl (by kernel_rfl) (by kernel_rfl) (by kernel_rfl) (fun _ _ _ h => h) (Or.inl ⟨by rfl, ?_⟩) hSS ?_
    rotate_left
    · intro wz hSz
      go_simp
      try with_reducible rfl
    simp only [List.getElem_toArray, List.getElem_cons_zero, List.getElem_cons_succ, Act.put, List.setIfInBounds_toArray, List.set_cons_zero, List.set_cons_succ]
    refine wpAnyH_take (i := 7) (v := ?_) rfl (by kernel_rfl) (by kernel_rfl) (by kernel_rfl) (fun _ _ _ h => h) (Or.inl ⟨by rfl, ?_⟩) hSS ?_
    rotate_left
    · intro wz hSz
      obtain ⟨p0, p4, p5, p6⟩ := HX.out _ hSz.1
      go_simp
      try with_reducible rfl
    simp only [List.getElem_toArray, List.getElem_cons_zero, List.getElem_cons_succ, Act.put, List.setIfInBounds_toArray, List.set_cons_zero, List.set_cons_succ]
    refine wpAnyH_ready (rs := [5, 8]) (by kernel_rfl) (by simp) (AllReadyH.cons rfl (fun K5 hK5 => ?_) (AllReadyH.cons rfl (fun K8 hK8 => ?_) AllReadyH.nil))
    · refine step_plain (by rfl) ?_
      simp only [List.getElem_toArray, List.getElem_cons_zero, List.getElem_cons_succ]
      go_simp
      go_at_call 66
      obtain ⟨us, hul, hrep, hone1, CC⟩ := CV.out _ hSS.1
      have hz0 := (HU.out _ hSS.1).2
      have hlow := hSS.2.size
      refine CC.mono ?_
      rintro e w4 ⟨v4, rfl, ho4, hb4⟩
      have hrep4 := fun j hj hk => (hrep j hj hk).low.agree (w' := w4) (fun b h1 _ => hb4.block b h1.2)
      have hs4 := hb4.size
      go_simp
      refine hK5.out _ _ ⟨hSS.1.below hb4, hSS.2.trans (hb4.mono hSS.2.size)⟩ (fun hSS2 => ?_)
      clear hK5 hSS
      refine wpAnyH_ready (rs := [8]) (by kernel_rfl) (by simp) (AllReadyH.cons rfl (fun K6 hK6 => ?_) AllReadyH.nil)
      refine step_plain (by rfl) ?_
      simp only [List.getElem_toArray, List.getElem_cons_zero, List.getElem_cons_succ]
      go_simp
      have hS8 : Below w4.heap.size w4 (w4.alloc (.cells #[u] 30)) := (Below.refl _ _).alloc (Nat.le_refl _) _
      have ho5 := cown_below ho4 hS8
      have hv5 := heap_alloc_new w4 (.cells #[u] 30)
      have hne5 : v4.ownBlock ≠ some w4.heap.size := fun e => by have := (ho4.lt _ e).2; omega
      have hrep5 := fun j hj hk => (hrep4 j hj hk).agree (w' := w4.alloc (.cells #[u] 30)) (fun b h1 _ => hS8.block b (by omega))
      refine hK6.out _ _ ⟨hSS2.1.below hS8, hSS2.2.trans (hS8.mono hSS2.2.size)⟩ (fun hSS => ?_)
      clear hK6 hSS2 hS8
      refine wpAnyH_ready (rs := [9]) (by kernel_rfl) (by simp) (AllReadyH.cons rfl (fun K7 hK7 => ?_) AllReadyH.nil)
      refine step_plain (by rfl) ?_
      simp only [List.getElem_toArray, List.getElem_cons_zero, List.getElem_cons_succ]
      go_simp
      go_at_call 92
      refine (CI.out _ v4 us _ _ hSS.1 hz0 (by simp; omega) hul hrep5 hone1 ho5 hv5 hne5).mono ?_
      rintro e w6 ⟨a6, c6, rfl, hr6, hk6, hb6⟩
      have hb6' : Below w3.heap.size w3 w6 := hSS.2.trans (hb6.mono hlow)
      have hB6 := hSS.1.upto hz0 hb6
      go_simp
      refine hK7.out _ _ ⟨hB6, hb6'⟩ (fun hSS => ?_)
      clear hK7
      refine wpAnyH_take (i := 10) (v := ?_) rfl (by kernel_rfl) (by kernel_rfl) (by kernel_rfl) (fun _ _ _ h => h) (Or.inl ⟨by rfl, ?_⟩) hSS ?_
      rotate_left
      · intro wz hSz
        go_simp
        try with_reducible rfl
      simp only [List.getElem_toArray, List.getElem_cons_zero, List.getElem_cons_succ, Act.put, List.setIfInBounds_toArray, List.set_cons_zero, List.set_cons_succ]
      refine wpAnyH_done (by kernel_rfl) ?_ _
      have hsr6 := hsr.agree (w' := w6) (fun b h1 h2 => hb6'.block b h2)
      clear CI hrep4 hrep5 ho4 ho5 hone1 hb6' hrep hv5 hne5 hul HU hs4
      go_wp2_with fail
      refine (CM.out _ _ _ _ _ _ _ hB6 hr6 hk6 hsr6 hk3 HL.out hQn.out hLb.out).mono ?_
      rintro e w7 ⟨g, rfl, hg1, hrep, hb7⟩
      have hB7 := hB6.below hb7
      have hgot := hB7.got g
      have hset := (hB7.set g).2.2
      have hrep2 := hrep.setR (w := w) g
      obtain ⟨-, ⟨y, hy⟩, -⟩ := hB7
      have st := store_old g y hg1 w7 _ (cell_of_row _ _ 0 _ _ _ hy) (frozen_of_row _ _ 0 _ _ hy)
      clear hB6 hb7 hr6 hsr6 hrep CM
      go_wp2_with fail
      exact bodyPost_ret (v := .agg #[g]) (by simp [results, Try.results78, go_sem, hgot]) rfl ⟨g, rfl, hrep2.mono (fun _ h _ => h.1), hset⟩
    · refine step_plain (by rfl) ?_
      simp only [List.getElem_toArray, List.getElem_cons_zero, List.getElem_cons_succ]
      go_simp
      have hv0 := fun (W : World) => heap_alloc_new W (.cells #[u] 30)
      refine hK8.out _ _ ⟨hSS.1.below ((Below.refl _ _).alloc (Nat.le_refl _) _), hSS.2.trans (((Below.refl _ _).alloc (Nat.le_refl _) _).mono hSS.2.size)⟩ (fun hSS => ?_)
      clear hK8
      refine wpAnyH_ready (rs := [5]) (by kernel_rfl) (by simp) (AllReadyH.cons rfl (fun K6 hK6 => ?_) AllReadyH.nil)
      refine step_plain (by rfl) ?_
      simp only [List.getElem_toArray, List.getElem_cons_zero, List.getElem_cons_succ]
      go_simp
      go_at_call 66
      obtain ⟨us, hul, hrep, hone1, CC⟩ := CV.out _ hSS.1
      have hz0 := (HU.out _ hSS.1).2
      have hlow := hSS.2.size
      refine CC.mono ?_
      rintro e w4 ⟨v4, rfl, ho4, hb4⟩
      have hrep4 := fun j hj hk => (hrep j hj hk).low.agree (w' := w4) (fun b h1 _ => hb4.block b h1.2)
      have hs4 := hb4.size
      go_simp
      have ho5 := ho4
      have hv5 := (hb4.block _ (by simp)).trans (hv0 _)
      have hrep5 := hrep4
      refine hK6.out _ _ ⟨hSS.1.below hb4, hSS.2.trans (hb4.mono hSS.2.size)⟩ (fun hSS => ?_)
      clear hK6 hv0
      refine wpAnyH_ready (rs := [9]) (by kernel_rfl) (by simp) (AllReadyH.cons rfl (fun K7 hK7 => ?_) AllReadyH.nil)
      refine step_plain (by rfl) ?_
      simp only [List.getElem_toArray, List.getElem_cons_zero, List.getElem_cons_succ]
      go_simp
      go_at_call 92
      refine (CI.out _ v4 us _ _ hSS.1 hz0 hs4 hul hrep5 hone1 ho5 hv5 (fun e => absurd (ho4.lt _ e).1 (by simp))).mono ?_
      rintro e w6 ⟨a6, c6, rfl, hr6, hk6, hb6⟩
      have hb6' : Below w3.heap.size w3 w6 := hSS.2.trans (hb6.mono hlow)
      have hB6 := hSS.1.upto hz0 hb6
      go_simp
      refine hK7.out _ _ ⟨hB6, hb6'⟩ (fun hSS => ?_)
      clear hK7
      refine wpAnyH_take (i := 10) (v := ?_) rfl (by kernel_rfl) (by kernel_rfl) (by kernel_rfl) (fun _ _ _ h => h) (Or.inl ⟨by rfl, ?_⟩) hSS ?_
      rotate_left
      · intro wz hSz
        go_simp
        try with_reducible rfl
      simp only [List.getElem_toArray, List.getElem_cons_zero, List.getElem_cons_succ, Act.put, List.setIfInBounds_toArray, List.set_cons_zero, List.set_cons_succ]
      refine wpAnyH_done (by kernel_rfl) ?_ _
      have hsr6 := hsr.agree (w' := w6) (fun b h1 h2 => hb6'.block b h2)
      clear CI hrep4 hrep5 ho4 ho5 hone1 hb6' hrep hv5 hul HU hs4
      go_wp2_with fail
      refine (CM.out _ _ _ _ _ _ _ hB6 hr6 hk6 hsr6 hk3 HL.out hQn.out hLb.out).mono ?_
      rintro e w7 ⟨g, rfl, hg1, hrep, hb7⟩
      have hB7 := hB6.below hb7
      have hgot := hB7.got g
      have hset := (hB7.set g).2.2
      have hrep2 := hrep.setR (w := w) g
      obtain ⟨-, ⟨y, hy⟩, -⟩ := hB7
      have st := store_old g y hg1 w7 _ (cell_of_row _ _ 0 _ _ _ hy) (frozen_of_row _ _ 0 _ _ hy)
      clear hB6 hb7 hr6 hsr6 hrep CM
      go_wp2_with fail
      exact bodyPost_ret (v := .agg #[g]) (by simp [results, Try.results78, go_sem, hgot]) rfl ⟨g, rfl, hrep2.mono (fun _ h _ => h.1), hset⟩
  · rw [if_pos hz] at hbk
    rw [if_pos rfl]
    rw [hz] at hhz
    have hm := (hasK_mem (V.mk 7 false 0 0 ByteArray.empty l q) key).1 hz
    have hatz : D.atKey (litS key) (.lit (.int .i64 0)) = .lit (.int .i64 (posK q key)) := by
      have := hat (posK q key) (posK_lt hm)
      rw [posK_at hm] at this
      exact this
    have hp : posK q key < l.length := by have := posK_lt hm; simp only at this; omega
    obtain ⟨k, hkk⟩ : ∃ k, k = posK q key := ⟨_, rfl⟩
    rw [← hkk] at hatz hp hbk ⊢
    have CP : Hid (∀ W, BX w W u → Calls Try.prog 89 #[.slice a l.length c, .int .i64 (k : Nat), .agg #[u]] W fun e w' => ∃ a' c', e = .returned (.slice a' (putAt l k x).length c') ∧ RRow w' (fun b => ok b ∧ b ≠ w.heap.size + 1) a' (putAt l k x) ∧ SliceOk a' (putAt l k x).length c' ∧ Below W.heap.size W w') := fun W hW => by
      obtain ⟨h1, h2, h3, h4⟩ := hup W hW
      exact placed_any (ok := fun b => ok b ∧ b ≠ w.heap.size + 1) (fun b hb => ⟨hk b (by omega), by omega⟩) c h1 hok (by omega) (by omega) h3
    have hbk2 : V.bulk.go (putAt l k x) ≤ 1048576 := hbk
    have hLl : (putAt l k x).length = l.length := by rw [putAt_len, if_pos hp]
    have CM2 : Hid (∀ W a' c', BX w W u → RRow W (fun b => ok b ∧ b ≠ w.heap.size + 1) a' (putAt l k x) → SliceOk a' (putAt l k x).length c' → Calls Try.prog 62 #[.slice ka q.length kc, .slice a' (putAt l k x).length c'] W fun e w' => ∃ h, e = .returned (.agg #[h]) ∧ h.oneCell' = true ∧ Rep w' (fun b => ok b ∧ b ≠ w.heap.size + 1) h (V.map (putAt l k x) q) ∧ Below W.heap.size W w') := fun W a' c' hW h1 h2 =>
      CM.out W a' c' ka kc _ q hW h1 h2 (hup W hW).2.1 hok2 (by omega) hqr.nodup hbk2
    have hBX2 : BX w (((w.alloc (.cells #[u] 30)).alloc (.cells #[.nilIface] 30))) u := hB0
    clear hk hr hok hs hok2 hu hn hbk hbk2 c4 c5 c6 hup hat hownW hown hh hqr hkm hm hz CM hLl hkk hq hp
    generalize putAt l k x = L at *
    go_enter Try.func78, Try.ntmps78
    go_wp2_with (at_lookup; refine wpList_look2 _ rfl _ _ 98 rfl 9 3 .i64 keyedS Try.underlying98 Try.underlying3 (zeroI _) M n _ rfl hown' _ _ rfl hkey k true (fun _ => hatz) hhz ?_; intro cc hcc; rw [hcc rfl])
    refine wp_region_held_drew (S := fun w' => BX w w' u) (by kernel_rfl) (BX.drew hBX2) (fun hSS => ?_)
    refine wpAnyH_take (i := 0) (v := ?_) rfl (by kernel_rfl) (by kernel_rfl) (by kernel_rfl) (fun _ _ _ h => h) (Or.inl ⟨by rfl, ?_⟩) hSS ?_
    rotate_left
    · intro wz hSz
      go_simp
      try with_reducible rfl
    simp only [List.getElem_toArray, List.getElem_cons_zero, Act.put, List.setIfInBounds_toArray, List.set_cons_zero, List.set_cons_succ]
    refine wpAnyH_take (i := 1) (v := ?_) rfl (by kernel_rfl) (by kernel_rfl) (by kernel_rfl) (fun _ _ _ h => h) (Or.inl ⟨by rfl, ?_⟩) hSS ?_
    rotate_left
    · intro wz hSz
      go_simp
      try with_reducible rfl
    simp only [List.getElem_toArray, List.getElem_cons_zero, List.getElem_cons_succ, Act.put, List.setIfInBounds_toArray, List.set_cons_zero, List.set_cons_succ]
    refine wpAnyH_take (i := 2) (v := ?_) rfl (by kernel_rfl) (by kernel_rfl) (by kernel_rfl) (fun _ _ _ h => h) (Or.inl ⟨by rfl, ?_⟩) hSS ?_
    rotate_left
    · intro wz hSz
      go_simp
      try with_reducible rfl
    simp only [List.getElem_toArray, List.getElem_cons_zero, List.getElem_cons_succ, Act.put, List.setIfInBounds_toArray, List.set_cons_zero, List.set_cons_succ]
    refine wpAnyH_take (i := 3) (v := ?_) rfl (by kernel_rfl) (by kernel_rfl) (by kernel_rfl) (fun _ _ _ h => h) (Or.inl ⟨by rfl, ?_⟩) hSS ?_
    rotate_left
    · intro wz hSz
      obtain ⟨p0, p4, p5, p6⟩ := HX.out _ hSz
      go_simp
      try with_reducible rfl
    simp only [List.getElem_toArray, List.getElem_cons_zero, List.getElem_cons_succ, Act.put, List.setIfInBounds_toArray, List.set_cons_zero, List.set_cons_succ]
    refine wpAnyH_take (i := 4) (v := ?_) rfl (by kernel_rfl) (by kernel_rfl) (by kernel_rfl) (fun _ _ _ h => h) (Or.inl ⟨by rfl, ?_⟩) hSS ?_
    rotate_left
    · intro wz hSz
      go_simp
      try with_reducible rfl
    simp only [List.getElem_toArray, List.getElem_cons_zero, List.getElem_cons_succ, Act.put, List.setIfInBounds_toArray, List.set_cons_zero, List.set_cons_succ]
    refine wpAnyH_take (i := 5) (v := ?_) rfl (by kernel_rfl) (by kernel_rfl) (by kernel_rfl) (fun _ _ _ h => h) (Or.inl ⟨by rfl, ?_⟩) hSS ?_
    rotate_left
    · intro wz hSz
      go_simp
      try with_reducible rfl
    simp only [List.getElem_toArray, List.getElem_cons_zero, List.getElem_cons_succ, Act.put, List.setIfInBounds_toArray, List.set_cons_zero, List.set_cons_succ]
    refine wpAnyH_take (i := 6) (v := ?_) rfl (by kernel_rfl) (by kernel_rfl) (by kernel_rfl) (fun _ _ _ h => h) (Or.inl ⟨by rfl, ?_⟩) hSS ?_
    rotate_left
    · intro wz hSz
      go_simp
      try with_reducible rfl
    simp only [List.getElem_toArray, List.getElem_cons_zero, List.getElem_cons_succ, Act.put, List.setIfInBounds_toArray, List.set_cons_zero, List.set_cons_succ]
    refine wpAnyH_take (i := 7) (v := ?_) rfl (by kernel_rfl) (by kernel_rfl) (by kernel_rfl) (fun _ _ _ h => h) (Or.inl ⟨by rfl, ?_⟩) hSS ?_
    rotate_left
    · intro wz hSz
      go_simp
      try with_reducible rfl
    simp only [List.getElem_toArray, List.getElem_cons_zero, List.getElem_cons_succ, Act.put, List.setIfInBounds_toArray, List.set_cons_zero, List.set_cons_succ]
    refine wpAnyH_take (i := 8) (v := ?_) rfl (by kernel_rfl) (by kernel_rfl) (by kernel_rfl) (fun _ _ _ h => h) (Or.inl ⟨by rfl, ?_⟩) hSS ?_
    rotate_left
    · intro wz hSz
      obtain ⟨p0, p4, p5, p6⟩ := HX.out _ hSz
      go_simp
      try with_reducible rfl
    simp only [List.getElem_toArray, List.getElem_cons_zero, List.getElem_cons_succ, Act.put, List.setIfInBounds_toArray, List.set_cons_zero, List.set_cons_succ]
    refine wpAnyH_take (i := 9) (v := ?_) rfl (by kernel_rfl) (by kernel_rfl) (by kernel_rfl) (fun _ _ _ h => h) (Or.inl ⟨by rfl, ?_⟩) hSS ?_
    rotate_left
    · intro wz hSz
      go_simp
      try with_reducible rfl
    simp only [List.getElem_toArray, List.getElem_cons_zero, List.getElem_cons_succ, Act.put, List.setIfInBounds_toArray, List.set_cons_zero, List.set_cons_succ]
    refine wpAnyH_take (i := 10) (v := ?_) rfl (by kernel_rfl) (by kernel_rfl) (by kernel_rfl) (fun _ _ _ h => h) (Or.inl ⟨by rfl, ?_⟩) hSS ?_
    rotate_left
    · intro wz hSz
      obtain ⟨p0, p4, p5, p6⟩ := HX.out _ hSz
      go_simp
      try with_reducible rfl
    simp only [List.getElem_toArray, List.getElem_cons_zero, List.getElem_cons_succ, Act.put, List.setIfInBounds_toArray, List.set_cons_zero, List.set_cons_succ]
    refine wpAnyH_ready (rs := [11]) (by kernel_rfl) (by simp) (AllReadyH.cons rfl (fun K1 hK1 => ?_) AllReadyH.nil)
    refine step_plain (by rfl) ?_
    simp only [List.getElem_toArray, List.getElem_cons_zero, List.getElem_cons_succ]
    go_simp
    go_at_call 89
    refine (CP.out _ hSS).mono ?_
    rintro e w1 ⟨a1, c1, rfl, hr1, hok1, hb1⟩
    go_simp
    refine hK1.out _ _ (hSS.below hb1) (fun hSS => ?_)
    clear hK1
    refine wpAnyH_ready (rs := [12]) (by kernel_rfl) (by simp) (AllReadyH.cons rfl (fun K2 hK2 => ?_) AllReadyH.nil)
    refine step_plain (by rfl) ?_
    simp only [List.getElem_toArray, List.getElem_cons_zero, List.getElem_cons_succ]
    go_simp
    go_at_call 62
    refine (CM2.out _ _ _ hSS hr1 hok1).mono ?_
    rintro e w2 ⟨g, rfl, hg1, hrep, hb2⟩
    go_simp
    refine hK2.out _ _ (hSS.below hb2) (fun hSS => ?_)
    clear hK2
    have hSx := hSS
    obtain ⟨-, ⟨y, hy⟩, -⟩ := hSx
    refine wpAnyH_ready (rs := [13]) (by kernel_rfl) (by simp) (AllReadyH.cons rfl (fun K3 hK3 => ?_) AllReadyH.nil)
    refine step_set0 (by rfl) _ _ (by rfl) (by rfl) (B := w.heap.size + 1) (u := g) (by rfl) (by rfl) hg1 hy ?_
    have hrep2 := hrep.setR (w := w) g
    have hgot := hSS.got g
    refine hK3.out _ _ (hSS.set g) (fun hSS => ?_)
    clear hK3 hrep hy
    generalize w2.setCell ⟨w.heap.size + 1, 0, none⟩ g = W3 at *
    refine wpAnyH_done (by kernel_rfl) ?_ _
    go_wp2_with fail
    exact bodyPost_ret (v := .agg #[g]) (by simp [results, Try.results78, go_sem, hgot]) rfl ⟨g, rfl, hrep2.mono (fun _ h _ => h.1), hSS.2.2⟩
end Go.Proofs.Ytheabeapmhoclaa

namespace Go.Proofs.Ytheabeapmhoclaa
open Go.RowKit Go.Maps Go.WideMaps

/-- The blocks of put's own: the value, the one that is put in, the step, the answer. -/
def B4 (w W : World) (h u : Value) (key : ByteArray) (i : Int) : Prop :=
  W.heap[w.heap.size]? = some (.cells #[h] 30 (0, 0)) ∧ W.heap[w.heap.size + 1]? = some (.cells #[u] 30 (0, 0)) ∧ W.heap[w.heap.size + 2]? = some (.cells #[.string key, .int .i64 i] 42 (0, 0)) ∧ W.heap[w.heap.size + 3]? = some (.cells #[.nilIface] 30 (0, 0)) ∧ Below w.heap.size w W
set_option maxRecDepth 100000 in
theorem B4.start (w : World) (h u : Value) (key : ByteArray) (i : Int) : B4 w ((((w.alloc (.cells #[h] 30)).alloc (.cells #[u] 30)).alloc (.cells #[.string key, .int .i64 i] 42)).alloc (.cells #[.nilIface] 30)) h u key i := by
  refine ⟨?_, ?_, ?_, ?_, ((((Below.refl _ _).alloc (Nat.le_refl _) _).alloc (by simp) _).alloc (by simp <;> omega) _).alloc (by simp <;> omega) _⟩
  · rw [Below.heap_alloc _ _ _ (by simp <;> omega), Below.heap_alloc _ _ _ (by simp <;> omega), Below.heap_alloc _ _ _ (by simp)]; exact heap_alloc_new _ _
  · rw [Below.heap_alloc _ _ _ (by simp <;> omega), Below.heap_alloc _ _ _ (by simp)]
    simpa using heap_alloc_new (w.alloc (.cells #[h] 30)) (.cells #[u] 30)
  · rw [Below.heap_alloc _ _ _ (by simp)]
    simpa using heap_alloc_new ((w.alloc (.cells #[h] 30)).alloc (.cells #[u] 30)) (.cells #[.string key, .int .i64 i] 42)
  · simpa using heap_alloc_new (((w.alloc (.cells #[h] 30)).alloc (.cells #[u] 30)).alloc (.cells #[.string key, .int .i64 i] 42)) (.cells #[.nilIface] 30)
set_option maxRecDepth 100000 in
theorem B4.below {w W W' : World} {h u : Value} {key : ByteArray} {i : Int} (hB : B4 w W h u key i) (hb : Below W.heap.size W W') : B4 w W' h u key i := by
  obtain ⟨a, b, c, e, d⟩ := hB
  have l1 := (Array.getElem?_eq_some_iff.1 a).1
  have l2 := (Array.getElem?_eq_some_iff.1 b).1
  have l3 := (Array.getElem?_eq_some_iff.1 c).1
  have l4 := (Array.getElem?_eq_some_iff.1 e).1
  exact ⟨(hb.block _ l1).trans a, (hb.block _ l2).trans b, (hb.block _ l3).trans c, (hb.block _ l4).trans e, d.trans (hb.mono (Nat.le_of_lt l1))⟩
set_option maxRecDepth 100000 in
theorem B4.size {w W : World} {h u : Value} {key : ByteArray} {i : Int} (hB : B4 w W h u key i) : w.heap.size + 3 < W.heap.size := (Array.getElem?_eq_some_iff.1 hB.2.2.2.1).1
set_option maxRecDepth 100000 in
theorem B4.cells {w W : World} {h u : Value} {key : ByteArray} {i : Int} (hB : B4 w W h u key i) : W.cell? ⟨w.heap.size, 0, none⟩ = some h ∧ W.cell? ⟨w.heap.size + 1, 0, none⟩ = some u ∧ W.cell? ⟨w.heap.size + 2, 0, none⟩ = some (.string key) ∧ W.cell? ⟨w.heap.size + 2, 1, none⟩ = some (.int .i64 i) ∧ W.cell? ⟨w.heap.size + 3, 0, none⟩ = some .nilIface ∧ W.frozen? ⟨w.heap.size + 3, 0, none⟩ = false := by
  obtain ⟨a, b, c, e, d⟩ := hB
  exact ⟨cell_of_row _ _ _ _ _ _ a, cell_of_row _ _ _ _ _ _ b, cell_of_row _ _ _ _ _ _ c, cell_of_row _ _ _ _ _ _ c, cell_of_row _ _ _ _ _ _ e, frozen_of_row _ _ _ _ _ e⟩
set_option maxRecDepth 100000 in
theorem B4.done {w W : World} {h u : Value} {key : ByteArray} {i : Int} (hB : B4 w W h u key i) (g : Value) : (W.setCell ⟨w.heap.size + 3, 0, none⟩ g).cell? ⟨w.heap.size + 3, 0, none⟩ = some g ∧ Below w.heap.size w (W.setCell ⟨w.heap.size + 3, 0, none⟩ g) := by
  obtain ⟨a, b, c, e, d⟩ := hB
  exact ⟨cell_of_row _ _ _ _ _ _ (heap_setCell_same _ _ 0 _ _ g e), d.setCell (by simp) _⟩
set_option maxRecDepth 100000 in
theorem Rep.set3 {w W : World} {ok : Nat → Prop} {h : Value} {x : V} (hr : Rep W (fun b => ok b ∧ b ≠ w.heap.size + 3) h x) (u : Value) : Rep (W.setCell ⟨w.heap.size + 3, 0, none⟩ u) ok h x :=
  (hr.agree (fun _ hb _ => Below.heap_setCell _ _ _ _ hb.2)).mono (fun _ h1 _ => h1.1)
set_option maxRecDepth 100000 in
theorem put_no (v x : V) (s : St) (h : (s.byKey = true → v.k ≠ 7) ∧ (s.byKey = false → v.k ≠ 6)) : v.put x s = (V.null, 6) := by
  unfold V.put
  cases hb : s.byKey
  · simp [h.2 hb]
  · simp [h.1 hb]
set_option maxRecDepth 100000 in
set_option maxHeartbeats 3200000 in
theorem put_any {w : World} {ok : Nat → Prop} (hk : ∀ b, w.heap.size ≤ b → ok b) {h u : Value} {v x : V} (hr : Rep w ok h v) (hcl : v.cl) (hu : Rep w ok u x) (s : St) (hs : s.ok) (hn : v.l.length ≤ 1048575) (hbk : V.bulk.go (v.put x s).1.l ≤ 1048576) :
    Calls Try.prog 51 #[.agg #[h], .agg #[u], s.val] w fun e w' => ∃ g, e = .returned (.tuple #[.agg #[g], .int .i64 (v.put x s).2]) ∧ Rep w' ok g (v.put x s).1 ∧ Below w.heap.size w w' := by
  have CB : Hid (∀ W, Calls Try.prog 73 #[s.val] W fun e w' => e = .returned (.bool s.byKey) ∧ Below W.heap.size W w') := fun W => byKey_any s W
  obtain ⟨hs1, hs2⟩ := hs
  have KEY : Hid (∀ (W : World) (bk : Bool), s.byKey = bk → Below w.heap.size w W → w.heap.size + 3 < W.heap.size → (bk = true ∧ v.k = 7 → ∃ A, h = .iface 114 (.pointer (some A)) ∧ ∀ W2, Below W.heap.size W W2 → Calls Try.prog 78 #[.pointer (some A), .string s.key, .agg #[u]] W2 fun e w' => ∃ g, e = .returned (.agg #[g]) ∧ g.oneCell' = true ∧ (v.put x s).2 = 0 ∧ Rep w' (fun b => ok b ∧ b ≠ w.heap.size + 3) g (v.put x s).1 ∧ Below W2.heap.size W2 w') ∧
      (bk = false ∧ v.k = 6 → ∃ A, h = .iface 91 (.pointer (some A)) ∧ ∀ W2, Below W.heap.size W W2 → Calls Try.prog 79 #[.pointer (some A), .int .i64 s.at_, .agg #[u]] W2 fun e w' => ∃ g, e = .returned (.tuple #[.agg #[g], .int .i64 (v.put x s).2]) ∧ g.oneCell' = true ∧ Rep w' (fun b => ok b ∧ b ≠ w.heap.size + 3) g (v.put x s).1 ∧ Below W2.heap.size W2 w') ∧
      ((bk = true → v.k ≠ 7) → bk = true → v.put x s = (V.null, 6)) ∧ ((bk = false → v.k ≠ 6) → bk = false → v.put x s = (V.null, 6))) := by
    intro W bk hbk' hW hsz
    have hup : ∀ W2, Below W.heap.size W W2 → Below w.heap.size w W2 ∧ w.heap.size + 3 < W2.heap.size := fun W2 h2 => ⟨hW.trans (h2.mono hW.size), Nat.lt_of_lt_of_le hsz h2.size⟩
    refine ⟨?_, ?_, ?_, ?_⟩
    · rintro ⟨rfl, hk7⟩
      have hr2 := hr.mono (ok' := fun b => ok b ∧ b < w.heap.size) (fun b h1 h2 => ⟨h1, h2⟩)
      have hu2 := hu.mono (ok' := fun b => ok b ∧ b < w.heap.size) (fun b h1 h2 => ⟨h1, h2⟩)
      have hput : v.put x s = (mapPut v.l v.keys s.key x, 0) := by unfold V.put; rw [if_pos hbk', if_pos hk7]
      obtain ⟨-, -, hrise, -⟩ := cl_map hcl hk7
      rw [hput] at hbk ⊢
      clear hr hu
      induction hr2 using Rep.ind
      case map B M l q a c ka kc H hB hMo ha hka hq c0 c1 c2 c3 c4 c5 c6 hkk hM hrow hin _ =>
        refine ⟨_, rfl, fun W2 hW2 => ?_⟩
        obtain ⟨hb2, hs2⟩ := hup W2 hW2
        have up : ∀ b, ok b ∧ b < w.heap.size → b < W2.heap.size → ok b ∧ b ≠ w.heap.size + 3 := fun b h1 _ => ⟨h1.1, by omega⟩
        have hrow2 : RRow W2 (fun b => ok b ∧ b ≠ w.heap.size + 3) a l := (RRow.agree (w := w) (w' := W2) ⟨H, hrow, hin⟩ (fun b h1 _ => hb2.block b h1.2)).mono up
        have hsr := ((hkk.agree (w' := W2) (fun b h1 _ => hb2.block b h1.2)).mono up)
        have C := twith_any (ok := fun b => ok b ∧ b ≠ w.heap.size + 3) (w := W2) (fun b hb => ⟨hk b (by omega), by omega⟩) B M l q a c ka kc ((hb2.cell (p := ⟨B, 4, none⟩) (World.block_lt_of_cell? _ _ c4)).trans c4) ((hb2.cell (p := ⟨B, 5, none⟩) (World.block_lt_of_cell? _ _ c5)).trans c5) ((hb2.cell (p := ⟨B, 6, none⟩) (World.block_lt_of_cell? _ _ c6)).trans c6) (hM.agree (hb2.block M hM.lt)) hrow2 ha hsr hka hq hrise s.key hs1 ((hu2.agree (w' := W2) (fun b h1 _ => hb2.block b h1.2)).mono up) hn hbk
        refine C.mono ?_
        rintro e w' ⟨g, rfl, h1, h2⟩
        exact ⟨g, rfl, h1.one, rfl, h1, h2⟩
      all_goals exact absurd hk7 (by simp [V.null])
    · rintro ⟨rfl, hk6⟩
      have hr2 := hr.mono (ok' := fun b => ok b ∧ b < w.heap.size) (fun b h1 h2 => ⟨h1, h2⟩)
      have hu2 := hu.mono (ok' := fun b => ok b ∧ b < w.heap.size) (fun b h1 h2 => ⟨h1, h2⟩)
      have hput : v.put x s = if s.at_ ≤ v.l.length then (V.list (putAt v.l s.at_.toNat x), 0) else (V.null, 2) := by unfold V.put; rw [if_neg (by rw [hbk']; simp), if_pos hk6]
      rw [hput] at hbk ⊢
      clear hr hu
      induction hr2 using Rep.ind
      case list B l a c H hB ha c0 c1 c2 c3 c4 hrow hin _ =>
        refine ⟨_, rfl, fun W2 hW2 => ?_⟩
        obtain ⟨hb2, hs2⟩ := hup W2 hW2
        have up : ∀ b, ok b ∧ b < w.heap.size → b < W2.heap.size → ok b ∧ b ≠ w.heap.size + 3 := fun b h1 _ => ⟨h1.1, by omega⟩
        have hrow2 : RRow W2 (fun b => ok b ∧ b ≠ w.heap.size + 3) a l := (RRow.agree (w := w) (w' := W2) ⟨H, hrow, hin⟩ (fun b h1 _ => hb2.block b h1.2)).mono up
        have C := gwith_any (ok := fun b => ok b ∧ b ≠ w.heap.size + 3) (w := W2) (fun b hb => ⟨hk b (by omega), by omega⟩) B l a c ((hb2.cell (p := ⟨B, 4, none⟩) (World.block_lt_of_cell? _ _ c4)).trans c4) hrow2 ha (byKey_at hbk') ((hu2.agree (w' := W2) (fun b h1 _ => hb2.block b h1.2)).mono up) (Nat.le_trans hn (by omega)) (fun h => by
          simp only at hbk
          rw [if_pos h] at hbk
          exact hbk)
        refine C.mono ?_
        rintro e w' ⟨g, rfl, h1, h2⟩
        refine ⟨g, ?_, h1.one, ?_, h2⟩
        · simp only
          split <;> rfl
        · simp only
          split at h1
          · rename_i h; rw [if_pos h]; exact h1
          · rename_i h; rw [if_neg h]; exact h1
      all_goals exact absurd hk6 (by simp [V.null])
    · intro h1 h2
      exact put_no v x s ⟨fun _ => h1 h2, fun h => by rw [hbk', h2] at h; cases h⟩
    · intro h1 h2
      exact put_no v x s ⟨(fun h => by rw [hbk', h2] at h; cases h), fun _ => h1 h2⟩
  have hone := hr.one
  have hone2 := hu.one
  have KN : Hid (∀ W, (v.k ≠ 7 → Calls Try.prog 74 #[h] W fun e w' => e = .returned (.tuple #[.pointer none, .int .i64 6]) ∧ Below W.heap.size W w') ∧ (v.k ≠ 6 → Calls Try.prog 76 #[h] W fun e w' => e = .returned (.tuple #[.pointer none, .int .i64 6]) ∧ Below W.heap.size W w')) := fun W => ⟨fun hk => mmap_no hr hk W, fun hk => mlist_no hr hk W⟩
  clear hr hu hcl hbk hn hk
  obtain ⟨key, i⟩ := s
  unfold St.val at CB
  unfold St.val
  dsimp only at *
  generalize v.put x ⟨key, i⟩ = R at *
  go_enter Try.func51, Try.ntmps51
  go_wp2_with fail
  have hB0 := B4.start w h u key i
  refine (CB.out _).mono ?_
  rintro e w1 ⟨rfl, hb1⟩
  have hB1 := hB0.below hb1
  obtain ⟨x0, x1, x2, x3, x4, x5⟩ := hB1.cells
  clear hB0 hb1 CB
  obtain ⟨K1, K2, K3, K4⟩ := KEY.out w1 _ rfl hB1.2.2.2.2 hB1.size
  clear KEY
  cases hbk : St.byKey ⟨key, i⟩
  · rw [hbk] at K2 K4
    clear K1 K3
    by_cases hk6 : v.k = 6
    · obtain ⟨A, rfl, C⟩ := K2 ⟨rfl, hk6⟩
      have HC : Hid _ := C
      clear C K2 K4 KN hone
      go_wp2_with fail
      refine (mlist_yes _ _).mono ?_
      rintro e w2 ⟨rfl, hb2⟩
      have hB2 := hB1.below hb2
      obtain ⟨y0, y1, y2, y3, y4, y5⟩ := hB2.cells
      clear x0 x1 x2 x3 x4 x5
      go_wp2_with fail
      refine (HC.out _ hb2).mono ?_
      rintro e w3 ⟨g, rfl, hg, hrep, hb3⟩
      have hB3 := hB2.below hb3
      obtain ⟨z0, z1, z2, z3, z4, z5⟩ := hB3.cells
      have st := store_old g .nilIface hg w3 _ z4 z5
      obtain ⟨g1, g2⟩ := hB3.done g
      have hrep2 := hrep.set3 g
      clear y0 y1 y2 y3 y4 y5 HC hrep
      go_wp2_with fail
      exact bodyPost_ret (v := .tuple #[.agg #[g], .int .i64 R.2]) (by simp [results, Try.results51, go_sem, g1]) rfl ⟨g, rfl, hrep2, g2⟩
    · have hR : Hid (R = (V.null, 6)) := K4 (fun _ => hk6) rfl
      have C := (KN.out w1).2 hk6
      clear K2 K4 KN hone
      go_wp2_with fail
      refine C.mono ?_
      rintro e w2 ⟨rfl, hb2⟩
      have hB2 := hB1.below hb2
      obtain ⟨y0, y1, y2, y3, y4, y5⟩ := hB2.cells
      obtain ⟨g1, g2⟩ := hB2.done .nilIface
      clear x0 x1 x2 x3 x4 x5 C
      go_wp2_with fail
      exact bodyPost_ret (v := .tuple #[.agg #[.nilIface], .int .i64 6]) (by simp [results, Try.results51, go_sem, g1]) rfl ⟨_, by rw [hR.out], by rw [hR.out]; exact Rep.null, g2⟩
  · rw [hbk] at K1 K3
    clear K2 K4
    by_cases hk7 : v.k = 7
    · obtain ⟨A, rfl, C⟩ := K1 ⟨rfl, hk7⟩
      have HC : Hid _ := C
      clear C K1 K3 KN hone
      go_wp2_with fail
      refine (mmap_yes _ _).mono ?_
      rintro e w2 ⟨rfl, hb2⟩
      have hB2 := hB1.below hb2
      obtain ⟨y0, y1, y2, y3, y4, y5⟩ := hB2.cells
      clear x0 x1 x2 x3 x4 x5
      go_wp2_with fail
      refine (HC.out _ hb2).mono ?_
      rintro e w3 ⟨g, rfl, hg, hz, hrep, hb3⟩
      have hB3 := hB2.below hb3
      obtain ⟨z0, z1, z2, z3, z4, z5⟩ := hB3.cells
      have st := store_old g .nilIface hg w3 _ z4 z5
      obtain ⟨g1, g2⟩ := hB3.done g
      have hrep2 := hrep.set3 g
      have hZ : Hid (R.2 = 0) := hz
      clear y0 y1 y2 y3 y4 y5 HC hrep hz
      go_wp2_with fail
      exact bodyPost_ret (v := .tuple #[.agg #[g], .int .i64 0]) (by simp [results, Try.results51, go_sem, g1]) rfl ⟨g, by rw [hZ.out], hrep2, g2⟩
    · have hR : Hid (R = (V.null, 6)) := K3 (fun _ => hk7) rfl
      have C := (KN.out w1).1 hk7
      clear K1 K3 KN hone
      go_wp2_with fail
      refine C.mono ?_
      rintro e w2 ⟨rfl, hb2⟩
      have hB2 := hB1.below hb2
      obtain ⟨y0, y1, y2, y3, y4, y5⟩ := hB2.cells
      obtain ⟨g1, g2⟩ := hB2.done .nilIface
      clear x0 x1 x2 x3 x4 x5 C
      go_wp2_with fail
      exact bodyPost_ret (v := .tuple #[.agg #[.nilIface], .int .i64 6]) (by simp [results, Try.results51, go_sem, g1]) rfl ⟨_, by rw [hR.out], by rw [hR.out]; exact Rep.null, g2⟩
end Go.Proofs.Ytheabeapmhoclaa

namespace Go.Proofs.Ytheabeapmhoclaa
open Go.RowKit Go.Maps Go.WideMaps

/-- All values on a way, behind others; the error's number. -/
def V.wayFrom : List V → V → List St → List V × Int
  | acc, x, [] => (acc ++ [x], 0)
  | acc, x, s :: r => if (x.follow s).2 = 0 then V.wayFrom (acc ++ [x]) (x.follow s).1 r else ([], (x.follow s).2)
set_option maxRecDepth 100000 in
set_option maxHeartbeats 3200000 in
theorem way_any {w : World} {ok : Nat → Prop} (hk : ∀ b, w.heap.size ≤ b → ok b) {h : Value} {v : V} (hr : Rep w ok h v) (ao : Option Addr) (l : List St) (c : Nat) (hl : StRow w ao l) (hn : l.length ≤ 1048575) :
    Calls Try.prog 50 #[.agg #[h], .slice ao l.length c] w fun e w' => ∃ a' c', e = .returned (.tuple #[.slice a' (V.wayFrom [] v l).1.length c', .int .i64 (V.wayFrom [] v l).2]) ∧ RRow w' ok a' (V.wayFrom [] v l).1 ∧ SliceOk a' (V.wayFrom [] v l).1.length c' ∧ Below w.heap.size w w' := by
  have hr0 := hr.low
  have hone := hr.one
  clear hr
  generalize hR : V.wayFrom [] v l = R
  have CF : Hid (∀ (W : World) (u : Value) (x : V) (s : St), Below w.heap.size w W → Rep w (fun b => ok b ∧ b < w.heap.size) u x → s.ok → Calls Try.prog 49 #[.agg #[u], .agg #[.string s.key, .int .i64 s.at_]] W fun e w' => ∃ u', e = .returned (.tuple #[.agg #[u'], .int .i64 (x.follow s).2]) ∧ u'.oneCell' = true ∧ Rep w (fun b => ok b ∧ b < w.heap.size) u' (x.follow s).1 ∧ Below W.heap.size W w') := fun W u x s hW hx hs => by
    refine (follow_any (hx.stays hW) s hs).mono ?_
    rintro e w' ⟨u', rfl, h1, h2⟩
    exact ⟨u', rfl, h1.one, h1.back hW, h2⟩
  obtain ⟨hok, hl2⟩ := hl
  have HC : Hid (∀ (W : World) (k : Nat), Below w.heap.size w W → ∀ hk : k < l.length, ∃ (bl off : Nat) (s : St), ao = some ⟨bl, off, none⟩ ∧ l.drop k = s :: l.drop (k + 1) ∧ s.ok ∧ W.cell? ⟨bl, off + k * 2, none⟩ = some (.string s.key) ∧ W.cell? ⟨bl, off + k * 2 + 1, none⟩ = some (.int .i64 s.at_)) := fun W k hW hk => by
    obtain ⟨bl, off, rfl, hcc⟩ := hl2 (by intro e; subst e; simp at hk)
    have hbl : bl < w.heap.size := World.block_lt_of_cell? _ _ (hcc k hk).1
    exact ⟨bl, off, l[k], rfl, List.drop_eq_getElem_cons hk, hok _ (List.getElem_mem hk), (hW.cell (p := ⟨bl, off + k * 2, none⟩) hbl).trans (hcc k hk).1, (hW.cell (p := ⟨bl, off + k * 2 + 1, none⟩) hbl).trans (hcc k hk).2⟩
  have FIN : Hid (∀ (W : World) (SV : Value) (us : List Value) (xs : List V), Below w.heap.size w W → W.ownsRow (w.heap.size + 1) 30 1 SV us.length us → us.length = xs.length → (∀ j (hj : j < us.length) (hk : j < xs.length), Rep w (fun b => ok b ∧ b < w.heap.size) us[j] xs[j]) → ∃ a' c', SV = .slice a' xs.length c' ∧ RRow W ok a' xs ∧ SliceOk a' xs.length c') := fun W SV us xs hW ho hl hin => by
    obtain ⟨a', c', rfl, hc, hs, -⟩ := own_crow ho (ok := ok) (fun b hb => hk b (by omega))
    refine ⟨a', c', by rw [hl], RRow.of_vals hc hl (fun j hj hk => ((hin j hj hk).agree (w' := W) (fun b h1 _ => hW.block b h1.2)).mono (fun b h1 _ => h1.1)), by rw [← hl]; exact hs⟩
  have HR : Hid (V.wayFrom [] v l = R) := hR
  have hs0 : ((w.alloc (.cells #[h] 30)).alloc (.cells #[h] 30)).heap[w.heap.size]? = some (.cells #[h] 30 (0, 0)) := by rw [Below.heap_alloc _ _ _ (by simp)]; exact heap_alloc_new _ _
  have hB0 : Below w.heap.size w ((w.alloc (.cells #[h] 30)).alloc (.cells #[h] 30)) := ((Below.refl _ _).alloc (Nat.le_refl _) _).alloc (by simp) _
  have ho0 : ((w.alloc (.cells #[h] 30)).alloc (.cells #[h] 30)).ownsRow (w.heap.size + 1) 30 1 (.slice (some ⟨w.heap.size + 1, 0, none⟩) 1 1) 1 [h] := by
    have := World.ownsRow_lit (e := 30) (size := 1) (w.alloc (.cells #[h] 30)) #[h] 1 (show w.heap.size + 1 ≤ _ by simp) (by simp [maxLen]) rfl
    simpa using this
  clear hl2 hok hR hk
  go_enter Try.func50, Try.ntmps50
  go_wp2_with fail
  go_loopw [6, 15] (fun sv si wr => ∃ (k : Nat) (SV : Value) (u : Value) (x : V) (acc : List V) (us : List Value), k ≤ l.length ∧ si = .int .i64 k ∧ SV = sv ∧ wr.heap[w.heap.size]? = some (.cells #[u] 30 (0, 0)) ∧ Below w.heap.size w wr ∧ Rep w (fun b => ok b ∧ b < w.heap.size) u x ∧ wr.ownsRow (w.heap.size + 1) 30 1 SV us.length us ∧ us.length = k + 1 ∧ acc.length = k ∧ (∀ j (hj : j < us.length) (hk : j < (acc ++ [x]).length), Rep w (fun b => ok b ∧ b < w.heap.size) us[j] (acc ++ [x])[j]) ∧ Hid (V.wayFrom acc x (l.drop k) = R)) (fun _ si _ => l.length - (intOf si).toNat)
  case atStart => exact ⟨0, _, h, v, [], [h], by omega, rfl, rfl, hs0, hB0, hr0, ho0, rfl, rfl, (fun j hj hk => by
    have : j = 0 := by simp at hj; omega
    subst this; exact hr0), HR⟩
  case round =>
    obtain ⟨k, SV, u, x, acc, us, hkl, rfl, rfl, h0, hb, hrep, ho, hul, hal, hin, hid⟩ := hrel
    have z0 := cell_of_row _ _ 0 _ _ _ h0
    have f0 := frozen_of_row _ _ 0 _ _ h0
    clear hs0 hr0 HR hone hB0 ho0
    by_cases hlt : k < l.length
    · obtain ⟨bl, off, s, rfl, hdr, hso, cx, cy⟩ := HC.out _ k hb hlt
      have HD : Hid (l.drop k = s :: l.drop (k + 1)) := hdr
      have C := CF.out
      have l0 := (Array.getElem?_eq_some_iff.1 h0).1
      clear hdr CF HC FIN
      have HG : Hid (V.wayFrom acc x (s :: l.drop (k + 1)) = R) := by rw [← HD.out]; exact hid.out
      clear HD hid
      go_wp2_with fail
      refine (C _ u x s (by exact hb.alloc hb.size _) hrep hso).mono ?_
      rintro e w2 ⟨u', rfl, hu, hrep2, hb2⟩
      have hs2 := hb2.size
      simp only [World.size_alloc] at hs2
      have hbA : Below wr.heap.size wr w2 := ((Below.refl wr.heap.size wr).alloc (Nat.le_refl _) (.cells #[.string s.key, .int .i64 s.at_] 42)).trans (hb2.mono (by simp))
      have st := store_new 30 u' .nilIface hu w2
      have hB3 : Below wr.heap.size wr (w2.alloc (.cells #[u'] 30)) := hbA.alloc hbA.size _
      have h03 := (hB3.block w.heap.size l0).trans h0
      have hn3 := heap_alloc_new w2 (.cells #[u'] 30)
      have hc3 := cell_of_row _ _ 0 _ _ _ hn3
      have ho3 := cown_below ho hB3
      have hBB3 := hb.trans (hB3.mono hb.size)
      have hs3 : Hid (wr.heap.size < w2.heap.size) := hs2
      have hs4 := hb.size
      have hol : Hid (∀ k, SV.ownBlock = some k → k < wr.heap.size) := fun k hk => (ho.lt k hk).2
      clear z0 f0 h0 hb2 C cx cy hbA hB3 ho hb
      by_cases hE : (x.follow s).2 = 0
      · have HG2 : Hid (V.wayFrom (acc ++ [x]) (x.follow s).1 (l.drop (k + 1)) = R) := by
          have := HG.out
          rw [V.wayFrom, if_pos hE] at this
          exact this
        clear HG
        generalize (x.follow s).1 = X at *
        generalize (x.follow s).2 = EE at *
        subst hE
        have ho4 := ho3.alloc (.cells #[u'] 30)
        have hcr : CRow ((w2.alloc (.cells #[u'] 30)).alloc (.cells #[u'] 30)) (fun _ => True) (some ⟨(w2.alloc (.cells #[u'] 30)).heap.size, 0, none⟩) [u'] := fun _ => ⟨(w2.alloc (.cells #[u'] 30)).heap.size, 0, rfl, trivial, fun i y hi => by
          rw [cell_of_row _ _ _ _ _ _ (heap_alloc_new (w2.alloc (.cells #[u'] 30)) _)]
          simpa using hi⟩
        simp only [World.size_alloc] at hcr
        have WS : Hid (∀ w6, ((w2.alloc (.cells #[u'] 30)).alloc (.cells #[u'] 30)).grownBy w6 SV.ownBlock → w6.heap[w.heap.size]? = some (.cells #[u] 30 (0, 0)) ∧ w6.heap[w2.heap.size]? = some (.cells #[u'] 30 (0, 0)) ∧ Below w.heap.size w w6) := fun w6 hg => by
          have hX : Below (w.heap.size + 1) ((w2.alloc (.cells #[u'] 30)).alloc (.cells #[u'] 30)) w6 := (Below.refl _ _).grown hg (by simp; omega) (fun k hk => (ho4.lt k hk).1)
          refine ⟨?_, ?_, (hBB3.alloc hBB3.size _).trans (hX.mono (by omega))⟩
          · rw [hX.block _ (by omega), Below.heap_alloc _ _ _ (by simp; omega)]; exact h03
          · rw [hg.block _ (by simp; omega) (fun e => by have := hol.out _ e.symm; have := hs3.out; omega), Below.heap_alloc _ _ _ (by simp)]; exact hn3
        clear hBB3 h03 hn3 ho3
        go_wp2_with (at_builtin; go_must (refine wpList_append_any rfl (.tmp 28) (.tmp 30) 57 30 _ _ Try.underlying57 infoVal rfl (by decide) rfl (w.heap.size + 1) SV us.length us rfl ho4 (some ⟨w2.heap.size + 1, 0, none⟩) [u'] 1 1 rfl rfl hcr (by intro e; cases e) (by simpa using hu) (by omega) (by simp; omega) ?_; intro v6 w6 hown6 hgrow6; obtain ⟨i0, i1, i2⟩ := WS.out _ hgrow6; have c1 := cell_of_row _ _ 0 _ _ _ i1; have st2 := store_old u' u hu _ _ (cell_of_row _ _ 0 _ _ _ i0) (frozen_of_row _ _ 0 _ _ i0); clear hgrow6))
        have i3 := heap_setCell_same _ _ 0 _ _ u' i0
        have i4 := i2.setCell (p := ⟨w.heap.size, 0, none⟩) (Nat.le_refl _) u'
        go_roundw
        case rel =>
          refine ⟨k + 1, v6, u', X, acc ++ [x], us ++ [u'], by omega, by go_num, rfl, i3, i4, hrep2, ?_, by simp [hul], by simp [hal], ?_, HG2⟩
          · have := ownsRow_setCell_below hown6 (a := ⟨w.heap.size, 0, none⟩) (by simp) u'
            simpa using this
          · intro j hj hk
            by_cases h1 : j < us.length
            · rw [List.getElem_append_left h1, List.getElem_append_left (by simp at *; omega)]
              exact hin j h1 _
            · obtain rfl : j = us.length := by simp at hj; omega
              rw [List.getElem_append_right (Nat.le_refl _), List.getElem_append_right (by simp; omega)]
              simpa using hrep2
        case measure => simp [intOf]; omega
      · have HG2 : Hid (R = ([], (x.follow s).2)) := by
          have := HG.out
          rw [V.wayFrom, if_neg hE] at this
          exact this.symm
        clear HG
        generalize (x.follow s).2 = EE at *
        have hE' : (EE == 0) = false := by simpa using hE
        go_wp2_with fail
        go_ret2
        refine ⟨none, 0, by rw [HG2.out]; rfl, ?_, by rw [HG2.out]; exact ⟨fun _ => ⟨rfl, rfl⟩, Nat.le_refl _, by simp [maxLen]⟩, hBB3⟩
        rw [HG2.out]
        exact ⟨fun _ => undef, fun h => by simp at h, fun j hj => by simp at hj⟩
    · obtain rfl : k = l.length := by omega
      have HG2 : Hid (R = (acc ++ [x], 0)) := by
        have := hid.out
        rw [List.drop_length] at this
        exact this.symm
      obtain ⟨a', c', rfl, hrr, hss⟩ := FIN.out wr SV us (acc ++ [x]) hb ho (by simp; omega) hin
      clear hid HC CF h0 FIN
      go_wp2_with fail
      go_ret2
      exact ⟨a', c', by rw [HG2.out]; rfl, by rw [HG2.out]; exact hrr, by rw [HG2.out]; exact hss, hb⟩
end Go.Proofs.Ytheabeapmhoclaa

namespace Go.Proofs.Ytheabeapmhoclaa
open Go.RowKit

set_option maxRecDepth 100000 in
theorem wayFrom_acc : ∀ (l : List St) (acc : List V) (v : V), (V.wayFrom acc v l).2 = (V.wayFrom [] v l).2 ∧ ((V.wayFrom acc v l).2 = 0 → (V.wayFrom acc v l).1 = acc ++ (V.wayFrom [] v l).1)
  | [], acc, v => ⟨rfl, fun _ => rfl⟩
  | s :: r, acc, v => by
    simp only [V.wayFrom]
    by_cases h : (v.follow s).2 = 0
    · simp only [h, if_true]
      obtain ⟨a1, a2⟩ := wayFrom_acc r (acc ++ [v]) (v.follow s).1
      obtain ⟨b1, b2⟩ := wayFrom_acc r ([] ++ [v]) (v.follow s).1
      refine ⟨by rw [a1, b1], fun h0 => ?_⟩
      rw [a2 h0, b2 (by rw [b1, ← a1]; exact h0)]
      simp
    · simp only [h, if_false]
      exact ⟨trivial, fun h0 => h0.elim⟩
set_option maxRecDepth 100000 in
/-- The values on a way that leads somewhere. -/
theorem wayFrom_ok : ∀ (r : List St) (v : V), (V.wayFrom [] v r).2 = 0 → ((V.wayFrom [] v r).1.length = r.length + 1 ∧ (V.wayFrom [] v r).1[0]? = some v ∧ ∀ j (hj : j < r.length), ∃ y z, (V.wayFrom [] v r).1[j]? = some y ∧ (V.wayFrom [] v r).1[j + 1]? = some z ∧ y.follow r[j] = (z, 0))
  | [], v, _ => ⟨rfl, rfl, fun j hj => by simp at hj⟩
  | s :: r, v, h => by
    simp only [V.wayFrom] at h ⊢
    by_cases h0 : (v.follow s).2 = 0
    · simp only [h0, if_true] at h ⊢
      obtain ⟨b1, b2⟩ := wayFrom_acc r ([] ++ [v]) (v.follow s).1
      rw [b2 h]
      rw [b1] at h
      obtain ⟨c1, c2, c3⟩ := wayFrom_ok r (v.follow s).1 h
      refine ⟨by simp [c1], by simp, fun j hj => ?_⟩
      cases j with
      | zero => exact ⟨v, (v.follow s).1, by simp, by simpa using c2, by rw [List.getElem_cons_zero]; exact Prod.ext rfl h0⟩
      | succ j =>
        obtain ⟨y, z, d1, d2, d3⟩ := c3 j (by simpa using hj)
        exact ⟨y, z, by simpa using d1, by simpa using d2, by simpa using d3⟩
    · simp only [h0, if_false] at h
set_option maxRecDepth 100000 in
theorem withR_err {x : V} : ∀ (l : List St) (v : V), l ≠ [] → (V.wayFrom [] v l.dropLast).2 ≠ 0 → v.withR x l = (V.null, (V.wayFrom [] v l.dropLast).2)
  | [], v, h, _ => absurd rfl h
  | [s], v, _, h => absurd rfl h
  | s :: t :: r, v, _, h => by
    rw [List.dropLast_cons_of_ne_nil (by simp)] at h ⊢
    simp only [V.wayFrom] at h ⊢
    rw [V.withR, if_neg (by simp)]
    by_cases h0 : (v.follow s).2 = 0
    · simp only [h0, if_true] at h ⊢
      obtain ⟨b1, -⟩ := wayFrom_acc (t :: r).dropLast ([] ++ [v]) (v.follow s).1
      rw [b1] at h ⊢
      have ih := withR_err (x := x) (t :: r) (v.follow s).1 (by simp) h
      rw [ih]
      simp only [h, if_false]
    · simp only [h0, if_false]
set_option maxRecDepth 100000 in
theorem put_err {v x : V} {s : St} (h : (v.put x s).2 ≠ 0) : v.put x s = (V.null, (v.put x s).2) := by
  unfold V.put at *
  split at h <;> rename_i h1
  · rw [if_pos h1]
    split at h <;> rename_i h2
    · exact absurd rfl h
    · rw [if_neg h2]
  · rw [if_neg h1]
    split at h <;> rename_i h2
    · rw [if_pos h2]
      split at h <;> rename_i h3
      · exact absurd rfl h
      · rw [if_neg h3]
    · rw [if_neg h2]
/-- What is there, from a step on. -/
def partR (xs : List V) (x : V) (l : List St) (k : Nat) : V × Int := if k < l.length then (xs[k]?.getD V.null).withR x (l.drop k) else (x, 0)
/-- The values on a way, and its steps but the last one. -/
def OnWay (xs : List V) (v : V) (l : List St) : Prop := xs.length = l.length ∧ xs[0]? = some v ∧ ∀ j (hj : j + 1 < l.length), ∃ y z, xs[j]? = some y ∧ xs[j + 1]? = some z ∧ y.follow l[j] = (z, 0)
set_option maxRecDepth 100000 in
theorem onWay_of {v : V} {l : List St} (hl : l ≠ []) (h : (V.wayFrom [] v l.dropLast).2 = 0) : OnWay (V.wayFrom [] v l.dropLast).1 v l := by
  obtain ⟨h1, h2, h3⟩ := wayFrom_ok _ _ h
  have h0 : 0 < l.length := List.length_pos_iff.2 hl
  rw [List.length_dropLast] at h1
  refine ⟨by omega, h2, fun j hj => ?_⟩
  obtain ⟨y, z, a, b, c⟩ := h3 j (by rw [List.length_dropLast]; omega)
  rw [List.getElem_dropLast] at c
  exact ⟨y, z, a, b, c⟩
set_option maxRecDepth 100000 in
theorem partR_step {xs : List V} {v x : V} {l : List St} (hw : OnWay xs v l) {k : Nat} (hk : k < l.length) {Y : V} (h : partR xs x l (k + 1) = (Y, 0)) : partR xs x l k = (xs[k]?.getD V.null).put Y l[k] := by
  unfold partR at *
  rw [if_pos hk, List.drop_eq_getElem_cons hk, V.withR]
  by_cases h1 : k + 1 < l.length
  · rw [if_pos h1] at h
    obtain ⟨y, z, a, b, c⟩ := hw.2.2 k h1
    rw [b] at h
    simp only [Option.getD_some] at h
    rw [if_neg (by simp; omega), a]
    simp only [Option.getD_some, c, h, if_true]
  · rw [if_neg h1] at h
    injection h with h _
    rw [if_pos (by simp; omega), h]
set_option maxRecDepth 100000 in
theorem partR_err {xs : List V} {v x : V} {l : List St} (hw : OnWay xs v l) : ∀ k, k ≤ l.length → l ≠ [] → (partR xs x l k).2 ≠ 0 → v.withR x l = (V.null, (partR xs x l k).2)
  | 0, _, hl, h => by
    have h0 : 0 < l.length := List.length_pos_iff.2 hl
    unfold partR at h ⊢
    rw [if_pos h0, hw.2.1] at h ⊢
    simp only [Option.getD_some, List.drop_zero] at h ⊢
    cases l with
    | nil => exact absurd rfl hl
    | cons s r =>
      rw [V.withR] at h ⊢
      split at h <;> rename_i h1
      · rw [if_pos h1]; exact put_err h
      · rw [if_neg h1]
        split at h <;> rename_i h2
        · rw [if_pos h2]
          split at h <;> rename_i h3
          · rw [if_pos h3]; exact put_err h
          · rw [if_neg h3]
        · rw [if_neg h2]
  | k + 1, hk, hl, h => by
    by_cases h1 : k + 1 < l.length
    · obtain ⟨y, z, a, b, c⟩ := hw.2.2 k h1
      have e : partR xs x l k = (V.null, (partR xs x l (k + 1)).2) := by
        unfold partR at h ⊢
        rw [if_pos h1, b] at h ⊢
        rw [if_pos (by omega), List.drop_eq_getElem_cons (by omega : k < l.length), V.withR, if_neg (by simp; omega), a]
        simp only [Option.getD_some] at h ⊢
        simp only [c, if_true, h, if_false]
      rw [partR_err hw k (by omega) hl (by rw [e]; exact h), e]
    · unfold partR at h
      rw [if_neg h1] at h
      exact absurd rfl h
set_option maxRecDepth 100000 in
theorem partR_zero {xs : List V} {v x : V} {l : List St} (hw : OnWay xs v l) (hl : l ≠ []) : partR xs x l 0 = v.withR x l := by
  unfold partR
  rw [if_pos (List.length_pos_iff.2 hl), hw.2.1]; rfl
set_option maxRecDepth 100000 in
theorem partR_end (xs : List V) (x : V) (l : List St) : partR xs x l l.length = (x, 0) := by
  unfold partR; rw [if_neg (by omega)]
set_option maxRecDepth 100000 in
theorem bulkL_set (l : List V) (i : Nat) (y x : V) (h : l[i]? = some y) : V.bulk.go (l.set i x) + y.bulk = V.bulk.go l + x.bulk := by
  obtain ⟨hi, rfl⟩ := List.getElem?_eq_some_iff.1 h
  have e : l = l.take i ++ l[i] :: l.drop (i + 1) := by rw [← List.drop_eq_getElem_cons hi, List.take_append_drop]
  have h1 : V.bulk.go l = V.bulk.go (l.take i) + (l[i].bulk + V.bulk.go (l.drop (i + 1))) := by
    conv => lhs; rw [e]
    rw [bulkL_append, V.bulk.go]
  rw [List.set_eq_take_append_cons_drop, if_pos hi, bulkL_append, V.bulk.go]
  omega
set_option maxRecDepth 100000 in
theorem bulk_goL (v : V) : V.bulk.go v.l + sumK v.keys + 1 ≤ v.bulk := by
  obtain ⟨k, b, n, m, s, l, q⟩ := v
  simp only [V.bulk, sumK]; omega
set_option maxRecDepth 100000 in
theorem bulk_map (l : List V) (q : List ByteArray) : (V.map l q).bulk = 1 + V.bulk.go l + sumK q := by
  have e0 : ByteArray.empty.size = 0 := rfl
  simp [V.map, V.bulk, sumK, e0]
set_option maxRecDepth 100000 in
theorem bulk_list (l : List V) : (V.list l).bulk = 1 + V.bulk.go l := by
  have e0 : ByteArray.empty.size = 0 := rfl
  simp [V.list, V.bulk, e0]
set_option maxRecDepth 100000 in
theorem bulk_null : V.null.bulk = 1 := by
  have e0 : ByteArray.empty.size = 0 := rfl
  simp [V.null, V.bulk, V.bulk.go, e0]
set_option maxRecDepth 100000 in
theorem put_bulk (v y : V) (s : St) : (v.put y s).1.bulk ≤ v.bulk + y.bulk + (1 + s.key.size) := by
  have h1 := v.bulk_pos
  have h2 := bulk_goL v
  by_cases h0 : (v.put y s).2 = 0
  · cases hb : s.byKey
    · obtain ⟨hk, hi⟩ := (put_kind h0).2 hb
      rw [put_list hb hk, if_pos hi]
      have := putAt_bulk v.l s.at_.toNat y
      simp only [bulk_list]; omega
    · have hk := (put_kind h0).1 hb
      rw [put_map hb hk]
      simp only
      unfold mapPut
      split
      · have := putAt_bulk v.l (posK v.keys s.key) y
        rw [bulk_map]; omega
      · rw [bulk_map, ins_bulk]
        have h3 : sumK (v.keys.take (below s.key v.keys) ++ s.key :: v.keys.drop (below s.key v.keys)) = sumK v.keys + (1 + s.key.size) := by
          have h4 := sumK_append (v.keys.take (below s.key v.keys)) (v.keys.drop (below s.key v.keys))
          rw [List.take_append_drop] at h4
          rw [sumK_append]
          have e : ∀ r : List ByteArray, sumK (s.key :: r) = 1 + s.key.size + sumK r := fun r => by simp [sumK]
          rw [e]; omega
        omega
  · rw [put_err h0]
    simp only [bulk_null]; omega
set_option maxRecDepth 100000 in
theorem put_bulk2 {v : V} (h : v.cl) (y : V) (s : St) (hf : (v.follow s).2 = 0) : (v.put y s).1.bulk + (v.follow s).1.bulk ≤ v.bulk + y.bulk := by
  have h2 := bulk_goL v
  cases hb : s.byKey
  · obtain ⟨hk, hi⟩ := (follow_kind hf).2 hb
    have hp := byKey_at hb
    have hlt : s.at_.toNat < v.l.length := by omega
    rw [put_list hb hk, if_pos (by omega), follow_list hb hk, if_pos hi]
    have h3 := bulkL_set v.l s.at_.toNat _ y (List.getElem?_eq_getElem hlt)
    have e : v.item s.at_ = v.l[s.at_.toNat] := by unfold V.item; rw [List.getElem?_eq_getElem hlt]; rfl
    simp only [bulk_list, e, putAt, if_pos hlt]; omega
  · have hk := (follow_kind hf).1 hb
    obtain ⟨hv, hl, hr, -⟩ := cl_map h hk
    have hh : v.hasK s.key = true := by
      rw [follow_map hb hk] at hf
      by_cases h3 : v.hasK s.key = true
      · exact h3
      · rw [if_neg h3] at hf; cases hf
    have hm := (hasK_mem v s.key).1 hh
    have hp := posK_lt hm
    have hlt : posK v.keys s.key < v.l.length := by omega
    rw [put_map hb hk, follow_map hb hk, if_pos hh]
    have h3 := bulkL_set v.l (posK v.keys s.key) _ y (List.getElem?_eq_getElem hlt)
    have e : v.under s.key = v.l[posK v.keys s.key] := by rw [under_yes hh, List.getElem?_eq_getElem hlt]; rfl
    simp only
    unfold mapPut
    rw [if_pos (show (V.mk 7 false 0 0 ByteArray.empty v.l v.keys).hasK s.key = true from hh), bulk_map, e]
    simp only [putAt, if_pos hlt]; omega
set_option maxRecDepth 100000 in
theorem follow_bulk {v : V} (h : v.cl) (s : St) : (v.follow s).1.bulk ≤ v.bulk := by
  by_cases hf : (v.follow s).2 = 0
  · have h1 := put_bulk2 h V.null s hf
    have h2 := (v.put V.null s).1.bulk_pos
    rw [bulk_null] at h1
    omega
  · rw [follow_err hf, bulk_null]; exact v.bulk_pos
set_option maxRecDepth 100000 in
theorem onWay_all {xs : List V} {v : V} {l : List St} (hw : OnWay xs v l) (hv : v.cl) : ∀ (k : Nat) (y : V), xs[k]? = some y → y.cl ∧ y.bulk ≤ v.bulk
  | 0, y, h => by
    rw [hw.2.1] at h; injection h with h; subst h; exact ⟨hv, Nat.le_refl _⟩
  | k + 1, y, h => by
    have hlt := (List.getElem?_eq_some_iff.1 h).1
    obtain ⟨a, z, h1, h2, h3⟩ := hw.2.2 k (by have := hw.1; omega)
    rw [h] at h2; injection h2 with h2; subst h2
    obtain ⟨c1, c2⟩ := onWay_all hw hv k a h1
    have hkl : k < l.length := by have := hw.1; omega
    have e : y = (a.follow l[k]).1 := by rw [h3]
    rw [e]
    exact ⟨follow_cl c1 _, Nat.le_trans (follow_bulk c1 _) c2⟩
set_option maxRecDepth 100000 in
/-- What is put in, one step further back, is no greater. -/
theorem part_bulk {xs : List V} {v x : V} {l : List St} (hw : OnWay xs v l) (hv : v.cl) {K : Nat} (hK : ∀ s ∈ l, 1 + s.key.size ≤ K) {k : Nat} (hk : k < l.length) {Y : V} (hY : Y.bulk ≤ (xs[k + 1]?.getD V.null).bulk + (x.bulk + K)) (hz : k + 1 = l.length → Y = x) : ((xs[k]?.getD V.null).put Y l[k]).1.bulk ≤ (xs[k]?.getD V.null).bulk + (x.bulk + K) := by
  have hkx : k < xs.length := by have := hw.1; omega
  obtain ⟨hc, hb⟩ := onWay_all hw hv k _ (List.getElem?_eq_getElem hkx)
  by_cases h1 : k + 1 < l.length
  · obtain ⟨y, z, a, b, c⟩ := hw.2.2 k h1
    rw [List.getElem?_eq_getElem hkx] at a ⊢
    injection a with a
    rw [b] at hY
    simp only [Option.getD_some] at hY ⊢
    have h2 := put_bulk2 hc Y l[k] (by rw [a, c])
    rw [a] at h2 ⊢
    rw [c] at h2
    simp only at h2
    omega
  · have e := hz (by omega)
    subst e
    rw [List.getElem?_eq_getElem hkx]
    simp only [Option.getD_some]
    have h2 := put_bulk xs[k] Y l[k]
    have h3 := hK l[k] (List.getElem_mem hk)
    omega
end Go.Proofs.Ytheabeapmhoclaa

namespace Go.Proofs.Ytheabeapmhoclaa
open Go.RowKit Go.Maps Go.WideMaps

set_option maxRecDepth 100000 in
theorem StRow.below {w W : World} {ao : Option Addr} {l : List St} (h : StRow w ao l) (hb : Below w.heap.size w W) : StRow W ao l := by
  refine ⟨h.1, fun hne => ?_⟩
  obtain ⟨b, off, e, hc⟩ := h.2 hne
  have hlt := World.block_lt_of_cell? _ _ (hc 0 (List.length_pos_iff.2 hne)).1
  exact ⟨b, off, e, fun j hj => ⟨(hb.cell (p := ⟨b, off + j * 2, none⟩) hlt).trans (hc j hj).1, (hb.cell (p := ⟨b, off + j * 2 + 1, none⟩) hlt).trans (hc j hj).2⟩⟩
set_option maxRecDepth 100000 in
theorem StRow.init {w : World} {ao : Option Addr} {l : List St} (h : StRow w ao l) : StRow w ao l.dropLast := by
  refine ⟨fun s hs => h.1 s (List.dropLast_subset _ hs), fun hne => ?_⟩
  obtain ⟨b, off, e, hc⟩ := h.2 (by intro e; subst e; exact hne rfl)
  exact ⟨b, off, e, fun j hj => by
    rw [List.length_dropLast] at hj
    rw [List.getElem_dropLast]
    exact hc j (by omega)⟩
/-- The blocks of With's own: the value, the one that is put in, the answer. -/
def WBX (w W : World) (h y : Value) : Prop :=
  W.heap[w.heap.size]? = some (.cells #[h] 30 (0, 0)) ∧ W.heap[w.heap.size + 1]? = some (.cells #[y] 30 (0, 0)) ∧ W.heap[w.heap.size + 2]? = some (.cells #[.nilIface] 30 (0, 0)) ∧ Below w.heap.size w W
set_option maxRecDepth 100000 in
theorem WBX.start (w : World) (h u : Value) : WBX w (((w.alloc (.cells #[h] 30)).alloc (.cells #[u] 30)).alloc (.cells #[.nilIface] 30)) h u := by
  refine ⟨?_, ?_, ?_, (((Below.refl _ _).alloc (Nat.le_refl _) _).alloc (by simp) _).alloc (by simp <;> omega) _⟩
  · rw [Below.heap_alloc _ _ _ (by simp <;> omega), Below.heap_alloc _ _ _ (by simp)]; exact heap_alloc_new _ _
  · rw [Below.heap_alloc _ _ _ (by simp)]
    simpa using heap_alloc_new (w.alloc (.cells #[h] 30)) (.cells #[u] 30)
  · simpa using heap_alloc_new ((w.alloc (.cells #[h] 30)).alloc (.cells #[u] 30)) (.cells #[.nilIface] 30)
set_option maxRecDepth 100000 in
theorem WBX.below {w W W' : World} {h y : Value} (hB : WBX w W h y) (hb : Below W.heap.size W W') : WBX w W' h y := by
  obtain ⟨a, b, c, d⟩ := hB
  have l1 := (Array.getElem?_eq_some_iff.1 a).1
  have l2 := (Array.getElem?_eq_some_iff.1 b).1
  have l3 := (Array.getElem?_eq_some_iff.1 c).1
  exact ⟨(hb.block _ l1).trans a, (hb.block _ l2).trans b, (hb.block _ l3).trans c, d.trans (hb.mono (Nat.le_of_lt l1))⟩
set_option maxRecDepth 100000 in
theorem WBX.drew {w W : World} {h y : Value} (hB : WBX w W h y) : WBX w W.drew h y := ⟨hB.1, hB.2.1, hB.2.2.1, hB.2.2.2.drew⟩
set_option maxRecDepth 100000 in
theorem WBX.size {w W : World} {h y : Value} (hB : WBX w W h y) : w.heap.size + 2 < W.heap.size := (Array.getElem?_eq_some_iff.1 hB.2.2.1).1
set_option maxRecDepth 100000 in
theorem WBX.cells {w W : World} {h y : Value} (hB : WBX w W h y) : W.cell? ⟨w.heap.size, 0, none⟩ = some h ∧ W.cell? ⟨w.heap.size + 1, 0, none⟩ = some y ∧ W.cell? ⟨w.heap.size + 2, 0, none⟩ = some .nilIface ∧ W.frozen? ⟨w.heap.size + 2, 0, none⟩ = false := by
  obtain ⟨a, b, c, d⟩ := hB
  exact ⟨cell_of_row _ _ _ _ _ _ a, cell_of_row _ _ _ _ _ _ b, cell_of_row _ _ _ _ _ _ c, frozen_of_row _ _ _ _ _ c⟩
set_option maxRecDepth 100000 in
theorem WBX.set {w W : World} {h y : Value} (hB : WBX w W h y) (g : Value) : WBX w (W.setCell ⟨w.heap.size + 1, 0, none⟩ g) h g := by
  obtain ⟨a, b, c, d⟩ := hB
  exact ⟨(Below.heap_setCell _ _ _ _ (by simp)).trans a, heap_setCell_same _ _ 0 _ _ g b, (Below.heap_setCell _ _ _ _ (by simp)).trans c, d.setCell (by simp) _⟩
set_option maxRecDepth 100000 in
theorem WBX.done {w W : World} {h y : Value} (hB : WBX w W h y) (g : Value) : (W.setCell ⟨w.heap.size + 2, 0, none⟩ g).cell? ⟨w.heap.size + 2, 0, none⟩ = some g ∧ Below w.heap.size w (W.setCell ⟨w.heap.size + 2, 0, none⟩ g) := by
  obtain ⟨a, b, c, d⟩ := hB
  exact ⟨cell_of_row _ _ _ _ _ _ (heap_setCell_same _ _ 0 _ _ g c), d.setCell (by simp) _⟩
/-- Which blocks values may lie in while With is at work. -/
def okW (ok : Nat → Prop) (w : World) (b : Nat) : Prop := ok b ∧ b ≠ w.heap.size + 1 ∧ b ≠ w.heap.size + 2
set_option maxRecDepth 100000 in
theorem Rep.setW {w W : World} {ok : Nat → Prop} {h : Value} {x : V} (hr : Rep W (okW ok w) h x) (u : Value) : Rep (W.setCell ⟨w.heap.size + 1, 0, none⟩ u) (okW ok w) h x :=
  hr.agree (fun _ hb _ => Below.heap_setCell _ _ _ _ hb.2.1)
set_option maxRecDepth 100000 in
theorem RRow.setW {w W : World} {ok : Nat → Prop} {a : Option Addr} {l : List V} (hr : RRow W (okW ok w) a l) (u : Value) : RRow (W.setCell ⟨w.heap.size + 1, 0, none⟩ u) (okW ok w) a l :=
  hr.agree (fun _ hb _ => Below.heap_setCell _ _ _ _ hb.2.1)
set_option maxRecDepth 100000 in
theorem Rep.setW2 {w W : World} {ok : Nat → Prop} {h : Value} {x : V} (hr : Rep W (okW ok w) h x) (u : Value) : Rep (W.setCell ⟨w.heap.size + 2, 0, none⟩ u) ok h x :=
  (hr.agree (fun _ hb _ => Below.heap_setCell _ _ _ _ hb.2.2)).mono (fun _ h1 _ => h1.1)
set_option maxRecDepth 100000 in
theorem sizeST : ∀ W, (sizeOf (Try.prog.elem 39)).run Try.prog W = .ok 2 W := fun W => by
  have e : Try.prog.elem 39 = 42 := by kernel_rfl
  rw [e]; simp [go_sem]
set_option maxRecDepth 100000 in
theorem cutT_h (bl off n cap j : Nat) (hj : j ≤ cap) (W : World) : (Instr.slice 39 (.slice (some ⟨bl, off, none⟩) n cap) none (some (.int .i64 (j : Int))) none).run Try.prog W = .ok (.slice (some ⟨bl, off, none⟩) j cap) W := by
  rw [run_slice_h W 39 _ n cap Try.underlying39 .i64 (j : Int) (by omega) (by omega), sizeST]
  simp [Result.andThen, sliced, Addr.add]
set_option maxRecDepth 100000 in
set_option maxHeartbeats 3200000 in
theorem with_any {w : World} {ok : Nat → Prop} (hk : ∀ b, w.heap.size ≤ b → ok b) {h u : Value} {v x : V} (hr : Rep w ok h v) (hcl : v.cl) (hu : Rep w ok u x) (ao : Option Addr) (l : List St) (c : Nat) (hl : StRow w ao l) (hso : SliceOk ao l.length c) (hn : l.length ≤ 1048575) {K : Nat} (hK : ∀ s ∈ l, 1 + s.key.size ≤ K) (hbk : v.bulk + (x.bulk + K) ≤ 1048576) :
    Calls Try.prog 24 #[.agg #[h], .agg #[u], .slice ao l.length c] w fun e w' => ∃ g, e = .returned (.tuple #[.agg #[g], .int .i64 (v.withR x l).2]) ∧ Rep w' ok g (v.withR x l).1 ∧ Below w.heap.size w w' := by
  have hone := hr.one
  have hone2 := hu.one
  have hB0 := WBX.start w h u
  have low : ∀ {a : Value} {y : V} {W : World}, Rep w ok a y → Below w.heap.size w W → Rep W (okW ok w) a y := fun {a y W} hy hW => ((hy.mono (ok' := fun b => ok b ∧ b < w.heap.size) (fun b h1 h2 => ⟨h1, h2⟩)).agree (w' := W) (fun b h1 _ => hW.block b h1.2)).mono (fun b h1 _ => ⟨h1.1, by omega, by omega⟩)
  by_cases hz : l = []
  · subst hz
    have hb0 : Below w.heap.size w (((w.alloc (.cells #[h] 30)).alloc (.cells #[u] 30)).alloc (.cells #[u] 30)) := (((Below.refl _ _).alloc (Nat.le_refl _) _).alloc (by simp) _).alloc (by simp <;> omega) _
    have hrep := hu.stays hb0
    obtain ⟨x0, x1, x2, x3⟩ := hB0.cells
    have st := store_old u .nilIface hone2 _ _ x2 x3
    clear hr hu low hcl hl hso hK hbk hk hB0
    go_enter Try.func24, Try.ntmps24
    go_wp2_with fail
    exact bodyPost_ret (v := .tuple #[.agg #[u], .int .i64 0]) (by simp [results, Try.results24, go_sem]) rfl ⟨u, rfl, hrep, hb0⟩
  have hpos : 0 < l.length := List.length_pos_iff.2 hz
  obtain ⟨bl, off, rfl, hcc⟩ := hl.2 hz
  have hbl := World.block_lt_of_cell? _ _ (hcc 0 hpos).1
  have HC : Hid (∀ W j, Below w.heap.size w W → ∀ hj : j < l.length, l[j].ok ∧ W.cell? ⟨bl, off + j * 2, none⟩ = some (.string l[j].key) ∧ W.cell? ⟨bl, off + j * 2 + 1, none⟩ = some (.int .i64 l[j].at_)) := fun W j hW hj => ⟨hl.1 _ (List.getElem_mem hj), (hW.cell (p := ⟨bl, off + j * 2, none⟩) hbl).trans (hcc j hj).1, (hW.cell (p := ⟨bl, off + j * 2 + 1, none⟩) hbl).trans (hcc j hj).2⟩
  have CW : Hid (∀ W, WBX w W h u → Calls Try.prog 50 #[.agg #[h], .slice (some ⟨bl, off, none⟩) (l.length - 1) c] W fun e w' => ∃ a' c', e = .returned (.tuple #[.slice a' (V.wayFrom [] v l.dropLast).1.length c', .int .i64 (V.wayFrom [] v l.dropLast).2]) ∧ RRow w' (okW ok w) a' (V.wayFrom [] v l.dropLast).1 ∧ Below W.heap.size W w') := fun W hW => by
    have hs := hW.size
    have := way_any (ok := okW ok w) (w := W) (fun b hb => ⟨hk b (by omega), by omega, by omega⟩) (low hr hW.2.2.2) (some ⟨bl, off, none⟩) l.dropLast c ((hl.below hW.2.2.2).init) (by rw [List.length_dropLast]; omega)
    rw [List.length_dropLast] at this
    refine this.mono ?_
    rintro e w' ⟨a', c', rfl, h1, -, h2⟩
    exact ⟨a', c', rfl, h1, h2⟩
  have CP : Hid (∀ W q y j (Y : V), ∀ hj : j < l.length, w.heap.size + 2 < W.heap.size → OnWay (V.wayFrom [] v l.dropLast).1 v l → Rep W (okW ok w) q ((V.wayFrom [] v l.dropLast).1[j]?.getD V.null) → Rep W (okW ok w) y Y → Y.bulk ≤ ((V.wayFrom [] v l.dropLast).1[j + 1]?.getD V.null).bulk + (x.bulk + K) → (j + 1 = l.length → Y = x) → Calls Try.prog 51 #[.agg #[q], .agg #[y], .agg #[.string l[j].key, .int .i64 l[j].at_]] W fun e w' => ∃ g, e = .returned (.tuple #[.agg #[g], .int .i64 (((V.wayFrom [] v l.dropLast).1[j]?.getD V.null).put Y l[j]).2]) ∧ g.oneCell' = true ∧ Rep w' (okW ok w) g (((V.wayFrom [] v l.dropLast).1[j]?.getD V.null).put Y l[j]).1 ∧ Below W.heap.size W w') := fun W q y j Y hj hsz hw hq hy hYb hYz => by
    have hjx : j < (V.wayFrom [] v l.dropLast).1.length := by have := hw.1; omega
    have hall := onWay_all hw hcl j _ (List.getElem?_eq_getElem hjx)
    have e1 : (V.wayFrom [] v l.dropLast).1[j]?.getD V.null = (V.wayFrom [] v l.dropLast).1[j] := by rw [List.getElem?_eq_getElem hjx]; rfl
    have hpb := part_bulk hw hcl hK hj hYb hYz
    rw [e1] at hq hpb ⊢
    obtain ⟨hc1, hc2⟩ := hall
    have hgl := bulk_goL (V.wayFrom [] v l.dropLast).1[j]
    have hgl2 := len_le_bulkL (V.wayFrom [] v l.dropLast).1[j].l
    have hgl3 := bulk_goL (((V.wayFrom [] v l.dropLast).1[j]).put Y l[j]).1
    have hxb := x.bulk_pos
    refine (put_any (ok := okW ok w) (w := W) (fun b hb => ⟨hk b (by omega), by omega, by omega⟩) hq hc1 hy l[j] (hl.1 _ (List.getElem_mem hj)) (by omega) (by omega)).mono ?_
    rintro e w' ⟨g, rfl, h1, h2⟩
    exact ⟨g, rfl, h1.one, h1, h2⟩
  have hwr : IntKind.i64.wrap ((l.length : Int) - 1) = ((l.length - 1 : Nat) : Int) := by rw [IntKind.wrap_i64]; omega
  have hsl := cutT_h bl off l.length c (l.length - 1) (by have := hso.2.1; omega)
  have low2 : Hid (∀ {a : Value} {y : V} {W : World}, Rep w ok a y → Below w.heap.size w W → Rep W (okW ok w) a y) := low
  have HE : Hid ((V.wayFrom [] v l.dropLast).2 ≠ 0 → v.withR x l = (V.null, (V.wayFrom [] v l.dropLast).2)) := withR_err l v hz
  have HO : Hid ((V.wayFrom [] v l.dropLast).2 = 0 → OnWay (V.wayFrom [] v l.dropLast).1 v l) := onWay_of hz
  have HZ : Hid (∀ xs, OnWay xs v l → partR xs x l 0 = v.withR x l) := fun xs hw => partR_zero hw hz
  have HP : Hid (∀ xs, OnWay xs v l → ∀ k, k ≤ l.length → (partR xs x l k).2 ≠ 0 → v.withR x l = (V.null, (partR xs x l k).2)) := fun xs hw k hk h => partR_err hw k hk hz h
  have HB : Hid (∀ xs, OnWay xs v l → ∀ k (hk : k < l.length) (Y : V), Y.bulk ≤ (xs[k + 1]?.getD V.null).bulk + (x.bulk + K) → (k + 1 = l.length → Y = x) → ((xs[k]?.getD V.null).put Y l[k]).1.bulk ≤ (xs[k]?.getD V.null).bulk + (x.bulk + K)) := fun xs hw k hk Y h1 h2 => part_bulk hw hcl hK hk h1 h2
  have HU : Hid (Rep w ok u x) := hu
  clear hr hu low hcl hl hso hK hbk hk hcc hz hbl
  generalize v.withR x l = R at *
  generalize V.wayFrom [] v l.dropLast = WF at *
  obtain ⟨xs, ew⟩ := WF
  dsimp only at *
  go_enter Try.func24, Try.ntmps24
  go_wp2_with fail
  refine wp_region_held_drew (S := fun w' => WBX w w' h u) (by kernel_rfl) (WBX.drew hB0) (fun hSS => ?_)
  refine wpAnyH_take (i := 0) (v := ?_) rfl (by kernel_rfl) (by kernel_rfl) (by kernel_rfl) (fun _ _ _ h => h) (Or.inl ⟨by rfl, ?_⟩) hSS ?_
  rotate_left
  · intro wz hSz
    obtain ⟨x0, x1, x2, x3⟩ := hSz.cells
    go_simp
    try with_reducible rfl
  simp only [List.getElem_toArray, List.getElem_cons_zero, Act.put, List.setIfInBounds_toArray, List.set_cons_zero, List.set_cons_succ]
  refine wpAnyH_take (i := 1) (v := ?_) rfl (by kernel_rfl) (by kernel_rfl) (by kernel_rfl) (fun _ _ _ h => h) (Or.inl ⟨by rfl, ?_⟩) hSS ?_
  rotate_left
  · intro wz hSz
    go_simp
    try with_reducible rfl
  simp only [List.getElem_toArray, List.getElem_cons_zero, List.getElem_cons_succ, Act.put, List.setIfInBounds_toArray, List.set_cons_zero, List.set_cons_succ]
  refine wpAnyH_take (i := 2) (v := ?_) rfl (by kernel_rfl) (by kernel_rfl) (by kernel_rfl) (fun _ _ _ h => h) (Or.inl ⟨by rfl, ?_⟩) hSS ?_
  rotate_left
  · intro wz hSz
    go_simp
    try with_reducible rfl
  simp only [List.getElem_toArray, List.getElem_cons_zero, List.getElem_cons_succ, Act.put, List.setIfInBounds_toArray, List.set_cons_zero, List.set_cons_succ]
  refine wpAnyH_take (i := 3) (v := ?_) rfl (by kernel_rfl) (by kernel_rfl) (by kernel_rfl) (fun _ _ _ h => h) (Or.inl ⟨by rfl, ?_⟩) hSS ?_
  rotate_left
  · intro wz hSz
    go_simp
    try with_reducible rfl
  simp only [List.getElem_toArray, List.getElem_cons_zero, List.getElem_cons_succ, Act.put, List.setIfInBounds_toArray, List.set_cons_zero, List.set_cons_succ]
  refine wpAnyH_take (i := 4) (v := ?_) rfl (by kernel_rfl) (by kernel_rfl) (by kernel_rfl) (fun _ _ _ h => h) (Or.inl ⟨by rfl, ?_⟩) hSS ?_
  rotate_left
  · intro wz hSz
    go_simp
    try with_reducible rfl
  simp only [List.getElem_toArray, List.getElem_cons_zero, List.getElem_cons_succ, Act.put, List.setIfInBounds_toArray, List.set_cons_zero, List.set_cons_succ]
  refine wpAnyH_take (i := 5) (v := ?_) rfl (by kernel_rfl) (by kernel_rfl) (by kernel_rfl) (fun _ _ _ h => h) (Or.inl ⟨by rfl, ?_⟩) hSS ?_
  rotate_left
  · intro wz hSz
    go_simp
    try with_reducible rfl
  simp only [List.getElem_toArray, List.getElem_cons_zero, List.getElem_cons_succ, Act.put, List.setIfInBounds_toArray, List.set_cons_zero, List.set_cons_succ]
  refine wpAnyH_ready (rs := [6]) (by kernel_rfl) (by simp) (AllReadyH.cons rfl (fun K1 hK1 => ?_) AllReadyH.nil)
  refine step_plain (by rfl) ?_
  simp only [List.getElem_toArray, List.getElem_cons_zero, List.getElem_cons_succ]
  go_simp
  go_at_call 50
  refine (CW.out _ hSS).mono ?_
  rintro e w1 ⟨a1, c1, rfl, hrow, hb1⟩
  go_simp
  refine hK1.out _ _ (hSS.below hb1) (fun hSS => ?_)
  clear hK1 CW hsl hb1
  refine wpAnyH_take (i := 7) (v := ?_) rfl (by kernel_rfl) (by kernel_rfl) (by kernel_rfl) (fun _ _ _ h => h) (Or.inl ⟨by rfl, ?_⟩) hSS ?_
  rotate_left
  · intro wz hSz
    go_simp
    try with_reducible rfl
  simp only [List.getElem_toArray, List.getElem_cons_zero, List.getElem_cons_succ, Act.put, List.setIfInBounds_toArray, List.set_cons_zero, List.set_cons_succ]
  refine wpAnyH_take (i := 8) (v := ?_) rfl (by kernel_rfl) (by kernel_rfl) (by kernel_rfl) (fun _ _ _ h => h) (Or.inl ⟨by rfl, ?_⟩) hSS ?_
  rotate_left
  · intro wz hSz
    go_simp
    try with_reducible rfl
  simp only [List.getElem_toArray, List.getElem_cons_zero, List.getElem_cons_succ, Act.put, List.setIfInBounds_toArray, List.set_cons_zero, List.set_cons_succ]
  refine wpAnyH_take (i := 9) (v := ?_) rfl (by kernel_rfl) (by kernel_rfl) (by kernel_rfl) (fun _ _ _ h => h) (Or.inl ⟨by rfl, ?_⟩) hSS ?_
  rotate_left
  · intro wz hSz
    go_simp
    try with_reducible rfl
  simp only [List.getElem_toArray, List.getElem_cons_zero, List.getElem_cons_succ, Act.put, List.setIfInBounds_toArray, List.set_cons_zero, List.set_cons_succ]
  refine wpAnyH_take (i := 10) (v := ?_) rfl (by kernel_rfl) (by kernel_rfl) (by kernel_rfl) (fun _ _ _ h => h) (Or.inl ⟨by rfl, ?_⟩) hSS ?_
  rotate_left
  · intro wz hSz
    go_simp
    try with_reducible rfl
  simp only [List.getElem_toArray, List.getElem_cons_zero, List.getElem_cons_succ, Act.put, List.setIfInBounds_toArray, List.set_cons_zero, List.set_cons_succ]
  refine wpAnyH_take (i := 11) (v := ?_) rfl (by kernel_rfl) (by kernel_rfl) (by kernel_rfl) (fun _ _ _ h => h) (Or.inl ⟨by rfl, ?_⟩) hSS ?_
  rotate_left
  · intro wz hSz
    go_simp
    try with_reducible rfl
  simp only [List.getElem_toArray, List.getElem_cons_zero, List.getElem_cons_succ, Act.put, List.setIfInBounds_toArray, List.set_cons_zero, List.set_cons_succ]
  refine wpAnyH_done (by kernel_rfl) ?_ _
  by_cases hE : ew ≠ 0
  · have hR : Hid (R = (V.null, ew)) := HE.out hE
    have hE' : (ew == 0) = false := by simpa using hE
    obtain ⟨x0, x1, x2, x3⟩ := hSS.cells
    obtain ⟨g1, g2⟩ := hSS.done .nilIface
    clear HE HO CP HZ HP HB HU HC
    go_wp2_with fail
    exact bodyPost_ret (v := .tuple #[.agg #[.nilIface], .int .i64 ew]) (by simp [results, Try.results24, go_sem, g1]) rfl ⟨_, by rw [hR.out], by rw [hR.out]; exact Rep.null, g2⟩
  obtain rfl : ew = 0 := by omega
  have hw := HO.out rfl
  have hxl : xs.length = l.length := hw.1
  have HW : Hid (OnWay xs v l) := hw
  obtain ⟨wb, wo, rfl, hwb⟩ : ∃ wb wo, a1 = some ⟨wb, wo, none⟩ ∧ okW ok w wb := by
    obtain ⟨H, hrr, hin⟩ := hrow
    obtain ⟨wb, wo, e, hb, -⟩ := hrr (by omega)
    exact ⟨wb, wo, e, hb⟩
  have HQ : Hid (∀ W, RRow W (okW ok w) (some ⟨wb, wo, none⟩) xs → ∀ j, j < xs.length → ∃ q, W.cell? ⟨wb, wo + j, none⟩ = some q ∧ Rep W (okW ok w) q (xs[j]?.getD V.null)) := fun W hr j hj => by
    obtain ⟨H, hrr, hin⟩ := hr
    obtain ⟨wb', wo', e, -, hcw⟩ := hrr (by omega)
    injection e with e
    injection e with e1 e2
    subst e1; subst e2
    refine ⟨H j, hcw j hj, ?_⟩
    rw [List.getElem?_eq_getElem hj]
    exact hin j hj
  have HN : Hid (xs.length = l.length) := hxl
  have hu0 := low2.out HU.out hSS.2.2.2
  have hp0 : Hid (partR xs x l l.length = (x, 0)) := partR_end xs x l
  have hbk0 : Hid (x.bulk ≤ (xs[l.length]?.getD V.null).bulk + (x.bulk + K)) := by
    show _ ≤ _; omega
  clear HO HE hE hw hxl HU low2 hB0
  go_wp2_with fail
  go_loopw [10] (fun si wr => ∃ (k : Nat) (i : Int) (y : Value) (Y : V), k ≤ l.length ∧ i = (k : Int) - 1 ∧ si = .int .i64 i ∧ WBX w wr h y ∧ RRow wr (okW ok w) (some ⟨wb, wo, none⟩) xs ∧ Rep wr (okW ok w) y Y ∧ Hid (partR xs x l k = (Y, 0)) ∧ Hid (Y.bulk ≤ (xs[k]?.getD V.null).bulk + (x.bulk + K))) (fun si _ => (intOf si + 1).toNat)
  case atStart => exact ⟨l.length, _, u, x, Nat.le_refl _, by omega, rfl, hSS, hrow, hu0, hp0, hbk0⟩
  case round =>
    obtain ⟨k, i, y, Y, hkl, hi, rfl, hB, hrow2, hrep, hpart, hYb⟩ := hrel
    clear hSS hrow hu0 hp0 hbk0 hone hone2
    have hy1 := hrep.one
    by_cases hk0 : 0 < k
    · obtain ⟨j, rfl⟩ : ∃ j, k = j + 1 := ⟨k - 1, by omega⟩
      obtain rfl : i = (j : Int) := by omega
      clear hi
      have hjl : j < l.length := by omega
      have hjx : j < xs.length := by rw [HN.out]; exact hjl
      obtain ⟨q, hq1, hq2⟩ := HQ.out _ hrow2 j (by rw [HN.out]; exact hjl)
      obtain ⟨hso, hs1, hs2⟩ := HC.out _ j hB.2.2.2 hjl
      have hYz : Hid (j + 1 = l.length → Y = x) := fun e => by
        have h1 := hpart.out
        rw [e, partR_end] at h1
        injection h1 with h1 _
        exact h1.symm
      have hst : Hid (partR xs x l j = (xs[j]?.getD V.null).put Y l[j]) := partR_step HW.out hjl hpart.out
      have hb2 := HB.out xs HW.out j hjl Y hYb.out hYz.out
      have CP2 : Hid (∀ W, Below wr.heap.size wr W → Calls Try.prog 51 #[.agg #[q], .agg #[y], .agg #[.string l[j].key, .int .i64 l[j].at_]] W fun e w' => ∃ g, e = .returned (.tuple #[.agg #[g], .int .i64 (partR xs x l j).2]) ∧ g.oneCell' = true ∧ Rep w' (okW ok w) g (partR xs x l j).1 ∧ Below W.heap.size W w') := fun W hW => by
        rw [hst.out]
        exact CP.out W q y j Y hjl (Nat.lt_of_lt_of_le hB.size hW.size) HW.out (hq2.stays hW) (hrep.stays hW) hYb.out hYz.out
      have HSt : Hid (∀ W h' y', WBX w W h' y' → W.cell? ⟨bl, off + j * 2, none⟩ = some (.string l[j].key) ∧ W.cell? ⟨bl, off + j * 2 + 1, none⟩ = some (.int .i64 l[j].at_)) := fun W h' y' hW => (HC.out _ j hW.2.2.2 hjl).2
      rw [← hst.out] at hb2
      have HPe : Hid ((partR xs x l j).2 ≠ 0 → R = (V.null, (partR xs x l j).2)) := HP.out xs HW.out j (by omega)
      have hBb : Hid ((partR xs x l j).1.bulk ≤ (xs[j]?.getD V.null).bulk + (x.bulk + K)) := hb2
      have hSS : (∃ y', WBX w wr h y') ∧ wr.cell? ⟨wb, wo + j, none⟩ = some q := ⟨⟨y, hB⟩, hq1⟩
      obtain ⟨z0, z1, z2, z3⟩ := hB.drew.cells
      have hDB : Below wr.heap.size wr wr.drew := (Below.refl _ _).drew
      clear hs1 hs2 CP HB HQ HC hst hb2 hYz hpart hYb HP hq2 hrep hq1 hy1
      generalize l[j] = s at *
      obtain ⟨PR, hPR⟩ : ∃ PR, partR xs x l j = PR := ⟨_, rfl⟩
      rw [hPR] at CP2 HPe hBb
      have HPR : Hid (partR xs x l j = PR) := hPR
      clear hPR
      obtain ⟨Y2, e2⟩ := PR
      dsimp only at *
      go_wp2_with fail
      refine wp_region_held_drew (S := fun W => (∃ y', WBX w W h y') ∧ W.cell? ⟨wb, wo + j, none⟩ = some q) (by kernel_rfl) ⟨⟨y, hB.drew⟩, hSS.2⟩ (fun hSS => ?_)
      refine wpAnyH_take (i := 0) (v := ?_) rfl (by kernel_rfl) (by kernel_rfl) (by kernel_rfl) (fun _ _ _ h => h) (Or.inl ⟨by rfl, ?_⟩) hSS ?_
      rotate_left
      · intro wz hSz
        go_simp
        try with_reducible rfl
      simp only [List.getElem_toArray, List.getElem_cons_zero, Act.put, List.setIfInBounds_toArray, List.set_cons_zero, List.set_cons_succ]
      refine wpAnyH_take (i := 1) (v := ?_) rfl (by kernel_rfl) (by kernel_rfl) (by kernel_rfl) (fun _ _ _ h => h) (Or.inl ⟨by rfl, ?_⟩) hSS ?_
      rotate_left
      · intro wz hSz
        go_simp
        try with_reducible rfl
      simp only [List.getElem_toArray, List.getElem_cons_zero, List.getElem_cons_succ, Act.put, List.setIfInBounds_toArray, List.set_cons_zero, List.set_cons_succ]
      refine wpAnyH_take (i := 2) (v := ?_) rfl (by kernel_rfl) (by kernel_rfl) (by kernel_rfl) (fun _ _ _ h => h) (Or.inl ⟨by rfl, ?_⟩) hSS ?_
      rotate_left
      · intro wz hSz
        go_simp
        try with_reducible rfl
      simp only [List.getElem_toArray, List.getElem_cons_zero, List.getElem_cons_succ, Act.put, List.setIfInBounds_toArray, List.set_cons_zero, List.set_cons_succ]
      refine wpAnyH_take (i := 3) (v := ?_) rfl (by kernel_rfl) (by kernel_rfl) (by kernel_rfl) (fun _ _ _ h => h) (Or.inl ⟨by rfl, ?_⟩) hSS ?_
      rotate_left
      · intro wz hSz
        obtain ⟨-, p1⟩ := hSz
        go_simp
        try with_reducible rfl
      simp only [List.getElem_toArray, List.getElem_cons_zero, List.getElem_cons_succ, Act.put, List.setIfInBounds_toArray, List.set_cons_zero, List.set_cons_succ]
      refine wpAnyH_take (i := 5) (v := ?_) rfl (by kernel_rfl) (by kernel_rfl) (by kernel_rfl) (fun _ _ _ h => h) (Or.inl ⟨by rfl, ?_⟩) hSS ?_
      rotate_left
      · intro wz hSz
        go_simp
        try with_reducible rfl
      simp only [List.getElem_toArray, List.getElem_cons_zero, List.getElem_cons_succ, Act.put, List.setIfInBounds_toArray, List.set_cons_zero, List.set_cons_succ]
      refine wpAnyH_take (i := 6) (v := ?_) rfl (by kernel_rfl) (by kernel_rfl) (by kernel_rfl) (fun _ _ _ h => h) (Or.inl ⟨by rfl, ?_⟩) hSS ?_
      rotate_left
      · intro wz hSz
        go_simp
        try with_reducible rfl
      simp only [List.getElem_toArray, List.getElem_cons_zero, List.getElem_cons_succ, Act.put, List.setIfInBounds_toArray, List.set_cons_zero, List.set_cons_succ]
      refine wpAnyH_take (i := 7) (v := ?_) rfl (by kernel_rfl) (by kernel_rfl) (by kernel_rfl) (fun _ _ _ h => h) (Or.inl ⟨by rfl, ?_⟩) hSS ?_
      rotate_left
      · intro wz hSz
        go_simp
        try with_reducible rfl
      simp only [List.getElem_toArray, List.getElem_cons_zero, List.getElem_cons_succ, Act.put, List.setIfInBounds_toArray, List.set_cons_zero, List.set_cons_succ]
      refine wpAnyH_take (i := 8) (v := ?_) rfl (by kernel_rfl) (by kernel_rfl) (by kernel_rfl) (fun _ _ _ h => h) (Or.inl ⟨by rfl, ?_⟩) hSS ?_
      rotate_left
      · intro wz hSz
        obtain ⟨⟨y', p0⟩, -⟩ := hSz; obtain ⟨p1, p2⟩ := HSt.out _ _ _ p0
        go_simp
        try with_reducible rfl
      simp only [List.getElem_toArray, List.getElem_cons_zero, List.getElem_cons_succ, Act.put, List.setIfInBounds_toArray, List.set_cons_zero, List.set_cons_succ]
      refine wpAnyH_ready (rs := [4]) (by kernel_rfl) (by simp) (AllReadyH.cons rfl (fun K4 hK4 => ?_) AllReadyH.nil)
      refine step_plain (by rfl) ?_
      simp only [List.getElem_toArray, List.getElem_cons_zero, List.getElem_cons_succ]
      go_simp
      refine hK4.out _ _ hSS (fun hSS => ?_)
      clear hK4
      refine wpAnyH_ready (rs := [9]) (by kernel_rfl) (by simp) (AllReadyH.cons rfl (fun K9 hK9 => ?_) AllReadyH.nil)
      refine step_plain (by rfl) ?_
      simp only [List.getElem_toArray, List.getElem_cons_zero, List.getElem_cons_succ]
      go_simp
      go_at_call 51
      refine (CP2.out _ hDB).mono ?_
      rintro e w4 ⟨g, rfl, hg1, hg, hb4⟩
      have hB4 := hB.drew.below hb4
      have hq4 := (hb4.cell (p := ⟨wb, wo + j, none⟩) (World.block_lt_of_cell? _ _ hSS.2)).trans hSS.2
      have hrow4 := hrow2.agree (w' := w4) (fun b _ h2 => (hDB.trans (hb4.mono (Nat.le_refl _))).block b h2)
      go_simp
      refine hK9.out _ _ ⟨⟨y, hB4⟩, hq4⟩ (fun hSS => ?_)
      clear hK9 CP2 HSt hrow2 hb4 hB z0 z1 z2 z3
      refine wpAnyH_take (i := 10) (v := ?_) rfl (by kernel_rfl) (by kernel_rfl) (by kernel_rfl) (fun _ _ _ h => h) (Or.inl ⟨by rfl, ?_⟩) hSS ?_
      rotate_left
      · intro wz hSz
        go_simp
        try with_reducible rfl
      simp only [List.getElem_toArray, List.getElem_cons_zero, List.getElem_cons_succ, Act.put, List.setIfInBounds_toArray, List.set_cons_zero, List.set_cons_succ]
      refine wpAnyH_take (i := 11) (v := ?_) rfl (by kernel_rfl) (by kernel_rfl) (by kernel_rfl) (fun _ _ _ h => h) (Or.inl ⟨by rfl, ?_⟩) hSS ?_
      rotate_left
      · intro wz hSz
        go_simp
        try with_reducible rfl
      simp only [List.getElem_toArray, List.getElem_cons_zero, List.getElem_cons_succ, Act.put, List.setIfInBounds_toArray, List.set_cons_zero, List.set_cons_succ]
      refine wpAnyH_take (i := 12) (v := ?_) rfl (by kernel_rfl) (by kernel_rfl) (by kernel_rfl) (fun _ _ _ h => h) (Or.inl ⟨by rfl, ?_⟩) hSS ?_
      rotate_left
      · intro wz hSz
        go_simp
        try with_reducible rfl
      simp only [List.getElem_toArray, List.getElem_cons_zero, List.getElem_cons_succ, Act.put, List.setIfInBounds_toArray, List.set_cons_zero, List.set_cons_succ]
      have hy4 := hB4.2.1
      refine wpAnyH_ready (rs := [13]) (by kernel_rfl) (by simp) (AllReadyH.cons rfl (fun K13 hK13 => ?_) AllReadyH.nil)
      refine step_set0 (by rfl) _ _ (by rfl) (by rfl) (B := w.heap.size + 1) (u := g) (by rfl) (by rfl) hg1 hy4 ?_
      have hB5 := hB4.set g
      have hg5 := hg.setW (w := w) g
      have hrow5 := hrow4.setW (w := w) g
      have hq5 : (w4.setCell ⟨w.heap.size + 1, 0, none⟩ g).cell? ⟨wb, wo + j, none⟩ = some q := (World.cell?_setCell_far _ _ _ _ (fun e => hwb.2.1 e.symm)).trans hq4
      refine hK13.out _ _ ⟨⟨g, hB5⟩, hq5⟩ (fun hSS => ?_)
      clear hK13 hB4 hg hrow4 hq4 hy4 hq5
      generalize w4.setCell ⟨w.heap.size + 1, 0, none⟩ g = w5 at *
      refine wpAnyH_take (i := 14) (v := ?_) rfl (by kernel_rfl) (by kernel_rfl) (by kernel_rfl) (fun _ _ _ h => h) (Or.inl ⟨by rfl, ?_⟩) hSS ?_
      rotate_left
      · intro wz hSz
        go_simp
        try with_reducible rfl
      simp only [List.getElem_toArray, List.getElem_cons_zero, List.getElem_cons_succ, Act.put, List.setIfInBounds_toArray, List.set_cons_zero, List.set_cons_succ]
      refine wpAnyH_done (by kernel_rfl) ?_ _
      by_cases hE : e2 = 0
      · subst hE
        clear HPe
        go_wp2_with fail
        go_roundw
        case rel => exact ⟨j, _, g, Y2, by omega, rfl, rfl, hB5, hrow5, hg5, HPR, hBb⟩
        case measure => simp [intOf] <;> omega
      · have hR : Hid (R = (V.null, e2)) := HPe.out hE
        have hE' : (e2 == 0) = false := by simpa using hE
        obtain ⟨x0, x1, x2, x3⟩ := hB5.cells
        obtain ⟨g1, g2⟩ := hB5.done .nilIface
        clear HPe hBb hg5 hrow5
        go_wp2_with fail
        exact bodyPost_ret (v := .tuple #[.agg #[.nilIface], .int .i64 e2]) (by simp [results, Try.results24, go_sem, g1]) rfl ⟨_, by rw [hR.out], by rw [hR.out]; exact Rep.null, g2⟩
    · obtain rfl : k = 0 := by omega
      have hneg : i < 0 := by omega
      clear hi
      have hR : Hid (R = (Y, 0)) := (HZ.out xs HW.out).symm.trans hpart.out
      obtain ⟨x0, x1, x2, x3⟩ := hB.cells
      have st := store_old y .nilIface hy1 _ _ x2 x3
      obtain ⟨g1, g2⟩ := hB.done y
      have hrep2 := hrep.setW2 (w := w) y
      clear HC CP HZ HP HB HQ hpart hYb hrow2 hrep
      go_wp2_with fail
      exact bodyPost_ret (v := .tuple #[.agg #[y], .int .i64 0]) (by simp [results, Try.results24, go_sem, g1]) rfl ⟨y, by rw [hR.out], by rw [hR.out]; exact hrep2, g2⟩
end Go.Proofs.Ytheabeapmhoclaa

