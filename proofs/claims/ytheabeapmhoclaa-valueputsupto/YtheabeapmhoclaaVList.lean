/- What List makes of values. Condition: they lie in memory, at most 1048576 values and letters. -/
import Derived.Test.YtheabeapmhoclaaVMeasA
import Derived.Test.YtheabeapmhoclaaVClone
namespace Go.Proofs.Ytheabeapmhoclaa
open Go.RowKit Go.Maps

set_option maxRecDepth 100000 in
/-- A result's cell, written, and a new block behind it. -/
theorem res_block {w w1 : World} {T T' : TypeId} {u0 u : Value} {cs : Array Value} (hz : w1.heap[w.heap.size]? = some (.cells #[u0] T (0, 0))) (hb : Below w.heap.size w w1) :
    Below w.heap.size w ((w1.setCell ⟨w.heap.size, 0, none⟩ u).alloc (.cells cs T')) ∧ ((w1.setCell ⟨w.heap.size, 0, none⟩ u).alloc (.cells cs T')).cell? ⟨w.heap.size, 0, none⟩ = some u ∧
    (∀ i, ((w1.setCell ⟨w.heap.size, 0, none⟩ u).alloc (.cells cs T')).cell? ⟨w1.heap.size, i, none⟩ = cs[i]?) ∧ PlainT ((w1.setCell ⟨w.heap.size, 0, none⟩ u).alloc (.cells cs T')) w1.heap.size T' := by
  have hs : (w1.setCell ⟨w.heap.size, 0, none⟩ u).heap.size = w1.heap.size := by simp [World.setCell]
  have h1 : (w1.setCell ⟨w.heap.size, 0, none⟩ u).heap[w.heap.size]? = some (.cells #[u] T (0, 0)) := heap_setCell_same _ _ 0 _ _ _ hz
  have hlt : w.heap.size < w1.heap.size := (Array.getElem?_eq_some_iff.1 hz).1
  refine ⟨(hb.setCell (Nat.le_refl _) _).alloc (by rw [hs]; omega) _, ?_, fun i => ?_, ?_⟩
  · exact cell_of_row _ _ _ _ _ _ ((Below.heap_alloc _ _ w.heap.size (by rw [hs]; exact hlt)).trans h1)
  · have h2 := heap_alloc_new (w1.setCell ⟨w.heap.size, 0, none⟩ u) (.cells cs T')
    rw [hs] at h2
    exact cell_of_row _ _ _ _ _ _ h2
  · have h2 := heap_alloc_new (w1.setCell ⟨w.heap.size, 0, none⟩ u) (.cells cs T')
    rw [hs] at h2
    exact ⟨_, h2⟩
def V.list (l : List V) : V := .mk 6 false 0 0 ByteArray.empty l []
set_option maxRecDepth 100000 in
theorem list_deep (l : List V) : (V.mk 6 false 0 0 ByteArray.empty l []).deep = V.deep.go l + 1 := by simp only [V.deep]
set_option maxRecDepth 100000 in
theorem list_size (l : List V) : (V.mk 6 false 0 0 ByteArray.empty l []).size = 1 + V.size.go l := by simp only [V.size]
set_option maxRecDepth 100000 in
theorem list_known (l : List V) : (V.mk 6 false 0 0 ByteArray.empty l []).known = V.known.go l := by simp [V.known]
set_option maxRecDepth 100000 in
theorem list_right (l : List V) : (V.mk 6 false 0 0 ByteArray.empty l []).right = ((rightL l && decide (V.deep.go l + 1 ≤ 8)) && decide (l.length ≤ 64)) := by rw [right_of]; simp
set_option maxRecDepth 100000 in
set_option maxHeartbeats 1600000 in
theorem listOf_any (ao : Option Addr) (l : List V) (c : Nat) (w : World) {ok : Nat → Prop} (hk : ∀ b, w.heap.size ≤ b → ok b) (hr : RRow w ok ao l) (hok : SliceOk ao l.length c) (hbk : V.bulk.go l ≤ 1048576) :
    Calls Try.prog 65 #[.slice ao l.length c] w fun e w' => ∃ h, e = .returned (.agg #[h]) ∧ Rep w' ok h (V.list l) ∧ Below w.heap.size w w' := by
  have C : Hid (∀ W, Below w.heap.size w W → Calls Try.prog 85 #[.slice ao l.length c] W fun e w' => e = .returned (measL l) ∧ Below W.heap.size W w') := fun W hW => measAll_any ao l c W (hr.below hW) hbk
  have HL : Hid (measL l = .agg #[.int .i64 ((V.mk 6 false 0 0 ByteArray.empty l []).deep : Nat), .int .i64 ((V.mk 6 false 0 0 ByteArray.empty l []).size : Nat), .bool (V.mk 6 false 0 0 ByteArray.empty l []).known, .bool (V.mk 6 false 0 0 ByteArray.empty l []).right]) := by
    show measL l = _
    rw [measL, list_deep, list_size, list_known, list_right]
  rw [HL.out] at C
  clear HL
  have HR : Hid (∀ (W : World) (B : Nat), Below w.heap.size w W → w.heap.size ≤ B → PlainT W B 95 → W.cell? ⟨B, 0, none⟩ = some (.int .i64 ((V.mk 6 false 0 0 ByteArray.empty l []).deep : Nat)) → W.cell? ⟨B, 1, none⟩ = some (.int .i64 ((V.mk 6 false 0 0 ByteArray.empty l []).size : Nat)) →
      W.cell? ⟨B, 2, none⟩ = some (.bool (V.mk 6 false 0 0 ByteArray.empty l []).known) → W.cell? ⟨B, 3, none⟩ = some (.bool (V.mk 6 false 0 0 ByteArray.empty l []).right) → W.cell? ⟨B, 4, none⟩ = some (.slice ao l.length c) →
      Rep W ok (.iface 91 (.pointer (some ⟨B, 0, none⟩))) (V.list l)) := fun W B hW hB hPB c0 c1 c2 c3 c4 => by
    obtain ⟨H, h1, h2⟩ := hr.below hW
    exact Rep.list B l ao c H ⟨hk B hB, hPB⟩ hok c0 c1 c2 c3 c4 h1 h2
  clear hr hok hbk hk
  generalize (V.mk 6 false 0 0 ByteArray.empty l []).deep = X0 at *
  generalize (V.mk 6 false 0 0 ByteArray.empty l []).size = X1 at *
  generalize (V.mk 6 false 0 0 ByteArray.empty l []).known = X2 at *
  generalize (V.mk 6 false 0 0 ByteArray.empty l []).right = X3 at *
  go_enter Try.func65, Try.ntmps65
  go_wp2_with fail
  refine (C.out _ ((Below.refl _ _).alloc (Nat.le_refl _) _)).mono ?_
  rintro e w1 ⟨rfl, hb1⟩
  have hz := heap_alloc_new w (.cells #[.nilIface] 30)
  have hz1 := (hb1.block w.heap.size (by simp)).trans hz
  have hlt : w.heap.size < w1.heap.size := (Array.getElem?_eq_some_iff.1 hz1).1
  have z0 := cell_of_row _ _ 0 _ _ _ hz1
  have z1 := frozen_of_row _ _ 0 _ _ hz1
  have hB1 : Below w.heap.size w w1 := ((Below.refl _ _).alloc (Nat.le_refl _) _).trans (hb1.mono (by simp))
  clear hz C hb1
  go_wp2_with fail
  obtain ⟨g1, g2, g3, g4⟩ := res_block (T' := 95) (u := .iface 91 (.pointer (some ⟨w1.heap.size, 0, none⟩))) (cs := #[.int .i64 X0, .int .i64 X1, .bool X2, .bool X3, .slice ao l.length c]) hz1 hB1
  exact bodyPost_ret (v := .agg #[.iface 91 (.pointer (some ⟨w1.heap.size, 0, none⟩))]) (by simp [results, Try.results65, go_sem, g2]) rfl ⟨_, rfl, HR.out _ _ g1 hB1.size g4 (g3 0) (g3 1) (g3 2) (g3 3) (g3 4), g1⟩
set_option maxRecDepth 100000 in
/-- A slice of values, copied. -/
theorem RRow.of_crow {w : World} {ok : Nat → Prop} {a : Option Addr} {l : List V} {H : Nat → Value} (hc : CRow w ok a ((List.range l.length).map H)) (hin : ∀ j (hj : j < l.length), Rep w ok (H j) l[j]) : RRow w ok a l := by
  refine ⟨H, fun hn => ?_, hin⟩
  obtain ⟨b, off, rfl, hb, h⟩ := hc (by intro e; have h := congrArg List.length e; simp only [List.length_map, List.length_range, List.length_nil] at h; omega)
  refine ⟨b, off, rfl, hb, fun j hj => h j (H j) ?_⟩
  simp [hj]
set_option maxRecDepth 100000 in
theorem one_map {w : World} {ok : Nat → Prop} {l : List V} {H : Nat → Value} (hin : ∀ j (hj : j < l.length), Rep w ok (H j) l[j]) : ∀ u ∈ (List.range l.length).map H, u.oneCell' = true := by
  intro u hu
  obtain ⟨j, hj, rfl⟩ := List.mem_map.1 hu
  exact (hin j (List.mem_range.1 hj)).one
set_option maxRecDepth 100000 in
set_option maxHeartbeats 1600000 in
theorem cloneVs_any (ao : Option Addr) (l : List V) (c : Nat) (w : World) {ok : Nat → Prop} (hk : ∀ b, w.heap.size ≤ b → ok b) (hr : RRow w ok ao l) (hok : SliceOk ao l.length c) (hn : l.length ≤ 1048576) :
    Calls Try.prog 66 #[.slice ao l.length c] w fun e w' => ∃ a' c', e = .returned (.slice a' l.length c') ∧ RRow w' ok a' l ∧ SliceOk a' l.length c' ∧ Below w.heap.size w w' := by
  obtain ⟨H, h1, h2⟩ := hr
  have hlen : ((List.range l.length).map H).length = l.length := by simp
  have C := cloneV_any ao ((List.range l.length).map H) c w hk h1.crow (by rw [hlen]; exact hok) (one_map h2) (by rw [hlen]; omega)
  rw [hlen] at C
  refine C.mono ?_
  rintro e w' ⟨a', c', rfl, hc, hk, hb⟩
  exact ⟨a', c', rfl, RRow.of_crow hc (fun j hj => (h2 j hj).stays hb), hk, hb⟩
set_option maxRecDepth 100000 in
set_option maxHeartbeats 1600000 in
theorem list_any (ao : Option Addr) (l : List V) (c : Nat) (w : World) {ok : Nat → Prop} (hk : ∀ b, w.heap.size ≤ b → ok b) (hr : RRow w ok ao l) (hok : SliceOk ao l.length c) (hbk : V.bulk.go l ≤ 1048576) :
    Calls Try.prog 35 #[.slice ao l.length c] w fun e w' => ∃ h, e = .returned (.agg #[h]) ∧ Rep w' ok h (V.list l) ∧ Below w.heap.size w w' := by
  have hn : l.length ≤ 1048576 := Nat.le_trans (len_le_bulkL l) hbk
  go_enter Try.func35, Try.ntmps35
  go_wp2_with fail
  refine (cloneVs_any ao l c _ (ok := fun b => ok b ∧ b ≠ w.heap.size) (fun b hb => ⟨hk b (by simp at hb; omega), by simp at hb; omega⟩) ((hr.mono (ok' := fun b => ok b ∧ b ≠ w.heap.size) (fun b h1 h2 => ⟨h1, by omega⟩)).below ((Below.refl _ _).alloc (Nat.le_refl _) _)) hok hn).mono ?_
  rintro e w1 ⟨a1, c1, rfl, hr1, hk1, hb1⟩
  have hs1 := hb1.size
  simp only [World.size_alloc] at hs1
  clear hr hok
  go_wp2_with fail
  refine (listOf_any a1 l c1 _ (ok := fun b => ok b ∧ b ≠ w.heap.size) (fun b hb => ⟨hk b (by omega), by omega⟩) hr1 hk1 hbk).mono ?_
  rintro e w2 ⟨h, rfl, hrep, hb2⟩
  have hz := heap_alloc_new w (.cells #[.nilIface] 30)
  have hz2 := (hb2.block w.heap.size (by omega)).trans ((hb1.block w.heap.size (by simp)).trans hz)
  have hB2 : Below w.heap.size w w2 := (((Below.refl _ _).alloc (Nat.le_refl _) _).trans (hb1.mono (by simp))).trans (hb2.mono (by omega))
  have z0 := cell_of_row _ _ 0 _ _ _ hz2
  have z1 := frozen_of_row _ _ 0 _ _ hz2
  have st := store_old h .nilIface hrep.one w2 ⟨w.heap.size, 0, none⟩ z0 z1
  have hfin := (hrep.agree (Agree.setCell (w := w2) (n := w.heap.size) (i := 0) h (fun hh => hh.2 rfl))).mono (ok' := ok) (fun b h1 _ => h1.1)
  have hx : (w2.setCell ⟨w.heap.size, 0, none⟩ h).cell? ⟨w.heap.size, 0, none⟩ = some h := cell_of_row _ _ _ _ _ _ (heap_setCell_same _ _ 0 _ _ h hz2)
  clear hr1 hk1 hb1 hz hrep
  go_wp2_with fail
  exact bodyPost_ret (v := .agg #[h]) (by simp [results, Try.results35, go_sem, hx]) rfl ⟨h, rfl, hfin, hB2.setCell (Nat.le_refl _) _⟩
end Go.Proofs.Ytheabeapmhoclaa
