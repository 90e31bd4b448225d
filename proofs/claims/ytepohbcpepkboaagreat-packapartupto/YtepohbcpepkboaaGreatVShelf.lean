/- The library's contracts on maps.Keys, slices.Sorted, slices.Sort, laid at this program, in plain words. No conditions. -/
import Derived.Test.YtepohbcpepkboaaGreatVList
import Derived.Test.YtepohbcpepkboaaGreatVPlaces
import Derived.Deep.RegionHeld3
import Derived.Deep.CutRange
import Derived.Shelf.SlIter.Nil
import Derived.Shelf.SortM.Plain
import Derived.Shelf.SortM.SortNone
import Derived.Test.YtepohbcpepkboaaGreatProg
namespace Go.Proofs.YtepohbcpepkboaaGreat
open Go.RowKit Go.Maps

def anyLong (q : List ByteArray) : Bool := q.any (fun x => decide (256 < x.size))
set_option maxRecDepth 100000 in
set_option maxHeartbeats 1600000 in
theorem ixf_long (ao : Option Addr) (q : List ByteArray) (c : Nat) (w : World) {ok : Nat → Prop} (hr : SRow w ok ao q) (hn : q.length ≤ 1048576) :
    Calls Tryz.prog 107 #[.slice ao q.length c, .func (.func 77) #[] #[]] w fun e w' => (∃ i : Int, e = .returned (.int .i64 i) ∧ decide (0 ≤ i) = anyLong q) ∧ w = w' := by
  by_cases hz : q = []
  · subst hz
    clear hr
    go_enter Tryz.func107, Tryz.ntmps107
    go_wp2_with fail
    refine wp_loop_rounds 1 ?_
    rw [rounds_succ]
    go_wp2_with fail
    go_ret
    exact ⟨⟨-1, rfl, rfl⟩, rfl⟩
  obtain ⟨bl, off, rfl, -, hcc⟩ := hr.2 hz
  clear hr hz
  go_enter Tryz.func107, Tryz.ntmps107
  go_wp2_with fail
  go_loopw [8] (fun si wr => ∃ k : Nat, k ≤ q.length ∧ si = .int .i64 k ∧ Hid (anyLong (q.take k) = false) ∧ w = wr) (fun si _ => q.length - (intOf si).toNat)
  case atStart => exact ⟨0, by omega, rfl, rfl, rfl⟩
  case round =>
    obtain ⟨k, hk, rfl, hid, rfl⟩ := hrel
    by_cases hlt : k < q.length
    · have c0 := hcc k hlt
      have HT : Hid (anyLong (q.take (k + 1)) = (anyLong (q.take k) || decide (256 < q[k].size))) := by
        show anyLong _ = _
        rw [List.take_succ_eq_append_getElem hlt, anyLong, List.any_append]; simp [anyLong]
      have HA : Hid (decide (256 < q[k].size) = true → anyLong q = true) := fun h => by
        rw [anyLong, List.any_eq_true]
        exact ⟨_, List.getElem_mem hlt, h⟩
      clear hcc
      generalize q[k] = s at *
      cases hs : decide (256 < s.size)
      · have h2 : Hid (anyLong (q.take (k + 1)) = false) := by show anyLong _ = _; rw [HT.out, hid.out, hs]; rfl
        have C : Hid (∀ W, Calls Tryz.prog 77 #[.string s] W fun e w' => e = .returned (.bool false) ∧ W = w') := fun W => by rw [← hs]; exact tooLong_any s W
        clear hs HT HA hid
        go_wp2_with fail
        refine (C.out _).mono ?_
        rintro e w5 ⟨rfl, rfl⟩
        go_wp2_with fail
        go_roundw
        case rel => exact ⟨k + 1, by omega, by go_num, h2, trivial⟩
        case measure => simp [intOf]; omega
      · have h2 : Hid (anyLong q = true) := HA.out hs
        have C : Hid (∀ W, Calls Tryz.prog 77 #[.string s] W fun e w' => e = .returned (.bool true) ∧ W = w') := fun W => by rw [← hs]; exact tooLong_any s W
        clear hs HT HA hid
        go_wp2_with fail
        refine (C.out _).mono ?_
        rintro e w5 ⟨rfl, rfl⟩
        go_wp2_with fail
        go_ret
        exact ⟨⟨k, rfl, by rw [h2.out]; simp⟩, rfl⟩
    · have h2 : Hid (anyLong q = false) := by
        have := hid.out
        rw [List.take_of_length_le (by omega)] at this
        exact this
      clear hcc hid
      go_wp2_with fail
      go_ret
      exact ⟨⟨-1, rfl, by rw [h2.out]; rfl⟩, rfl⟩
set_option maxRecDepth 100000 in
theorem cfunc_long (ao : Option Addr) (q : List ByteArray) (c : Nat) (w : World) {ok : Nat → Prop} (hr : SRow w ok ao q) (hn : q.length ≤ 1048576) :
    Calls Tryz.prog 93 #[.slice ao q.length c, .func (.func 77) #[] #[]] w fun e w' => e = .returned (.bool (anyLong q)) ∧ w = w' := by
  go_enter Tryz.func93, Tryz.ntmps93
  go_wp2_with fail
  refine (ixf_long ao q c w hr hn).mono ?_
  rintro e w1 ⟨⟨i, rfl, hi⟩, rfl⟩
  have HI : Hid (decide (0 ≤ i) = anyLong q) := hi
  clear hr hi
  go_wp2_with fail
  go_ret
  exact ⟨ret_bool HI.out, rfl⟩
def V.map (l : List V) (q : List ByteArray) : V := .mk 7 false 0 0 ByteArray.empty l q
set_option maxRecDepth 100000 in
theorem all_long (q : List ByteArray) : q.all (fun x => decide (x.size ≤ 256)) = !anyLong q := by
  rw [anyLong, List.not_any_eq_all_not]
  congr 1
  funext x
  rw [Bool.eq_iff_iff]; simp
set_option maxRecDepth 100000 in
theorem map_meas (l : List V) (q : List ByteArray) (hq : q.length = l.length) : ((V.mk 7 false 0 0 ByteArray.empty l q).deep = V.deep.go l + 1 ∧ (V.mk 7 false 0 0 ByteArray.empty l q).size = 1 + V.size.go l) ∧ (V.mk 7 false 0 0 ByteArray.empty l q).known = V.known.go l ∧
    (V.mk 7 false 0 0 ByteArray.empty l q).right = (((rightL l && decide (V.deep.go l + 1 ≤ 8)) && decide (l.length ≤ 64)) && !anyLong q) := by
  refine ⟨⟨by simp only [V.deep], by simp only [V.size]⟩, by simp [V.known], ?_⟩
  rw [right_of, ← hq, List.take_length, all_long]; simp
set_option maxRecDepth 100000 in
set_option maxHeartbeats 3200000 in
theorem mapOf_any (ao : Option Addr) (l : List V) (c : Nat) (ka : Option Addr) (q : List ByteArray) (kc : Nat) (w : World) {ok : Nat → Prop} (hk : ∀ b, w.heap.size ≤ b → ok b) (hr : RRow w ok ao l) (hok : SliceOk ao l.length c) (hbk : V.bulk.go l ≤ 1048576)
    (hs : SRow w ok ka q) (hok2 : SliceOk ka q.length kc) (hq : q.length = l.length) (hnd : q.Nodup) :
    Calls Tryz.prog 60 #[.slice ka q.length kc, .slice ao l.length c] w fun e w' => ∃ h, e = .returned (.agg #[h]) ∧ Rep w' ok h (V.map l q) ∧ Below w.heap.size w w' := by
  have hn : q.length ≤ 1048576 := by have := len_le_bulkL l; omega
  have CM : Hid (∀ W, Below w.heap.size w W → Calls Tryz.prog 89 #[.slice ao l.length c] W fun e w' => e = .returned (measL l) ∧ Below W.heap.size W w') := fun W hW => measAll_any ao l c W (hr.below hW) hbk
  have CL : Hid (∀ W, Below w.heap.size w W → Calls Tryz.prog 93 #[.slice ka q.length kc, .func (.func 77) #[] #[]] W fun e w' => e = .returned (.bool (anyLong q)) ∧ W = w') := fun W hW => cfunc_long ka q kc W (hs.below hW) hn
  have CP : Hid (∀ W, Below w.heap.size w W → w.heap.size < W.heap.size → Calls Tryz.prog 57 #[.slice ka q.length kc] W fun e w' => ∃ M, e = .returned (.map (some M)) ∧ w.heap.size ≤ M ∧ M ≠ w.heap.size ∧ Places w' M q ∧ Below W.heap.size W w') := fun W hW hl => by
    refine (places_any ka q kc W (hs.below hW) hn).mono ?_
    rintro e w' ⟨rfl, h1, h2⟩
    exact ⟨_, rfl, hW.size, by omega, Places.of_own hnd h1, h2⟩
  have HR : Hid (∀ (W : World) (B M : Nat), Below w.heap.size w W → w.heap.size ≤ B → PlainT W B 143 → w.heap.size ≤ M → Places W M q → W.cell? ⟨B, 0, none⟩ = some (.int .i64 (V.deep.go l + 1 : Nat)) → W.cell? ⟨B, 1, none⟩ = some (.int .i64 (1 + V.size.go l : Nat)) →
      W.cell? ⟨B, 2, none⟩ = some (.bool (V.known.go l)) → W.cell? ⟨B, 3, none⟩ = some (.bool (((rightL l && decide (V.deep.go l + 1 ≤ 8)) && decide (l.length ≤ 64)) && !anyLong q)) → W.cell? ⟨B, 4, none⟩ = some (.slice ao l.length c) → W.cell? ⟨B, 5, none⟩ = some (.slice ka q.length kc) → W.cell? ⟨B, 6, none⟩ = some (.map (some M)) →
      Rep W ok (.iface 141 (.pointer (some ⟨B, 0, none⟩))) (V.map l q)) := fun W B M hW hB hPB hM hP c0 c1 c2 c3 c4 c5 c6 => by
    obtain ⟨H, h1, h2⟩ := hr.below hW
    obtain ⟨⟨e0, e1⟩, e2, e3⟩ := map_meas l q hq
    exact Rep.map B M l q ao c ka kc H ⟨hk B hB, hPB⟩ (hk M hM) hok hok2 hq (by rw [e0]; exact c0) (by rw [e1]; exact c1) (by rw [e2]; exact c2) (by rw [e3]; exact c3) c4 c5 c6 (hs.below hW) hP h1 h2
  clear hr hok hbk hk hs hok2 hq hnd hn
  unfold measL at CM
  generalize V.deep.go l + 1 = X0 at *
  generalize 1 + V.size.go l = X1 at *
  generalize V.known.go l = X2 at *
  generalize ((rightL l && decide (X0 ≤ 8)) && decide (l.length ≤ 64)) = X3 at *
  generalize anyLong q = X4 at *
  go_enter Tryz.func60, Tryz.ntmps60
  go_wp2_with fail
  refine (CM.out _ ((Below.refl _ _).alloc (Nat.le_refl _) _)).mono ?_
  rintro e w1 ⟨rfl, hb1⟩
  have hz := heap_alloc_new w (.cells #[.nilIface] 34)
  have hz1 := (hb1.block w.heap.size (by simp)).trans hz
  have hlt : w.heap.size < w1.heap.size := (Array.getElem?_eq_some_iff.1 hz1).1
  have hB1 : Below w.heap.size w w1 := ((Below.refl _ _).alloc (Nat.le_refl _) _).trans (hb1.mono (by simp))
  clear hz CM hb1
  cases X3
  · go_upto_region 3 with fail
    obtain ⟨W2, hW2⟩ : ∃ W2, W2 = w1.alloc (.cells #[.int .i64 X0, .int .i64 X1, .bool X2, .bool false] 88) := ⟨_, rfl⟩
    rw [← hW2]
    have hbx : W2.heap[w1.heap.size]? = some (.cells #[.int .i64 X0, .int .i64 X1, .bool X2, .bool false] 88 (0, 0)) := by rw [hW2]; exact heap_alloc_new _ _
    have hz2 : W2.heap[w.heap.size]? = some (.cells #[.nilIface] 34 (0, 0)) := by rw [hW2]; exact (Below.heap_alloc _ _ _ hlt).trans hz1
    have hB2 : Below w.heap.size w W2 := by rw [hW2]; exact hB1.alloc hB1.size _
    have l1 : w1.heap.size < W2.heap.size := (Array.getElem?_eq_some_iff.1 hbx).1
    have l2 : w.heap.size < W2.heap.size := (Array.getElem?_eq_some_iff.1 hz2).1
    have k0 := cell_of_row _ _ 0 _ _ _ hbx
    have k1 := cell_of_row _ _ 1 _ _ _ hbx
    have k2 := cell_of_row _ _ 2 _ _ _ hbx
    have k3 := cell_of_row _ _ 3 _ _ _ hbx
    have z0 := cell_of_row _ _ 0 _ _ _ hz2
    have z1 := frozen_of_row _ _ 0 _ _ hz2
    simp only [List.getElem?_toArray, List.getElem?_cons_zero, List.getElem?_cons_succ] at k0 k1 k2 k3 z0
    have hne : w.heap.size ≠ w1.heap.size := by omega
    clear hbx hW2 hz1 hB1
    go_region_held3 (fun w' => w'.cell? ⟨w1.heap.size, 0, none⟩ = some (.int .i64 X0) ∧ w'.cell? ⟨w1.heap.size, 1, none⟩ = some (.int .i64 X1) ∧ w'.cell? ⟨w1.heap.size, 2, none⟩ = some (.bool X2) ∧ w'.cell? ⟨w1.heap.size, 3, none⟩ = some (.bool false))
      (first | go_keep | exact ⟨s0, s1, s2, s3⟩ | fail)
      (first
        | (go_at_call 57; refine (CP.out _ hB2.drew l2).mono ?_; rintro e w5 ⟨M, rfl, hM, hMne, hP, hb5⟩; have s0 := (hb5.cell (p := ⟨w1.heap.size, 0, none⟩) l1).trans k0; have s1 := (hb5.cell (p := ⟨w1.heap.size, 1, none⟩) l1).trans k1; have s2 := (hb5.cell (p := ⟨w1.heap.size, 2, none⟩) l1).trans k2; have s3 := (hb5.cell (p := ⟨w1.heap.size, 3, none⟩) l1).trans k3; have s4 := (hb5.cell (p := ⟨w.heap.size, 0, none⟩) l2).trans z0; have s5 := (hb5.frozen (p := ⟨w.heap.size, 0, none⟩) l2).trans z1; have l3 : w.heap.size < w5.heap.size := Nat.lt_of_lt_of_le l2 hb5.size; have l4 : w1.heap.size < w5.heap.size := Nat.lt_of_lt_of_le l1 hb5.size)
        | fail)
    have hB5 : Below w.heap.size w w5 := hB2.drew.trans (hb5.mono (Nat.le_of_lt l2))
    have hz5 := (hb5.block w.heap.size l2).trans hz2
    obtain ⟨g1, g2, g3, g4⟩ := res_block (T' := 143) (u := .iface 141 (.pointer (some ⟨w5.heap.size, 0, none⟩))) (cs := #[.int .i64 X0, .int .i64 X1, .bool X2, .bool false, .slice ao l.length c, .slice ka q.length kc, .map (some M)]) hz5 hB5
    have hP2 : Places _ M q := hP.agree (w' := (w5.setCell ⟨w.heap.size, 0, none⟩ (.iface 141 (.pointer (some ⟨w5.heap.size, 0, none⟩)))).alloc (.cells #[.int .i64 X0, .int .i64 X1, .bool X2, .bool false, .slice ao l.length c, .slice ka q.length kc, .map (some M)] 143)) (by
      rw [Below.heap_alloc _ _ _ (by simpa [World.setCell] using hP.lt)]
      exact Below.heap_setCell _ _ _ _ (fun e => hMne (by simpa using e)))
    clear hP
    go_wp2_with fail
    exact bodyPost_ret (v := .agg #[.iface 141 (.pointer (some ⟨w5.heap.size, 0, none⟩))]) (by simp [results, Tryz.results60, go_sem, g2]) rfl ⟨_, rfl, HR.out _ _ M g1 hB5.size g4 hM hP2 (g3 0) (g3 1) (g3 2) (by rw [g3 3]; rfl) (g3 4) (g3 5) (g3 6), g1⟩
  · have hq1 : w1.cell? ⟨w.heap.size, 0, none⟩ = some .nilIface := cell_of_row _ _ 0 _ _ _ hz1
    cases X4
    · go_upto_region 3 with (go_at_call 93; refine (CL.out _ (hB1.alloc hB1.size _)).mono ?_; rintro e w4 ⟨rfl, rfl⟩)
      obtain ⟨W2, hW2⟩ : ∃ W2, W2 = w1.alloc (.cells #[.int .i64 X0, .int .i64 X1, .bool X2, .bool true] 88) := ⟨_, rfl⟩
      rw [← hW2]
      have hbx : W2.heap[w1.heap.size]? = some (.cells #[.int .i64 X0, .int .i64 X1, .bool X2, .bool true] 88 (0, 0)) := by rw [hW2]; exact heap_alloc_new _ _
      have hz2 : W2.heap[w.heap.size]? = some (.cells #[.nilIface] 34 (0, 0)) := by rw [hW2]; exact (Below.heap_alloc _ _ _ hlt).trans hz1
      have hB2 : Below w.heap.size w W2 := by rw [hW2]; exact hB1.alloc hB1.size _
      have l1 : w1.heap.size < W2.heap.size := (Array.getElem?_eq_some_iff.1 hbx).1
      have l2 : w.heap.size < W2.heap.size := (Array.getElem?_eq_some_iff.1 hz2).1
      have k0 := cell_of_row _ _ 0 _ _ _ hbx
      have k1 := cell_of_row _ _ 1 _ _ _ hbx
      have k2 := cell_of_row _ _ 2 _ _ _ hbx
      have k3 := cell_of_row _ _ 3 _ _ _ hbx
      have z0 := cell_of_row _ _ 0 _ _ _ hz2
      have z1 := frozen_of_row _ _ 0 _ _ hz2
      simp only [List.getElem?_toArray, List.getElem?_cons_zero, List.getElem?_cons_succ] at k0 k1 k2 k3 z0
      have hne : w.heap.size ≠ w1.heap.size := by omega
      clear hbx hW2 hz1 hB1
      go_region_held3 (fun w' => w'.cell? ⟨w1.heap.size, 0, none⟩ = some (.int .i64 X0) ∧ w'.cell? ⟨w1.heap.size, 1, none⟩ = some (.int .i64 X1) ∧ w'.cell? ⟨w1.heap.size, 2, none⟩ = some (.bool X2) ∧ w'.cell? ⟨w1.heap.size, 3, none⟩ = some (.bool true))
        (first | go_keep | exact ⟨s0, s1, s2, s3⟩ | fail)
        (first
          | (go_at_call 57; refine (CP.out _ hB2.drew l2).mono ?_; rintro e w5 ⟨M, rfl, hM, hMne, hP, hb5⟩; have s0 := (hb5.cell (p := ⟨w1.heap.size, 0, none⟩) l1).trans k0; have s1 := (hb5.cell (p := ⟨w1.heap.size, 1, none⟩) l1).trans k1; have s2 := (hb5.cell (p := ⟨w1.heap.size, 2, none⟩) l1).trans k2; have s3 := (hb5.cell (p := ⟨w1.heap.size, 3, none⟩) l1).trans k3; have s4 := (hb5.cell (p := ⟨w.heap.size, 0, none⟩) l2).trans z0; have s5 := (hb5.frozen (p := ⟨w.heap.size, 0, none⟩) l2).trans z1; have l3 : w.heap.size < w5.heap.size := Nat.lt_of_lt_of_le l2 hb5.size; have l4 : w1.heap.size < w5.heap.size := Nat.lt_of_lt_of_le l1 hb5.size)
          | fail)
      have hB5 : Below w.heap.size w w5 := hB2.drew.trans (hb5.mono (Nat.le_of_lt l2))
      have hz5 := (hb5.block w.heap.size l2).trans hz2
      obtain ⟨g1, g2, g3, g4⟩ := res_block (T' := 143) (u := .iface 141 (.pointer (some ⟨w5.heap.size, 0, none⟩))) (cs := #[.int .i64 X0, .int .i64 X1, .bool X2, .bool true, .slice ao l.length c, .slice ka q.length kc, .map (some M)]) hz5 hB5
      have hP2 : Places _ M q := hP.agree (w' := (w5.setCell ⟨w.heap.size, 0, none⟩ (.iface 141 (.pointer (some ⟨w5.heap.size, 0, none⟩)))).alloc (.cells #[.int .i64 X0, .int .i64 X1, .bool X2, .bool true, .slice ao l.length c, .slice ka q.length kc, .map (some M)] 143)) (by
        rw [Below.heap_alloc _ _ _ (by simpa [World.setCell] using hP.lt)]
        exact Below.heap_setCell _ _ _ _ (fun e => hMne (by simpa using e)))
      clear hP
      go_wp2_with fail
      exact bodyPost_ret (v := .agg #[.iface 141 (.pointer (some ⟨w5.heap.size, 0, none⟩))]) (by simp [results, Tryz.results60, go_sem, g2]) rfl ⟨_, rfl, HR.out _ _ M g1 hB5.size g4 hM hP2 (g3 0) (g3 1) (g3 2) (by rw [g3 3]; rfl) (g3 4) (g3 5) (g3 6), g1⟩
    · go_upto_region 3 with (go_at_call 93; refine (CL.out _ (hB1.alloc hB1.size _)).mono ?_; rintro e w4 ⟨rfl, rfl⟩)
      obtain ⟨W2, hW2⟩ : ∃ W2, W2 = w1.alloc (.cells #[.int .i64 X0, .int .i64 X1, .bool X2, .bool false] 88) := ⟨_, rfl⟩
      rw [← hW2]
      have hbx : W2.heap[w1.heap.size]? = some (.cells #[.int .i64 X0, .int .i64 X1, .bool X2, .bool false] 88 (0, 0)) := by rw [hW2]; exact heap_alloc_new _ _
      have hz2 : W2.heap[w.heap.size]? = some (.cells #[.nilIface] 34 (0, 0)) := by rw [hW2]; exact (Below.heap_alloc _ _ _ hlt).trans hz1
      have hB2 : Below w.heap.size w W2 := by rw [hW2]; exact hB1.alloc hB1.size _
      have l1 : w1.heap.size < W2.heap.size := (Array.getElem?_eq_some_iff.1 hbx).1
      have l2 : w.heap.size < W2.heap.size := (Array.getElem?_eq_some_iff.1 hz2).1
      have k0 := cell_of_row _ _ 0 _ _ _ hbx
      have k1 := cell_of_row _ _ 1 _ _ _ hbx
      have k2 := cell_of_row _ _ 2 _ _ _ hbx
      have k3 := cell_of_row _ _ 3 _ _ _ hbx
      have z0 := cell_of_row _ _ 0 _ _ _ hz2
      have z1 := frozen_of_row _ _ 0 _ _ hz2
      simp only [List.getElem?_toArray, List.getElem?_cons_zero, List.getElem?_cons_succ] at k0 k1 k2 k3 z0
      have hne : w.heap.size ≠ w1.heap.size := by omega
      clear hbx hW2 hz1 hB1
      go_region_held3 (fun w' => w'.cell? ⟨w1.heap.size, 0, none⟩ = some (.int .i64 X0) ∧ w'.cell? ⟨w1.heap.size, 1, none⟩ = some (.int .i64 X1) ∧ w'.cell? ⟨w1.heap.size, 2, none⟩ = some (.bool X2) ∧ w'.cell? ⟨w1.heap.size, 3, none⟩ = some (.bool false))
        (first | go_keep | exact ⟨s0, s1, s2, s3⟩ | fail)
        (first
          | (go_at_call 57; refine (CP.out _ hB2.drew l2).mono ?_; rintro e w5 ⟨M, rfl, hM, hMne, hP, hb5⟩; have s0 := (hb5.cell (p := ⟨w1.heap.size, 0, none⟩) l1).trans k0; have s1 := (hb5.cell (p := ⟨w1.heap.size, 1, none⟩) l1).trans k1; have s2 := (hb5.cell (p := ⟨w1.heap.size, 2, none⟩) l1).trans k2; have s3 := (hb5.cell (p := ⟨w1.heap.size, 3, none⟩) l1).trans k3; have s4 := (hb5.cell (p := ⟨w.heap.size, 0, none⟩) l2).trans z0; have s5 := (hb5.frozen (p := ⟨w.heap.size, 0, none⟩) l2).trans z1; have l3 : w.heap.size < w5.heap.size := Nat.lt_of_lt_of_le l2 hb5.size; have l4 : w1.heap.size < w5.heap.size := Nat.lt_of_lt_of_le l1 hb5.size)
          | fail)
      have hB5 : Below w.heap.size w w5 := hB2.drew.trans (hb5.mono (Nat.le_of_lt l2))
      have hz5 := (hb5.block w.heap.size l2).trans hz2
      obtain ⟨g1, g2, g3, g4⟩ := res_block (T' := 143) (u := .iface 141 (.pointer (some ⟨w5.heap.size, 0, none⟩))) (cs := #[.int .i64 X0, .int .i64 X1, .bool X2, .bool false, .slice ao l.length c, .slice ka q.length kc, .map (some M)]) hz5 hB5
      have hP2 : Places _ M q := hP.agree (w' := (w5.setCell ⟨w.heap.size, 0, none⟩ (.iface 141 (.pointer (some ⟨w5.heap.size, 0, none⟩)))).alloc (.cells #[.int .i64 X0, .int .i64 X1, .bool X2, .bool false, .slice ao l.length c, .slice ka q.length kc, .map (some M)] 143)) (by
        rw [Below.heap_alloc _ _ _ (by simpa [World.setCell] using hP.lt)]
        exact Below.heap_setCell _ _ _ _ (fun e => hMne (by simpa using e)))
      clear hP
      go_wp2_with fail
      exact bodyPost_ret (v := .agg #[.iface 141 (.pointer (some ⟨w5.heap.size, 0, none⟩))]) (by simp [results, Tryz.results60, go_sem, g2]) rfl ⟨_, rfl, HR.out _ _ M g1 hB5.size g4 hM hP2 (g3 0) (g3 1) (g3 2) (by rw [g3 3]; rfl) (g3 4) (g3 5) (g3 6), g1⟩
end Go.Proofs.YtepohbcpepkboaaGreat

namespace Go.Proofs.YtepohbcpepkboaaGreat
open Go.Shelf Go.Proofs
def keysL_ren : Go.Shelf.Ren := ⟨fun | 7 => 59 | 10 => 92 | n => n, fun | 23 => 113 | 26 => 9 | 3 => 3 | 28 => 117 | 0 => 0 | 27 => 116 | 33 => 144 | 4 => 4 | n => n, fun | n => n⟩
set_option maxRecDepth 100000 in
theorem keysL : Go.Proofs.SlLaysZ.n7 Tryz.prog keysL_ren := {
  mixed := by kernel_rfl
  f7 := ⟨Tryz.f59.name, by decide, Tryz.func59.trans (congrArg some (by kernel_rfl))⟩
  f10 := ⟨Tryz.f92.name, by decide, Tryz.func92.trans (congrArg some (by kernel_rfl))⟩
  t0 := Tryz.underlying0
  a0 := Tryz.isAgg0
  z0 := Tryz.sizeOf0
  v0 := Tryz.zeroValue0
  t4 := Tryz.underlying4
  a4 := Tryz.isAgg4
  z4 := Tryz.sizeOf4
  v4 := Tryz.zeroValue4
  t23 := Tryz.underlying113
  a23 := Tryz.isAgg113
  z23 := Tryz.sizeOf113
  v23 := Tryz.zeroValue113
  t26 := Tryz.underlying9
  a26 := Tryz.isAgg9
  z26 := Tryz.sizeOf9
  v26 := Tryz.zeroValue9
  t27 := Tryz.underlying116
  a27 := Tryz.isAgg116
  z27 := Tryz.sizeOf116
  v27 := Tryz.zeroValue116
  t28 := Tryz.underlying117
  a28 := Tryz.isAgg117
  z28 := Tryz.sizeOf117
  v28 := Tryz.zeroValue117
  t33 := Tryz.underlying144
  a33 := Tryz.isAgg144
  z33 := Tryz.sizeOf144
  v33 := Tryz.zeroValue144 }
def sortedL_ren : Go.Shelf.Ren := ⟨fun | 6 => 58 | 8 => 90 | 9 => 91 | 11 => 104 | 13 => 106 | 12 => 105 | 23 => 120 | 24 => 121 | 14 => 111 | 15 => 112 | 16 => 113 | 17 => 114 | 18 => 115 | 19 => 116 | 20 => 117 | 21 => 118 | 22 => 119 | 25 => 123 | 26 => 124 | 27 => 125 | 28 => 126 | 29 => 127 | 30 => 128 | 31 => 129 | n => n, fun | 26 => 9 | 28 => 117 | 24 => 23 | 0 => 0 | 3 => 3 | 37 => 167 | 48 => 190 | 50 => 120 | 4 => 4 | 40 => 183 | 39 => 182 | 45 => 55 | 5 => 5 | 9 => 9 | 51 => 192 | 55 => 196 | 57 => 198 | 58 => 199 | 33 => 144 | n => n, fun | n => n⟩
set_option maxRecDepth 100000 in
theorem sortedL : Go.Proofs.SlLaysZ.n6 Tryz.prog sortedL_ren := {
  mixed := by kernel_rfl
  f6 := ⟨Tryz.f58.name, by decide, Tryz.func58.trans (congrArg some (by kernel_rfl))⟩
  f8 := ⟨Tryz.f90.name, by decide, Tryz.func90.trans (congrArg some (by kernel_rfl))⟩
  f11 := ⟨Tryz.f104.name, by decide, Tryz.func104.trans (congrArg some (by kernel_rfl))⟩
  t0 := Tryz.underlying0
  a0 := Tryz.isAgg0
  z0 := Tryz.sizeOf0
  v0 := Tryz.zeroValue0
  t24 := Tryz.underlying23
  a24 := Tryz.isAgg23
  z24 := Tryz.sizeOf23
  v24 := Tryz.zeroValue23
  t26 := Tryz.underlying9
  a26 := Tryz.isAgg9
  z26 := Tryz.sizeOf9
  v26 := Tryz.zeroValue9
  t28 := Tryz.underlying117
  a28 := Tryz.isAgg117
  z28 := Tryz.sizeOf117
  v28 := Tryz.zeroValue117
  i26 := by kernel_rfl }
def sortL_ren : Go.Shelf.Ren := ⟨fun | 6 => 91 | 8 => 106 | 9 => 105 | 19 => 120 | 20 => 121 | 21 => 111 | 22 => 112 | 23 => 113 | 24 => 114 | 25 => 115 | 26 => 116 | 27 => 117 | 28 => 118 | 29 => 119 | 36 => 123 | 31 => 124 | 32 => 125 | 37 => 126 | 38 => 127 | 39 => 128 | 41 => 129 | n => n, fun | 27 => 23 | 29 => 9 | 3 => 3 | 32 => 167 | 26 => 23 | 0 => 0 | 44 => 190 | 46 => 120 | 4 => 4 | 36 => 183 | 35 => 182 | 41 => 55 | 5 => 5 | 9 => 9 | 53 => 192 | 57 => 196 | 63 => 198 | 64 => 199 | n => n, fun | n => n⟩
set_option maxRecDepth 100000 in
theorem sortL : Go.Proofs.SlLaysM.n6 Tryz.prog sortL_ren := {
  mixed := by kernel_rfl
  f6 := ⟨Tryz.f91.name, by decide, Tryz.func91.trans (congrArg some (by kernel_rfl))⟩
  f8 := Tryz.func106.trans (congrArg some (by kernel_rfl))
  f9 := ⟨Tryz.f105.name, by decide, Tryz.func105.trans (congrArg some (by kernel_rfl))⟩
  f19 := Tryz.func120.trans (congrArg some (by kernel_rfl))
  f20 := Tryz.func121.trans (congrArg some (by kernel_rfl))
  f21 := ⟨Tryz.f111.name, by decide, Tryz.func111.trans (congrArg some (by kernel_rfl))⟩
  f22 := ⟨Tryz.f112.name, by decide, Tryz.func112.trans (congrArg some (by kernel_rfl))⟩
  f23 := ⟨Tryz.f113.name, by decide, Tryz.func113.trans (congrArg some (by kernel_rfl))⟩
  f24 := ⟨Tryz.f114.name, by decide, Tryz.func114.trans (congrArg some (by kernel_rfl))⟩
  f25 := ⟨Tryz.f115.name, by decide, Tryz.func115.trans (congrArg some (by kernel_rfl))⟩
  f26 := ⟨Tryz.f116.name, by decide, Tryz.func116.trans (congrArg some (by kernel_rfl))⟩
  f27 := ⟨Tryz.f117.name, by decide, Tryz.func117.trans (congrArg some (by kernel_rfl))⟩
  f28 := ⟨Tryz.f118.name, by decide, Tryz.func118.trans (congrArg some (by kernel_rfl))⟩
  f29 := ⟨Tryz.f119.name, by decide, Tryz.func119.trans (congrArg some (by kernel_rfl))⟩
  f31 := Tryz.func124.trans (congrArg some (by kernel_rfl))
  f32 := Tryz.func125.trans (congrArg some (by kernel_rfl))
  f36 := ⟨Tryz.f123.name, by decide, Tryz.func123.trans (congrArg some (by kernel_rfl))⟩
  f37 := ⟨Tryz.f126.name, by decide, Tryz.func126.trans (congrArg some (by kernel_rfl))⟩
  f38 := ⟨Tryz.f127.name, by decide, Tryz.func127.trans (congrArg some (by kernel_rfl))⟩
  f39 := ⟨Tryz.f128.name, by decide, Tryz.func128.trans (congrArg some (by kernel_rfl))⟩
  f41 := ⟨Tryz.f129.name, by decide, Tryz.func129.trans (congrArg some (by kernel_rfl))⟩
  t0 := Tryz.underlying0
  a0 := Tryz.isAgg0
  z0 := Tryz.sizeOf0
  v0 := Tryz.zeroValue0
  t3 := Tryz.underlying3
  a3 := Tryz.isAgg3
  z3 := Tryz.sizeOf3
  v3 := Tryz.zeroValue3
  t4 := Tryz.underlying4
  a4 := Tryz.isAgg4
  z4 := Tryz.sizeOf4
  v4 := Tryz.zeroValue4
  t5 := Tryz.underlying5
  a5 := Tryz.isAgg5
  z5 := Tryz.sizeOf5
  v5 := Tryz.zeroValue5
  t9 := Tryz.underlying9
  a9 := Tryz.isAgg9
  z9 := Tryz.sizeOf9
  v9 := Tryz.zeroValue9
  t26 := Tryz.underlying23
  a26 := Tryz.isAgg23
  z26 := Tryz.sizeOf23
  v26 := Tryz.zeroValue23
  t27 := Tryz.underlying23
  a27 := Tryz.isAgg23
  z27 := Tryz.sizeOf23
  v27 := Tryz.zeroValue23
  t29 := Tryz.underlying9
  a29 := Tryz.isAgg9
  z29 := Tryz.sizeOf9
  v29 := Tryz.zeroValue9
  t32 := Tryz.underlying167
  a32 := Tryz.isAgg167
  z32 := Tryz.sizeOf167
  v32 := Tryz.zeroValue167
  t35 := Tryz.underlying182
  a35 := Tryz.isAgg182
  z35 := Tryz.sizeOf182
  v35 := Tryz.zeroValue182
  t36 := Tryz.underlying183
  a36 := Tryz.isAgg183
  z36 := Tryz.sizeOf183
  v36 := Tryz.zeroValue183
  t41 := Tryz.underlying55
  a41 := Tryz.isAgg55
  z41 := Tryz.sizeOf55
  v41 := Tryz.zeroValue55
  t44 := Tryz.underlying190
  a44 := Tryz.isAgg190
  z44 := Tryz.sizeOf190
  v44 := Tryz.zeroValue190
  t46 := Tryz.underlying120
  a46 := Tryz.isAgg120
  z46 := Tryz.sizeOf120
  v46 := Tryz.zeroValue120
  t53 := Tryz.underlying192
  a53 := Tryz.isAgg192
  z53 := Tryz.sizeOf192
  v53 := Tryz.zeroValue192
  t57 := Tryz.underlying196
  a57 := Tryz.isAgg196
  z57 := Tryz.sizeOf196
  v57 := Tryz.zeroValue196
  t63 := Tryz.underlying198
  a63 := Tryz.isAgg198
  z63 := Tryz.sizeOf198
  v63 := Tryz.zeroValue198
  t64 := Tryz.underlying199
  a64 := Tryz.isAgg199
  z64 := Tryz.sizeOf199
  v64 := Tryz.zeroValue199 }
end Go.Proofs.YtepohbcpepkboaaGreat

