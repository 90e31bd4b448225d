/- What mapOf makes of keys and values. Conditions: they lie in memory, as many keys as values, none twice, at most 1048576 values and letters. -/
import Derived.Test.YtigdcnoggjcddaaVPlaces
import Derived.Deep.RegionHeld3
import Derived.Deep.CutRange
namespace Go.Proofs.Ytigdcnoggjcddaa
open Go.RowKit Go.Maps

def anyLong (q : List ByteArray) : Bool := q.any (fun x => decide (256 < x.size))
set_option maxRecDepth 100000 in
set_option maxHeartbeats 1600000 in
theorem ixf_long (ao : Option Addr) (q : List ByteArray) (c : Nat) (w : World) {ok : Nat → Prop} (hr : SRow w ok ao q) (hn : q.length ≤ 1048576) :
    Calls Try.prog 97 #[.slice ao q.length c, .func (.func 72) #[] #[]] w fun e w' => (∃ i : Int, e = .returned (.int .i64 i) ∧ decide (0 ≤ i) = anyLong q) ∧ w = w' := by
  by_cases hz : q = []
  · subst hz
    clear hr
    go_enter Try.func97, Try.ntmps97
    go_wp2_with fail
    refine wp_loop_rounds 1 ?_
    rw [rounds_succ]
    go_wp2_with fail
    go_ret
    exact ⟨⟨-1, rfl, rfl⟩, rfl⟩
  obtain ⟨bl, off, rfl, -, hcc⟩ := hr.2 hz
  clear hr hz
  go_enter Try.func97, Try.ntmps97
  go_wp2_with fail
  go_loopw [8] (fun si wr => ∃ k : Nat, k ≤ q.length ∧ si = .int .i64 k ∧ Hid (anyLong (q.take k) = false) ∧ w = wr) (fun si _ => q.length - (intOf si).toNat)
  case atStart => exact ⟨0, by omega, rfl, rfl, rfl⟩
  case round =>
    obtain ⟨k, hk, rfl, hid, rfl⟩ := hrel
    by_cases hlt : k < q.length
    · have c0 := hcc k hlt
      have HT : Hid (anyLong (q.take (k + 1)) = (anyLong (q.take k) || decide (256 < q[k].size))) := by
        show anyLong _ = _
        rw [List.take_succ_eq_append_getElem hlt, anyLong, List.any_append]; simp [anyLong]
      have HA : Hid (decide (256 < q[k].size) = true → anyLong q = true) := fun h => by
        rw [anyLong, List.any_eq_true]
        exact ⟨_, List.getElem_mem hlt, h⟩
      clear hcc
      generalize q[k] = s at *
      cases hs : decide (256 < s.size)
      · have h2 : Hid (anyLong (q.take (k + 1)) = false) := by show anyLong _ = _; rw [HT.out, hid.out, hs]; rfl
        have C : Hid (∀ W, Calls Try.prog 72 #[.string s] W fun e w' => e = .returned (.bool false) ∧ W = w') := fun W => by rw [← hs]; exact tooLong_any s W
        clear hs HT HA hid
        go_wp2_with fail
        refine (C.out _).mono ?_
        rintro e w5 ⟨rfl, rfl⟩
        go_wp2_with fail
        go_roundw
        case rel => exact ⟨k + 1, by omega, by go_num, h2, trivial⟩
        case measure => simp [intOf]; omega
      · have h2 : Hid (anyLong q = true) := HA.out hs
        have C : Hid (∀ W, Calls Try.prog 72 #[.string s] W fun e w' => e = .returned (.bool true) ∧ W = w') := fun W => by rw [← hs]; exact tooLong_any s W
        clear hs HT HA hid
        go_wp2_with fail
        refine (C.out _).mono ?_
        rintro e w5 ⟨rfl, rfl⟩
        go_wp2_with fail
        go_ret
        exact ⟨⟨k, rfl, by rw [h2.out]; simp⟩, rfl⟩
    · have h2 : Hid (anyLong q = false) := by
        have := hid.out
        rw [List.take_of_length_le (by omega)] at this
        exact this
      clear hcc hid
      go_wp2_with fail
      go_ret
      exact ⟨⟨-1, rfl, by rw [h2.out]; rfl⟩, rfl⟩
set_option maxRecDepth 100000 in
theorem cfunc_long (ao : Option Addr) (q : List ByteArray) (c : Nat) (w : World) {ok : Nat → Prop} (hr : SRow w ok ao q) (hn : q.length ≤ 1048576) :
    Calls Try.prog 86 #[.slice ao q.length c, .func (.func 72) #[] #[]] w fun e w' => e = .returned (.bool (anyLong q)) ∧ w = w' := by
  go_enter Try.func86, Try.ntmps86
  go_wp2_with fail
  refine (ixf_long ao q c w hr hn).mono ?_
  rintro e w1 ⟨⟨i, rfl, hi⟩, rfl⟩
  have HI : Hid (decide (0 ≤ i) = anyLong q) := hi
  clear hr hi
  go_wp2_with fail
  go_ret
  exact ⟨ret_bool HI.out, rfl⟩
def V.map (l : List V) (q : List ByteArray) : V := .mk 7 false 0 0 ByteArray.empty l q
set_option maxRecDepth 100000 in
theorem all_long (q : List ByteArray) : q.all (fun x => decide (x.size ≤ 256)) = !anyLong q := by
  rw [anyLong, List.not_any_eq_all_not]
  congr 1
  funext x
  rw [Bool.eq_iff_iff]; simp
set_option maxRecDepth 100000 in
theorem map_meas (l : List V) (q : List ByteArray) (hq : q.length = l.length) : ((V.mk 7 false 0 0 ByteArray.empty l q).deep = V.deep.go l + 1 ∧ (V.mk 7 false 0 0 ByteArray.empty l q).size = 1 + V.size.go l) ∧ (V.mk 7 false 0 0 ByteArray.empty l q).known = V.known.go l ∧
    (V.mk 7 false 0 0 ByteArray.empty l q).right = (((rightL l && decide (V.deep.go l + 1 ≤ 8)) && decide (l.length ≤ 64)) && !anyLong q) := by
  refine ⟨⟨by simp only [V.deep], by simp only [V.size]⟩, by simp [V.known], ?_⟩
  rw [right_of, ← hq, List.take_length, all_long]; simp
set_option maxRecDepth 100000 in
set_option maxHeartbeats 3200000 in
theorem mapOf_any (ao : Option Addr) (l : List V) (c : Nat) (ka : Option Addr) (q : List ByteArray) (kc : Nat) (w : World) {ok : Nat → Prop} (hk : ∀ b, w.heap.size ≤ b → ok b) (hr : RRow w ok ao l) (hok : SliceOk ao l.length c) (hbk : V.bulk.go l ≤ 1048576)
    (hs : SRow w ok ka q) (hok2 : SliceOk ka q.length kc) (hq : q.length = l.length) (hnd : q.Nodup) :
    Calls Try.prog 62 #[.slice ka q.length kc, .slice ao l.length c] w fun e w' => ∃ h, e = .returned (.agg #[h]) ∧ Rep w' ok h (V.map l q) ∧ Below w.heap.size w w' := by
  have hn : q.length ≤ 1048576 := by have := len_le_bulkL l; omega
  have CM : Hid (∀ W, Below w.heap.size w W → Calls Try.prog 85 #[.slice ao l.length c] W fun e w' => e = .returned (measL l) ∧ Below W.heap.size W w') := fun W hW => measAll_any ao l c W (hr.below hW) hbk
  have CL : Hid (∀ W, Below w.heap.size w W → Calls Try.prog 86 #[.slice ka q.length kc, .func (.func 72) #[] #[]] W fun e w' => e = .returned (.bool (anyLong q)) ∧ W = w') := fun W hW => cfunc_long ka q kc W (hs.below hW) hn
  have CP : Hid (∀ W, Below w.heap.size w W → w.heap.size < W.heap.size → Calls Try.prog 59 #[.slice ka q.length kc] W fun e w' => ∃ M, e = .returned (.map (some M)) ∧ w.heap.size ≤ M ∧ M ≠ w.heap.size ∧ Places w' M q ∧ Below W.heap.size W w') := fun W hW hl => by
    refine (places_any ka q kc W (hs.below hW) hn).mono ?_
    rintro e w' ⟨rfl, h1, h2⟩
    exact ⟨_, rfl, hW.size, by omega, Places.of_own hnd h1, h2⟩
  have HR : Hid (∀ (W : World) (B M : Nat), Below w.heap.size w W → w.heap.size ≤ B → PlainT W B 117 → w.heap.size ≤ M → Places W M q → W.cell? ⟨B, 0, none⟩ = some (.int .i64 (V.deep.go l + 1 : Nat)) → W.cell? ⟨B, 1, none⟩ = some (.int .i64 (1 + V.size.go l : Nat)) →
      W.cell? ⟨B, 2, none⟩ = some (.bool (V.known.go l)) → W.cell? ⟨B, 3, none⟩ = some (.bool (((rightL l && decide (V.deep.go l + 1 ≤ 8)) && decide (l.length ≤ 64)) && !anyLong q)) → W.cell? ⟨B, 4, none⟩ = some (.slice ao l.length c) → W.cell? ⟨B, 5, none⟩ = some (.slice ka q.length kc) → W.cell? ⟨B, 6, none⟩ = some (.map (some M)) →
      Rep W ok (.iface 114 (.pointer (some ⟨B, 0, none⟩))) (V.map l q)) := fun W B M hW hB hPB hM hP c0 c1 c2 c3 c4 c5 c6 => by
    obtain ⟨H, h1, h2⟩ := hr.below hW
    obtain ⟨⟨e0, e1⟩, e2, e3⟩ := map_meas l q hq
    exact Rep.map B M l q ao c ka kc H ⟨hk B hB, hPB⟩ (hk M hM) hok hok2 hq (by rw [e0]; exact c0) (by rw [e1]; exact c1) (by rw [e2]; exact c2) (by rw [e3]; exact c3) c4 c5 c6 (hs.below hW) hP h1 h2
  clear hr hok hbk hk hs hok2 hq hnd hn
  unfold measL at CM
  generalize V.deep.go l + 1 = X0 at *
  generalize 1 + V.size.go l = X1 at *
  generalize V.known.go l = X2 at *
  generalize ((rightL l && decide (X0 ≤ 8)) && decide (l.length ≤ 64)) = X3 at *
  generalize anyLong q = X4 at *
  go_enter Try.func62, Try.ntmps62
  go_wp2_with fail
  refine (CM.out _ ((Below.refl _ _).alloc (Nat.le_refl _) _)).mono ?_
  rintro e w1 ⟨rfl, hb1⟩
  have hz := heap_alloc_new w (.cells #[.nilIface] 30)
  have hz1 := (hb1.block w.heap.size (by simp)).trans hz
  have hlt : w.heap.size < w1.heap.size := (Array.getElem?_eq_some_iff.1 hz1).1
  have hB1 : Below w.heap.size w w1 := ((Below.refl _ _).alloc (Nat.le_refl _) _).trans (hb1.mono (by simp))
  clear hz CM hb1
  cases X3
  · go_upto_region 3 with fail
    obtain ⟨W2, hW2⟩ : ∃ W2, W2 = w1.alloc (.cells #[.int .i64 X0, .int .i64 X1, .bool X2, .bool false] 78) := ⟨_, rfl⟩
    rw [← hW2]
    have hbx : W2.heap[w1.heap.size]? = some (.cells #[.int .i64 X0, .int .i64 X1, .bool X2, .bool false] 78 (0, 0)) := by rw [hW2]; exact heap_alloc_new _ _
    have hz2 : W2.heap[w.heap.size]? = some (.cells #[.nilIface] 30 (0, 0)) := by rw [hW2]; exact (Below.heap_alloc _ _ _ hlt).trans hz1
    have hB2 : Below w.heap.size w W2 := by rw [hW2]; exact hB1.alloc hB1.size _
    have l1 : w1.heap.size < W2.heap.size := (Array.getElem?_eq_some_iff.1 hbx).1
    have l2 : w.heap.size < W2.heap.size := (Array.getElem?_eq_some_iff.1 hz2).1
    have k0 := cell_of_row _ _ 0 _ _ _ hbx
    have k1 := cell_of_row _ _ 1 _ _ _ hbx
    have k2 := cell_of_row _ _ 2 _ _ _ hbx
    have k3 := cell_of_row _ _ 3 _ _ _ hbx
    have z0 := cell_of_row _ _ 0 _ _ _ hz2
    have z1 := frozen_of_row _ _ 0 _ _ hz2
    simp only [List.getElem?_toArray, List.getElem?_cons_zero, List.getElem?_cons_succ] at k0 k1 k2 k3 z0
    have hne : w.heap.size ≠ w1.heap.size := by omega
    clear hbx hW2 hz1 hB1
    go_region_held3 (fun w' => w'.cell? ⟨w1.heap.size, 0, none⟩ = some (.int .i64 X0) ∧ w'.cell? ⟨w1.heap.size, 1, none⟩ = some (.int .i64 X1) ∧ w'.cell? ⟨w1.heap.size, 2, none⟩ = some (.bool X2) ∧ w'.cell? ⟨w1.heap.size, 3, none⟩ = some (.bool false))
      (first | go_keep | exact ⟨s0, s1, s2, s3⟩ | fail)
      (first
        | (go_at_call 59; refine (CP.out _ hB2.drew l2).mono ?_; rintro e w5 ⟨M, rfl, hM, hMne, hP, hb5⟩; have s0 := (hb5.cell (p := ⟨w1.heap.size, 0, none⟩) l1).trans k0; have s1 := (hb5.cell (p := ⟨w1.heap.size, 1, none⟩) l1).trans k1; have s2 := (hb5.cell (p := ⟨w1.heap.size, 2, none⟩) l1).trans k2; have s3 := (hb5.cell (p := ⟨w1.heap.size, 3, none⟩) l1).trans k3; have s4 := (hb5.cell (p := ⟨w.heap.size, 0, none⟩) l2).trans z0; have s5 := (hb5.frozen (p := ⟨w.heap.size, 0, none⟩) l2).trans z1; have l3 : w.heap.size < w5.heap.size := Nat.lt_of_lt_of_le l2 hb5.size; have l4 : w1.heap.size < w5.heap.size := Nat.lt_of_lt_of_le l1 hb5.size)
        | fail)
    have hB5 : Below w.heap.size w w5 := hB2.drew.trans (hb5.mono (Nat.le_of_lt l2))
    have hz5 := (hb5.block w.heap.size l2).trans hz2
    obtain ⟨g1, g2, g3, g4⟩ := res_block (T' := 117) (u := .iface 114 (.pointer (some ⟨w5.heap.size, 0, none⟩))) (cs := #[.int .i64 X0, .int .i64 X1, .bool X2, .bool false, .slice ao l.length c, .slice ka q.length kc, .map (some M)]) hz5 hB5
    have hP2 : Places _ M q := hP.agree (w' := (w5.setCell ⟨w.heap.size, 0, none⟩ (.iface 114 (.pointer (some ⟨w5.heap.size, 0, none⟩)))).alloc (.cells #[.int .i64 X0, .int .i64 X1, .bool X2, .bool false, .slice ao l.length c, .slice ka q.length kc, .map (some M)] 117)) (by
      rw [Below.heap_alloc _ _ _ (by simpa [World.setCell] using hP.lt)]
      exact Below.heap_setCell _ _ _ _ (fun e => hMne (by simpa using e)))
    clear hP
    go_wp2_with fail
    exact bodyPost_ret (v := .agg #[.iface 114 (.pointer (some ⟨w5.heap.size, 0, none⟩))]) (by simp [results, Try.results62, go_sem, g2]) rfl ⟨_, rfl, HR.out _ _ M g1 hB5.size g4 hM hP2 (g3 0) (g3 1) (g3 2) (by rw [g3 3]; rfl) (g3 4) (g3 5) (g3 6), g1⟩
  · have hq1 : w1.cell? ⟨w.heap.size, 0, none⟩ = some .nilIface := cell_of_row _ _ 0 _ _ _ hz1
    cases X4
    · go_upto_region 3 with (go_at_call 86; refine (CL.out _ (hB1.alloc hB1.size _)).mono ?_; rintro e w4 ⟨rfl, rfl⟩)
      obtain ⟨W2, hW2⟩ : ∃ W2, W2 = w1.alloc (.cells #[.int .i64 X0, .int .i64 X1, .bool X2, .bool true] 78) := ⟨_, rfl⟩
      rw [← hW2]
      have hbx : W2.heap[w1.heap.size]? = some (.cells #[.int .i64 X0, .int .i64 X1, .bool X2, .bool true] 78 (0, 0)) := by rw [hW2]; exact heap_alloc_new _ _
      have hz2 : W2.heap[w.heap.size]? = some (.cells #[.nilIface] 30 (0, 0)) := by rw [hW2]; exact (Below.heap_alloc _ _ _ hlt).trans hz1
      have hB2 : Below w.heap.size w W2 := by rw [hW2]; exact hB1.alloc hB1.size _
      have l1 : w1.heap.size < W2.heap.size := (Array.getElem?_eq_some_iff.1 hbx).1
      have l2 : w.heap.size < W2.heap.size := (Array.getElem?_eq_some_iff.1 hz2).1
      have k0 := cell_of_row _ _ 0 _ _ _ hbx
      have k1 := cell_of_row _ _ 1 _ _ _ hbx
      have k2 := cell_of_row _ _ 2 _ _ _ hbx
      have k3 := cell_of_row _ _ 3 _ _ _ hbx
      have z0 := cell_of_row _ _ 0 _ _ _ hz2
      have z1 := frozen_of_row _ _ 0 _ _ hz2
      simp only [List.getElem?_toArray, List.getElem?_cons_zero, List.getElem?_cons_succ] at k0 k1 k2 k3 z0
      have hne : w.heap.size ≠ w1.heap.size := by omega
      clear hbx hW2 hz1 hB1
      go_region_held3 (fun w' => w'.cell? ⟨w1.heap.size, 0, none⟩ = some (.int .i64 X0) ∧ w'.cell? ⟨w1.heap.size, 1, none⟩ = some (.int .i64 X1) ∧ w'.cell? ⟨w1.heap.size, 2, none⟩ = some (.bool X2) ∧ w'.cell? ⟨w1.heap.size, 3, none⟩ = some (.bool true))
        (first | go_keep | exact ⟨s0, s1, s2, s3⟩ | fail)
        (first
          | (go_at_call 59; refine (CP.out _ hB2.drew l2).mono ?_; rintro e w5 ⟨M, rfl, hM, hMne, hP, hb5⟩; have s0 := (hb5.cell (p := ⟨w1.heap.size, 0, none⟩) l1).trans k0; have s1 := (hb5.cell (p := ⟨w1.heap.size, 1, none⟩) l1).trans k1; have s2 := (hb5.cell (p := ⟨w1.heap.size, 2, none⟩) l1).trans k2; have s3 := (hb5.cell (p := ⟨w1.heap.size, 3, none⟩) l1).trans k3; have s4 := (hb5.cell (p := ⟨w.heap.size, 0, none⟩) l2).trans z0; have s5 := (hb5.frozen (p := ⟨w.heap.size, 0, none⟩) l2).trans z1; have l3 : w.heap.size < w5.heap.size := Nat.lt_of_lt_of_le l2 hb5.size; have l4 : w1.heap.size < w5.heap.size := Nat.lt_of_lt_of_le l1 hb5.size)
          | fail)
      have hB5 : Below w.heap.size w w5 := hB2.drew.trans (hb5.mono (Nat.le_of_lt l2))
      have hz5 := (hb5.block w.heap.size l2).trans hz2
      obtain ⟨g1, g2, g3, g4⟩ := res_block (T' := 117) (u := .iface 114 (.pointer (some ⟨w5.heap.size, 0, none⟩))) (cs := #[.int .i64 X0, .int .i64 X1, .bool X2, .bool true, .slice ao l.length c, .slice ka q.length kc, .map (some M)]) hz5 hB5
      have hP2 : Places _ M q := hP.agree (w' := (w5.setCell ⟨w.heap.size, 0, none⟩ (.iface 114 (.pointer (some ⟨w5.heap.size, 0, none⟩)))).alloc (.cells #[.int .i64 X0, .int .i64 X1, .bool X2, .bool true, .slice ao l.length c, .slice ka q.length kc, .map (some M)] 117)) (by
        rw [Below.heap_alloc _ _ _ (by simpa [World.setCell] using hP.lt)]
        exact Below.heap_setCell _ _ _ _ (fun e => hMne (by simpa using e)))
      clear hP
      go_wp2_with fail
      exact bodyPost_ret (v := .agg #[.iface 114 (.pointer (some ⟨w5.heap.size, 0, none⟩))]) (by simp [results, Try.results62, go_sem, g2]) rfl ⟨_, rfl, HR.out _ _ M g1 hB5.size g4 hM hP2 (g3 0) (g3 1) (g3 2) (by rw [g3 3]; rfl) (g3 4) (g3 5) (g3 6), g1⟩
    · go_upto_region 3 with (go_at_call 86; refine (CL.out _ (hB1.alloc hB1.size _)).mono ?_; rintro e w4 ⟨rfl, rfl⟩)
      obtain ⟨W2, hW2⟩ : ∃ W2, W2 = w1.alloc (.cells #[.int .i64 X0, .int .i64 X1, .bool X2, .bool false] 78) := ⟨_, rfl⟩
      rw [← hW2]
      have hbx : W2.heap[w1.heap.size]? = some (.cells #[.int .i64 X0, .int .i64 X1, .bool X2, .bool false] 78 (0, 0)) := by rw [hW2]; exact heap_alloc_new _ _
      have hz2 : W2.heap[w.heap.size]? = some (.cells #[.nilIface] 30 (0, 0)) := by rw [hW2]; exact (Below.heap_alloc _ _ _ hlt).trans hz1
      have hB2 : Below w.heap.size w W2 := by rw [hW2]; exact hB1.alloc hB1.size _
      have l1 : w1.heap.size < W2.heap.size := (Array.getElem?_eq_some_iff.1 hbx).1
      have l2 : w.heap.size < W2.heap.size := (Array.getElem?_eq_some_iff.1 hz2).1
      have k0 := cell_of_row _ _ 0 _ _ _ hbx
      have k1 := cell_of_row _ _ 1 _ _ _ hbx
      have k2 := cell_of_row _ _ 2 _ _ _ hbx
      have k3 := cell_of_row _ _ 3 _ _ _ hbx
      have z0 := cell_of_row _ _ 0 _ _ _ hz2
      have z1 := frozen_of_row _ _ 0 _ _ hz2
      simp only [List.getElem?_toArray, List.getElem?_cons_zero, List.getElem?_cons_succ] at k0 k1 k2 k3 z0
      have hne : w.heap.size ≠ w1.heap.size := by omega
      clear hbx hW2 hz1 hB1
      go_region_held3 (fun w' => w'.cell? ⟨w1.heap.size, 0, none⟩ = some (.int .i64 X0) ∧ w'.cell? ⟨w1.heap.size, 1, none⟩ = some (.int .i64 X1) ∧ w'.cell? ⟨w1.heap.size, 2, none⟩ = some (.bool X2) ∧ w'.cell? ⟨w1.heap.size, 3, none⟩ = some (.bool false))
        (first | go_keep | exact ⟨s0, s1, s2, s3⟩ | fail)
        (first
          | (go_at_call 59; refine (CP.out _ hB2.drew l2).mono ?_; rintro e w5 ⟨M, rfl, hM, hMne, hP, hb5⟩; have s0 := (hb5.cell (p := ⟨w1.heap.size, 0, none⟩) l1).trans k0; have s1 := (hb5.cell (p := ⟨w1.heap.size, 1, none⟩) l1).trans k1; have s2 := (hb5.cell (p := ⟨w1.heap.size, 2, none⟩) l1).trans k2; have s3 := (hb5.cell (p := ⟨w1.heap.size, 3, none⟩) l1).trans k3; have s4 := (hb5.cell (p := ⟨w.heap.size, 0, none⟩) l2).trans z0; have s5 := (hb5.frozen (p := ⟨w.heap.size, 0, none⟩) l2).trans z1; have l3 : w.heap.size < w5.heap.size := Nat.lt_of_lt_of_le l2 hb5.size; have l4 : w1.heap.size < w5.heap.size := Nat.lt_of_lt_of_le l1 hb5.size)
          | fail)
      have hB5 : Below w.heap.size w w5 := hB2.drew.trans (hb5.mono (Nat.le_of_lt l2))
      have hz5 := (hb5.block w.heap.size l2).trans hz2
      obtain ⟨g1, g2, g3, g4⟩ := res_block (T' := 117) (u := .iface 114 (.pointer (some ⟨w5.heap.size, 0, none⟩))) (cs := #[.int .i64 X0, .int .i64 X1, .bool X2, .bool false, .slice ao l.length c, .slice ka q.length kc, .map (some M)]) hz5 hB5
      have hP2 : Places _ M q := hP.agree (w' := (w5.setCell ⟨w.heap.size, 0, none⟩ (.iface 114 (.pointer (some ⟨w5.heap.size, 0, none⟩)))).alloc (.cells #[.int .i64 X0, .int .i64 X1, .bool X2, .bool false, .slice ao l.length c, .slice ka q.length kc, .map (some M)] 117)) (by
        rw [Below.heap_alloc _ _ _ (by simpa [World.setCell] using hP.lt)]
        exact Below.heap_setCell _ _ _ _ (fun e => hMne (by simpa using e)))
      clear hP
      go_wp2_with fail
      exact bodyPost_ret (v := .agg #[.iface 114 (.pointer (some ⟨w5.heap.size, 0, none⟩))]) (by simp [results, Try.results62, go_sem, g2]) rfl ⟨_, rfl, HR.out _ _ M g1 hB5.size g4 hM hP2 (g3 0) (g3 1) (g3 2) (by rw [g3 3]; rfl) (g3 4) (g3 5) (g3 6), g1⟩
end Go.Proofs.Ytigdcnoggjcddaa

