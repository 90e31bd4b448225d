/- What measureAll answers of values: the measure of a value in which they stand. Condition: they lie in memory, at most 1048576 values and letters. -/
import Derived.Test.YtepohbcpepkboaaGreatVMeas
namespace Go.Proofs.YtepohbcpepkboaaGreat
open Go.RowKit Go.Maps

def rightL (l : List V) : Bool := l.all V.right
set_option maxRecDepth 100000 in
theorem fitsL_all : ∀ l : List V, V.fits.go l = l.all V.fits
  | [] => rfl
  | v :: r => by simp only [V.fits.go, List.all_cons, fitsL_all r]
set_option maxRecDepth 100000 in
theorem deep_mem : ∀ {l : List V} {x : V}, x ∈ l → x.deep ≤ V.deep.go l
  | y :: r, x, h => by
    simp only [V.deep.go]
    rcases List.mem_cons.1 h with rfl | h
    · omega
    · have := deep_mem h; omega
set_option maxRecDepth 100000 in
theorem rightL_fits (l : List V) (h : V.deep.go l + 1 ≤ 8) : rightL l = V.fits.go l := by
  rw [fitsL_all, rightL]
  rw [Bool.eq_iff_iff, List.all_eq_true, List.all_eq_true]
  refine ⟨fun hx x hm => ?_, fun hx x hm => ?_⟩
  · have := hx x hm; simp only [V.right, Bool.and_eq_true] at this; exact this.2
  · have h1 := deep_mem hm
    simp only [V.right, Bool.and_eq_true, decide_eq_true_iff]
    exact ⟨by omega, hx x hm⟩
set_option maxRecDepth 100000 in
theorem right_of (k : Int) (l : List V) (q : List ByteArray) : (V.mk k false 0 0 ByteArray.empty l q).right = (((rightL l && decide (V.deep.go l + 1 ≤ 8)) && decide (l.length ≤ 64)) && (k != 7 || (q.take l.length).all (fun x => decide (x.size ≤ 256)))) := by
  have he : decide (ByteArray.empty.size ≤ 256) = true := by decide
  have e1 : (V.mk k false 0 0 ByteArray.empty l q).deep = V.deep.go l + 1 := by simp only [V.deep]
  have e2 : (V.mk k false 0 0 ByteArray.empty l q).fits = (V.fits.go l && (k != 7 || (q.take l.length).all (fun x => decide (x.size ≤ 256))) && decide (ByteArray.empty.size ≤ 256) && decide (l.length ≤ 64)) := by simp only [V.fits]
  rw [V.right, e1, e2, he]
  generalize (k != 7 || (q.take l.length).all (fun x => decide (x.size ≤ 256))) = X
  generalize decide (l.length ≤ 64) = Y
  by_cases h : V.deep.go l + 1 ≤ 8
  · rw [rightL_fits l h]
    simp only [decide_eq_true h]
    cases V.fits.go l <;> cases X <;> cases Y <;> rfl
  · simp only [decide_eq_false h]
    cases V.fits.go l <;> cases rightL l <;> cases X <;> cases Y <;> rfl
set_option maxRecDepth 100000 in
theorem rightL_append (a b : List V) : rightL (a ++ b) = (rightL a && rightL b) := by simp [rightL]
set_option maxRecDepth 100000 in
theorem rightL_one (x : V) : rightL [x] = x.right := by simp [rightL]
/-- The measure of a value in which these stand. -/
def measL (l : List V) : Value := .agg #[.int .i64 (V.deep.go l + 1 : Nat), .int .i64 (1 + V.size.go l : Nat), .bool (V.known.go l), .bool ((rightL l && decide (V.deep.go l + 1 ≤ 8)) && decide (l.length ≤ 64))]
def MBox (w : World) (B : Nat) (d s : Int) (k r : Bool) : Prop := w.heap[B]? = some (.cells #[.int .i64 d, .int .i64 s, .bool k, .bool r] 88 (0, 0))
set_option maxRecDepth 100000 in
theorem MBox.below {w w' : World} {B : Nat} {d s : Int} {k r : Bool} (h : MBox w B d s k r) (hb : Below w.heap.size w w') : MBox w' B d s k r := (hb.block B (Array.getElem?_eq_some_iff.1 h).1).trans h
set_option maxRecDepth 100000 in
theorem MBox.lt {w : World} {B : Nat} {d s : Int} {k r : Bool} (h : MBox w B d s k r) : B < w.heap.size := (Array.getElem?_eq_some_iff.1 h).1
set_option maxRecDepth 100000 in
theorem MBox.cells {w : World} {B : Nat} {d s : Int} {k r : Bool} (h : MBox w B d s k r) : w.cell? ⟨B, 0, none⟩ = some (.int .i64 d) ∧ w.cell? ⟨B, 1, none⟩ = some (.int .i64 s) ∧ w.cell? ⟨B, 2, none⟩ = some (.bool k) ∧ w.cell? ⟨B, 3, none⟩ = some (.bool r) ∧ ∀ o, w.frozen? ⟨B, o, none⟩ = false :=
  ⟨cell_of_row _ _ _ _ _ _ h, cell_of_row _ _ _ _ _ _ h, cell_of_row _ _ _ _ _ _ h, cell_of_row _ _ _ _ _ _ h, fun o => frozen_of_row _ _ o _ _ h⟩
set_option maxRecDepth 100000 in
theorem MBox.set {w : World} {B : Nat} {d s : Int} {k r : Bool} (h : MBox w B d s k r) (d' s' : Int) (k' r' : Bool) :
    MBox ((((w.setCell ⟨B, 0, none⟩ (.int .i64 d')).setCell ⟨B, 1, none⟩ (.int .i64 s')).setCell ⟨B, 2, none⟩ (.bool k')).setCell ⟨B, 3, none⟩ (.bool r')) B d' s' k' r' :=
  heap_setCell_same _ _ 3 _ _ _ (heap_setCell_same _ _ 2 _ _ _ (heap_setCell_same _ _ 1 _ _ _ (heap_setCell_same _ _ 0 _ _ _ h)))

set_option maxRecDepth 100000 in
theorem meas_world {w w5 : World} {n : Nat} {d s : Int} {k r : Bool} (hA : MBox w5 (n + 1) d s k r) (hZ : MBox w5 n 0 0 false false) (hb : Below n w w5) (d' s' : Int) (k' r' : Bool) (o : Obj) :
    MBox (((((w5.setCell ⟨n + 1, 0, none⟩ (.int .i64 d')).setCell ⟨n + 1, 1, none⟩ (.int .i64 s')).setCell ⟨n + 1, 2, none⟩ (.bool k')).setCell ⟨n + 1, 3, none⟩ (.bool r')).alloc o) (n + 1) d' s' k' r' ∧
    MBox (((((w5.setCell ⟨n + 1, 0, none⟩ (.int .i64 d')).setCell ⟨n + 1, 1, none⟩ (.int .i64 s')).setCell ⟨n + 1, 2, none⟩ (.bool k')).setCell ⟨n + 1, 3, none⟩ (.bool r')).alloc o) n 0 0 false false ∧
    Below n w (((((w5.setCell ⟨n + 1, 0, none⟩ (.int .i64 d')).setCell ⟨n + 1, 1, none⟩ (.int .i64 s')).setCell ⟨n + 1, 2, none⟩ (.bool k')).setCell ⟨n + 1, 3, none⟩ (.bool r')).alloc o) := by
  have h1 := hA.set d' s' k' r'
  have h2 : MBox ((((w5.setCell ⟨n + 1, 0, none⟩ (.int .i64 d')).setCell ⟨n + 1, 1, none⟩ (.int .i64 s')).setCell ⟨n + 1, 2, none⟩ (.bool k')).setCell ⟨n + 1, 3, none⟩ (.bool r')) n 0 0 false false := by
    show _ = _
    rw [Below.heap_setCell _ _ _ _ (by simp), Below.heap_setCell _ _ _ _ (by simp), Below.heap_setCell _ _ _ _ (by simp), Below.heap_setCell _ _ _ _ (by simp)]
    exact hZ
  have hn : n ≤ w5.heap.size := Nat.le_of_lt hZ.lt
  refine ⟨h1.below ((Below.refl _ _).alloc (Nat.le_refl _) _), h2.below ((Below.refl _ _).alloc (Nat.le_refl _) _), ?_⟩
  exact ((((hb.setCell (Nat.le_succ n) _).setCell (Nat.le_succ n) _).setCell (Nat.le_succ n) _).setCell (Nat.le_succ n) _).alloc (by simpa using hn) _

set_option maxRecDepth 100000 in
theorem meas_end {w w5 : World} {n : Nat} (hZ : MBox w5 n 0 0 false false) (hb : Below n w w5) (d s : Int) (k b : Bool) :
    MBox (((((w5.setCell ⟨n + 1, 3, none⟩ (.bool b)).setCell ⟨n, 0, none⟩ (.int .i64 d)).setCell ⟨n, 1, none⟩ (.int .i64 s)).setCell ⟨n, 2, none⟩ (.bool k)).setCell ⟨n, 3, none⟩ (.bool b)) n d s k b ∧
    Below n w (((((w5.setCell ⟨n + 1, 3, none⟩ (.bool b)).setCell ⟨n, 0, none⟩ (.int .i64 d)).setCell ⟨n, 1, none⟩ (.int .i64 s)).setCell ⟨n, 2, none⟩ (.bool k)).setCell ⟨n, 3, none⟩ (.bool b)) := by
  have h2 : MBox (w5.setCell ⟨n + 1, 3, none⟩ (.bool b)) n 0 0 false false := by
    show _ = _
    rw [Below.heap_setCell _ _ _ _ (by simp)]
    exact hZ
  exact ⟨h2.set d s k b, ((((hb.setCell (Nat.le_succ n) _).setCell (Nat.le_refl n) _).setCell (Nat.le_refl n) _).setCell (Nat.le_refl n) _).setCell (Nat.le_refl n) _⟩

set_option maxRecDepth 100000 in
set_option maxHeartbeats 6400000 in
theorem measAll_any (ao : Option Addr) (l : List V) (c : Nat) (w : World) {ok : Nat → Prop} (hr : RRow w ok ao l) (hbk : V.bulk.go l ≤ 1048576) :
    Calls Tryz.prog 89 #[.slice ao l.length c] w fun e w' => e = .returned (measL l) ∧ Below w.heap.size w w' := by
  have hll : l.length ≤ 1048576 := Nat.le_trans (len_le_bulkL l) hbk
  by_cases hz : l = []
  · subst hz
    have E : Hid (measL [] = .agg #[.int .i64 1, .int .i64 1, .bool true, .bool true]) := by
      show measL _ = _
      simp [measL, V.deep.go, V.size.go, V.known.go, rightL]
    generalize measL [] = R at *
    clear hr
    go_enter Tryz.func89, Tryz.ntmps89
    go_wp2_with fail
    refine wp_loop_rounds 1 ?_
    rw [rounds_succ]
    go_wp2_with fail
    refine bodyPost_ret (v := .agg #[.int .i64 1, .int .i64 1, .bool true, .bool true]) (by simp [results, Tryz.results89, go_sem]) rfl ⟨by rw [E.out], ?_⟩
    exact ((Below.refl _ _).alloc (Nat.le_refl _) _).alloc (by simp) _
  obtain ⟨H, hrow, hin⟩ := hr
  obtain ⟨bl, off, rfl, -, hcc⟩ := hrow (List.length_pos_iff.2 hz)
  have hbl : bl < w.heap.size := World.block_lt_of_cell? w ⟨bl, off + 0, none⟩ (hcc 0 (List.length_pos_iff.2 hz))
  clear hrow hz
  go_enter Tryz.func89, Tryz.ntmps89
  go_wp2_with fail
  go_loopw [10] (fun si wr => ∃ (j : Nat) (D S : Int) (K R : Bool), j ≤ l.length ∧ si = .int .i64 j ∧ MBox wr (w.heap.size + 1) D S K R ∧ MBox wr w.heap.size 0 0 false false ∧ Hid (D = ((V.deep.go (l.take j) + 1 : Nat) : Int)) ∧ Hid (S = ((1 + V.size.go (l.take j) : Nat) : Int)) ∧ Hid (K = V.known.go (l.take j)) ∧ Hid (R = rightL (l.take j)) ∧ Below w.heap.size w wr) (fun si _ => l.length - (intOf si).toNat)
  case atStart =>
    refine ⟨0, 1, 1, true, true, by omega, rfl, ?_, ?_, by simp [Hid, V.deep.go], by simp [Hid, V.size.go], by simp [Hid, V.known.go], by simp [Hid, rightL], ((Below.refl _ _).alloc (Nat.le_refl _) _).alloc (by simp) _⟩
    · have h := heap_alloc_new (w.alloc (.cells #[.int .i64 0, .int .i64 0, .bool false, .bool false] 88)) (.cells #[.int .i64 1, .int .i64 1, .bool true, .bool true] 88)
      rw [show (w.alloc (.cells #[.int .i64 0, .int .i64 0, .bool false, .bool false] 88)).heap.size = w.heap.size + 1 by simp] at h
      exact h
    · exact (Below.heap_alloc _ _ w.heap.size (by simp)).trans (heap_alloc_new w _)
  case round =>
    obtain ⟨j, D, S, K, R, hj, rfl, hA, hZ, hD, hS, hK, hR, hb⟩ := hrel
    have hd0 : 1 ≤ D ∧ D ≤ 1048577 := by
      have h1 := Nat.le_trans (V.deep_le_all.2 (l.take j)) (sizeL_le (l.take j))
      have h2 := bulk_take l j
      rw [hD.out]; omega
    have hs0 : 1 ≤ S ∧ S ≤ 1048577 := by
      have h1 := sizeL_le (l.take j)
      have h2 := bulk_take l j
      rw [hS.out]; omega
    obtain ⟨hd1, hd2⟩ := hd0
    obtain ⟨hs1, hs2⟩ := hs0
    by_cases hlt : j < l.length
    · have c0 := (hb.cell (p := ⟨bl, off + j, none⟩) hbl).trans (hcc j hlt)
      have hbl2 : bl < wr.heap.size := Nat.lt_of_lt_of_le hbl hb.size
      have hbj : l[j].bulk ≤ 1048576 := Nat.le_trans (bulk_mem (List.getElem_mem hlt)) hbk
      have C : Hid (∀ W, Below w.heap.size w W → Calls Tryz.prog 47 #[H j] W fun e w' => e = .returned l[j].meas ∧ Below W.heap.size W w') := fun W hW => measOf_any (hin j hlt) W hW
      have HT : Hid (l.take (j + 1) = l.take j ++ [l[j]]) := List.take_succ_eq_append_getElem hlt
      have hx1 := l[j].size_le
      have hx2 := l[j].deep_le
      have hst := store_new 34 (H j) .nilIface (hin j hlt).one
      clear hcc hin
      generalize l[j] = x at *
      generalize H j = h at *
      unfold V.meas at C
      have hD' : Hid (max D ((x.deep : Nat) + 1 : Int) = ((V.deep.go (l.take (j + 1)) + 1 : Nat) : Int)) := by
        show _ = _
        rw [HT.out, deepL_append, deepL_one, hD.out]; omega
      have hS' : Hid (S + (x.size : Nat) = ((1 + V.size.go (l.take (j + 1)) : Nat) : Int)) := by
        show _ = _
        rw [HT.out, sizeL_append, sizeL_one, hS.out]; omega
      have hK' : Hid ((K && x.known) = V.known.go (l.take (j + 1))) := by
        show _ = _
        rw [HT.out, knownL_append, knownL_one, hK.out]
      have hR' : Hid ((R && x.right) = rightL (l.take (j + 1))) := by
        show _ = _
        rw [HT.out, rightL_append, rightL_one, hR.out]
      have b1 : (0 : Int) ≤ (x.deep : Nat) := by omega
      have b2 : ((x.deep : Nat) : Int) ≤ 1048576 := by omega
      have b3 : (0 : Int) ≤ (x.size : Nat) := by omega
      have b4 : ((x.size : Nat) : Int) ≤ 1048576 := by omega
      clear HT hD hS hK hR hx1 hx2 hbj
      generalize ((x.deep : Nat) : Int) = XD at *
      generalize ((x.size : Nat) : Int) = XS at *
      generalize x.known = XK at *
      generalize x.right = XR at *
      have hdrop : Below w.heap.size w (wr.alloc (.cells #[h] 34)) := hb.alloc hb.size _
      go_wp2_with fail
      refine (C.out _ hdrop).mono ?_
      rintro e w5 ⟨rfl, hb5⟩
      have hW5 : Below wr.heap.size wr w5 := ((Below.refl _ _).alloc (Nat.le_refl _) _).trans (hb5.mono (by simp))
      have hA5 := hA.below hW5
      have hZ5 := hZ.below hW5
      have hB5 : Below w.heap.size w w5 := hb.trans (hW5.mono hb.size)
      have hlA := hA5.lt
      have hlZ := hZ5.lt
      obtain ⟨e0, e1, e2, e3, hf⟩ := hA5.cells
      clear C c0 hb5 hdrop hW5 hA hZ hb
      have CA : Hid (∀ W, Calls Tryz.prog 103 #[.int .i64 S, .int .i64 XS] W fun e w' => e = .returned (.int .i64 (S + XS)) ∧ W = w') := fun W => addUp_any S XS W ⟨by omega, by omega⟩ ⟨by omega, by omega⟩
      cases K
      all_goals
        cases R
        all_goals
          go_wp2_with fail
          all_goals
            refine (CA.out _).mono ?_
            rintro e w6 ⟨rfl, rfl⟩
            go_wp2_with fail
            go_roundw
            case rel =>
              obtain ⟨g1, g2, g3⟩ := meas_world hA5 hZ5 hB5 _ _ _ _ _
              exact ⟨j + 1, _, _, _, _, by omega, by go_num, g1, g2, (by first | exact hD' | (have h9 := hD'.out; show (_ : Int) = _; omega)), hS', hK', hR', g3⟩
            case measure => simp [intOf]; omega
    · have hjl : l.take j = l := List.take_of_length_le (by omega)
      rw [hjl] at hD hS hK hR
      have hlA := hA.lt
      have hlZ := hZ.lt
      obtain ⟨e0, e1, e2, e3, hf⟩ := hA.cells
      obtain ⟨i0, i1, i2, i3, hg⟩ := hZ.cells
      clear hcc hin hjl
      have E : Hid (measL l = .agg #[.int .i64 D, .int .i64 S, .bool K, .bool ((R && decide (D ≤ 8)) && decide ((l.length : Int) ≤ 64))]) := by
        show _ = _
        have h1 : decide (D ≤ 8) = decide (V.deep.go l + 1 ≤ 8) := by rw [hD.out]; rw [Bool.eq_iff_iff, decide_eq_true_iff, decide_eq_true_iff]; omega
        have h2 : decide ((l.length : Int) ≤ 64) = decide (l.length ≤ 64) := by rw [Bool.eq_iff_iff, decide_eq_true_iff, decide_eq_true_iff]; omega
        rw [measL, h1, h2, hS.out, hK.out, hR.out, hD.out]
      clear hD hS hK hR
      cases R
      · obtain ⟨g1, g2⟩ := meas_end hZ hb D S K false
        obtain ⟨x0, x1, x2, x3, -⟩ := g1.cells
        have HX : Hid (measL l = .agg #[.int .i64 D, .int .i64 S, .bool K, .bool false]) := by show _ = _; rw [E.out]; rfl
        clear E
        go_wp2_with fail
        exact bodyPost_ret (v := .agg #[.int .i64 D, .int .i64 S, .bool K, .bool false]) (by simp [results, Tryz.results89, go_sem, x0, x1, x2, x3]) rfl ⟨by rw [HX.out], g2⟩
      · by_cases h8 : D ≤ 8
        · obtain ⟨g1, g2⟩ := meas_end hZ hb D S K (decide ((l.length : Int) ≤ 64))
          obtain ⟨x0, x1, x2, x3, -⟩ := g1.cells
          have HX : Hid (measL l = .agg #[.int .i64 D, .int .i64 S, .bool K, .bool (decide ((l.length : Int) ≤ 64))]) := by
            show _ = _
            rw [E.out, decide_eq_true h8]; rfl
          clear E
          go_wp2_with fail
          exact bodyPost_ret (v := .agg #[.int .i64 D, .int .i64 S, .bool K, .bool (decide ((l.length : Int) ≤ 64))]) (by simp [results, Tryz.results89, go_sem, x0, x1, x2, x3]) rfl ⟨by rw [HX.out], g2⟩
        · obtain ⟨g1, g2⟩ := meas_end hZ hb D S K false
          obtain ⟨x0, x1, x2, x3, -⟩ := g1.cells
          have HX : Hid (measL l = .agg #[.int .i64 D, .int .i64 S, .bool K, .bool false]) := by show _ = _; rw [E.out, decide_eq_false h8]; rfl
          clear E
          go_wp2_with fail
          exact bodyPost_ret (v := .agg #[.int .i64 D, .int .i64 S, .bool K, .bool false]) (by simp [results, Tryz.results89, go_sem, x0, x1, x2, x3]) rfl ⟨by rw [HX.out], g2⟩
end Go.Proofs.YtepohbcpepkboaaGreat

