/- What the document's Size, Deep, Known answer: they only read. Condition: a value of at most 1048576 values and letters. -/
import Derived.Test.YtigdcnoggjcddaaVFloat
import Derived.Test.YtigdcnoggjcddaaVarA
namespace Go.Proofs.Ytigdcnoggjcddaa
open Go.RowKit

/-- The block in which a call keeps its value. -/
def V.box (v : V) (p : VP) : Obj := .cells #[.int .i64 v.k, .bool v.b, .int .i64 v.n, .int .i64 v.m, .string v.s, .slice p.la v.l.length p.lc, .slice p.ka v.keys.length p.kc] 25
set_option maxRecDepth 100000 in
theorem vbox_cell {w wr : World} {v : V} {p : VP} (hb : Below (w.heap.size + 1) (w.alloc (v.box p)) wr) (i : Nat) : wr.cell? ⟨w.heap.size, i, none⟩ = (v.cells p)[i]? := by
  unfold V.box at hb
  rw [hb.cell (p := ⟨w.heap.size, i, none⟩) (by simp), cell_of_row _ _ _ _ _ _ (heap_alloc_new w _)]
  simp [V.cells]
set_option maxRecDepth 100000 in
theorem below_box {w wr : World} {o : Obj} (hb : Below (w.heap.size + 1) (w.alloc o) wr) : Below w.heap.size w wr :=
  ((Below.refl _ w).alloc (Nat.le_refl _) o).trans (hb.mono (by simp))

set_option maxRecDepth 100000 in
set_option maxHeartbeats 1600000 in
theorem vsize_any {w0 : World} {ok : Nat → Prop} {v : V} {p : VP} (h : VIn w0 ok v p) : ∀ w, Below w0.heap.size w0 w → v.bulk ≤ 1048576 →
    Calls Try.prog 17 #[v.val p] w fun e w' => e = .returned (.int .i64 v.size) ∧ Below w.heap.size w w' := by
  induction h using VIn.ind with
  | mk k b n m s l q p P hk hn hm hs hl hq hkeys hc hin ih =>
    intro w hb0 hbk
    obtain ⟨la, lc, ka, kc⟩ := p
    have hll : l.length ≤ 1048576 := by have := len_le_bulkL l; simp only [V.bulk] at hbk; omega
    have hbl : V.bulk.go l ≤ 1048576 := by simp only [V.bulk] at hbk; omega
    have HS : Hid ((V.mk k b n m s l q).size = 1 + V.size.go l) := by show V.size _ = _; simp only [V.size]
    have HB : Hid (∀ wr, Below (w.heap.size + 1) (w.alloc ((V.mk k b n m s l q).box ⟨la, lc, ka, kc⟩)) wr → wr.cell? ⟨w.heap.size, 5, none⟩ = some (.slice la l.length lc)) := fun wr hb => vbox_cell hb 5
    clear hk hn hm hs hl hq hkeys hin hbk
    generalize (V.mk k b n m s l q).size = R at *
    unfold V.val
    unfold V.box at HB
    dsimp only [V.k, V.b, V.n, V.m, V.s, V.l, V.keys] at *
    by_cases hz : l = []
    · subst hz
      have hE : Hid ((1 : Int) = (R : Int)) := by show _ = _; rw [HS.out]; simp [V.size.go]
      clear hc ih HB HS
      go_enter Try.func17, Try.ntmps17
      go_wp2_with fail
      refine wp_loop_rounds 1 ?_
      rw [rounds_succ]
      go_wp2_with fail
      go_ret
      exact ⟨ret_int hE.out, (Below.refl _ w).alloc (Nat.le_refl _) _⟩
    obtain ⟨bl, off, rfl, -, hcc⟩ := hc hz
    clear hc hz
    go_enter Try.func17, Try.ntmps17
    go_wp2_with fail
    go_loopw [3, 4] (fun sn si wr => ∃ (j : Nat) (A : Int), j ≤ l.length ∧ si = .int .i64 j ∧ sn = .int .i64 A ∧ Hid (A = ((1 + V.size.go (l.take j) : Nat) : Int)) ∧ Below (w.heap.size + 1) (w.alloc (.cells #[.int .i64 k, .bool b, .int .i64 n, .int .i64 m, .string s, .slice (some ⟨bl, off, none⟩) l.length lc, .slice ka q.length kc] 25)) wr) (fun _ si _ => l.length - (intOf si).toNat)
    case atStart => exact ⟨0, 1, by omega, rfl, rfl, by simp [Hid, V.size.go], Below.refl _ _⟩
    case round =>
      obtain ⟨j, A, hj, rfl, rfl, hA, hb⟩ := hrel
      have hbox := HB.out _ hb
      by_cases hlt : j < l.length
      · have hbw := hb0.trans ((below_box hb).mono hb0.size)
        obtain ⟨c0, c1, c2, c3, c4, c5, c6⟩ := (hcc j hlt).below hbw
        have hbj : l[j].bulk ≤ 1048576 := Nat.le_trans (bulk_mem (List.getElem_mem hlt)) hbl
        have C : Hid (∀ W, Below w0.heap.size w0 W → Calls Try.prog 17 #[l[j].val (P j)] W fun e w' => e = .returned (.int .i64 l[j].size) ∧ Below W.heap.size W w') := fun W hW => ih j hlt W hW hbj
        have HT : Hid (l.take (j + 1) = l.take j ++ [l[j]]) := List.take_succ_eq_append_getElem hlt
        have hx := l[j].size_le
        have hA2 : 0 ≤ A ∧ A ≤ 1048577 := by
          have h1 := sizeL_le (l.take j)
          have h2 := bulk_take l j
          rw [hA.out]; omega
        obtain ⟨hA0, hA1⟩ := hA2
        clear hcc ih HB HS
        generalize l[j] = x at *
        generalize P j = xp at *
        unfold V.val at C
        have hsz : ((x.size : Nat) : Int) ≤ 1048576 := by omega
        have hsz0 : (0 : Int) ≤ ((x.size : Nat) : Int) := by omega
        have hA' : Hid (A + ((x.size : Nat) : Int) = ((1 + V.size.go (l.take (j + 1)) : Nat) : Int)) := by
          show _ = _
          rw [HT.out, sizeL_append, sizeL_one, hA.out]; omega
        clear hx hbj hA HT
        generalize ((x.size : Nat) : Int) = X at *
        go_wp2_with fail
        refine (C.out _ hbw).mono ?_
        rintro e w5 ⟨rfl, hb5⟩
        go_wp2_with fail
        go_roundw
        case rel => exact ⟨j + 1, A + X, by omega, by go_num, rfl, hA', hb.trans (hb5.mono (by have := hb.size; simpa using this))⟩
        case measure => simp [intOf]; omega
      · have hE : Hid (A = (R : Int)) := by show _ = _; rw [hA.out, HS.out, List.take_of_length_le (by omega)]
        clear hA HS HB hcc ih
        go_wp2_with fail
        go_ret
        exact ⟨ret_int hE.out, below_box hb⟩
set_option maxRecDepth 100000 in
set_option maxHeartbeats 1600000 in
theorem vdeep_any {w0 : World} {ok : Nat → Prop} {v : V} {p : VP} (h : VIn w0 ok v p) : ∀ w, Below w0.heap.size w0 w → v.bulk ≤ 1048576 →
    Calls Try.prog 15 #[v.val p] w fun e w' => e = .returned (.int .i64 v.deep) ∧ Below w.heap.size w w' := by
  induction h using VIn.ind with
  | mk k b n m s l q p P hk hn hm hs hl hq hkeys hc hin ih =>
    intro w hb0 hbk
    obtain ⟨la, lc, ka, kc⟩ := p
    have hll : l.length ≤ 1048576 := by have := len_le_bulkL l; simp only [V.bulk] at hbk; omega
    have hbl : V.bulk.go l ≤ 1048576 := by simp only [V.bulk] at hbk; omega
    have HS : Hid ((V.mk k b n m s l q).deep = V.deep.go l + 1) := by show V.deep _ = _; simp only [V.deep]
    have HB : Hid (∀ wr, Below (w.heap.size + 1) (w.alloc ((V.mk k b n m s l q).box ⟨la, lc, ka, kc⟩)) wr → wr.cell? ⟨w.heap.size, 5, none⟩ = some (.slice la l.length lc)) := fun wr hb => vbox_cell hb 5
    clear hk hn hm hs hl hq hkeys hin hbk
    generalize (V.mk k b n m s l q).deep = R at *
    unfold V.val
    unfold V.box at HB
    dsimp only [V.k, V.b, V.n, V.m, V.s, V.l, V.keys] at *
    by_cases hz : l = []
    · subst hz
      have hE : Hid ((1 : Int) = (R : Int)) := by show _ = _; rw [HS.out]; simp [V.deep.go]
      clear hc ih HB HS
      go_enter Try.func15, Try.ntmps15
      go_wp2_with fail
      refine wp_loop_rounds 1 ?_
      rw [rounds_succ]
      go_wp2_with fail
      go_ret
      exact ⟨ret_int hE.out, (Below.refl _ w).alloc (Nat.le_refl _) _⟩
    obtain ⟨bl, off, rfl, -, hcc⟩ := hc hz
    clear hc hz
    go_enter Try.func15, Try.ntmps15
    go_wp2_with fail
    go_loopw [3, 4] (fun sn si wr => ∃ (j : Nat) (A : Int), j ≤ l.length ∧ si = .int .i64 j ∧ sn = .int .i64 A ∧ Hid (A = ((V.deep.go (l.take j) : Nat) : Int)) ∧ Below (w.heap.size + 1) (w.alloc (.cells #[.int .i64 k, .bool b, .int .i64 n, .int .i64 m, .string s, .slice (some ⟨bl, off, none⟩) l.length lc, .slice ka q.length kc] 25)) wr) (fun _ si _ => l.length - (intOf si).toNat)
    case atStart => exact ⟨0, 0, by omega, rfl, rfl, by simp [Hid, V.deep.go], Below.refl _ _⟩
    case round =>
      obtain ⟨j, A, hj, rfl, rfl, hA, hb⟩ := hrel
      have hbox := HB.out _ hb
      by_cases hlt : j < l.length
      · have hbw := hb0.trans ((below_box hb).mono hb0.size)
        obtain ⟨c0, c1, c2, c3, c4, c5, c6⟩ := (hcc j hlt).below hbw
        have hbj : l[j].bulk ≤ 1048576 := Nat.le_trans (bulk_mem (List.getElem_mem hlt)) hbl
        have C : Hid (∀ W, Below w0.heap.size w0 W → Calls Try.prog 15 #[l[j].val (P j)] W fun e w' => e = .returned (.int .i64 l[j].deep) ∧ Below W.heap.size W w') := fun W hW => ih j hlt W hW hbj
        have HT : Hid (l.take (j + 1) = l.take j ++ [l[j]]) := List.take_succ_eq_append_getElem hlt
        have hx := Nat.le_trans l[j].deep_le l[j].size_le
        have hA2 : 0 ≤ A ∧ A ≤ 1048577 := by
          have h1 := Nat.le_trans (V.deep_le_all.2 (l.take j)) (sizeL_le (l.take j))
          have h2 := bulk_take l j
          rw [hA.out]; omega
        obtain ⟨hA0, hA1⟩ := hA2
        clear hcc ih HB HS
        generalize l[j] = x at *
        generalize P j = xp at *
        unfold V.val at C
        have hsz : ((x.deep : Nat) : Int) ≤ 1048576 := by omega
        have hsz0 : (0 : Int) ≤ ((x.deep : Nat) : Int) := by omega
        have hA' : Hid (max A ((x.deep : Nat) : Int) = ((V.deep.go (l.take (j + 1)) : Nat) : Int)) := by
          show _ = _
          rw [HT.out, deepL_append, deepL_one, hA.out]; omega
        clear hx hbj hA HT
        generalize ((x.deep : Nat) : Int) = X at *
        go_wp2_with fail
        refine (C.out _ hbw).mono ?_
        rintro e w5 ⟨rfl, hb5⟩
        go_wp2_with fail
        go_roundw
        case rel => exact ⟨j + 1, max A X, by omega, by go_num, by first | rfl | (congr 1; omega), hA', hb.trans (hb5.mono (by have := hb.size; simpa using this))⟩
        case measure => simp [intOf]; omega
      · have hE : Hid (A + 1 = (R : Int)) := by show _ = _; rw [hA.out, HS.out, List.take_of_length_le (by omega)]; omega
        have hA2 : 0 ≤ A ∧ A ≤ 1048577 := by
          have h1 := Nat.le_trans (V.deep_le_all.2 (l.take j)) (sizeL_le (l.take j))
          have h2 := bulk_take l j
          rw [hA.out]; omega
        obtain ⟨hA0, hA1⟩ := hA2
        clear hA HS HB hcc ih
        go_wp2_with fail
        go_ret
        exact ⟨ret_int hE.out, below_box hb⟩
set_option maxRecDepth 100000 in
set_option maxHeartbeats 1600000 in
theorem vknown_any {w0 : World} {ok : Nat → Prop} {v : V} {p : VP} (h : VIn w0 ok v p) : ∀ w, Below w0.heap.size w0 w → v.bulk ≤ 1048576 →
    Calls Try.prog 21 #[v.val p] w fun e w' => e = .returned (.bool v.known) ∧ Below w.heap.size w w' := by
  induction h using VIn.ind with
  | mk k b n m s l q p P hk hn hm hs hl hq hkeys hc hin ih =>
    intro w hb0 hbk
    obtain ⟨la, lc, ka, kc⟩ := p
    have hll : l.length ≤ 1048576 := by have := len_le_bulkL l; simp only [V.bulk] at hbk; omega
    have hbl : V.bulk.go l ≤ 1048576 := by simp only [V.bulk] at hbk; omega
    have HS : Hid ((V.mk k b n m s l q).known = (V.known.go l && k != 1)) := by show V.known _ = _; simp only [V.known]
    have HB : Hid (∀ wr, Below (w.heap.size + 1) (w.alloc ((V.mk k b n m s l q).box ⟨la, lc, ka, kc⟩)) wr → wr.cell? ⟨w.heap.size, 5, none⟩ = some (.slice la l.length lc) ∧ wr.cell? ⟨w.heap.size, 0, none⟩ = some (.int .i64 k)) := fun wr hb => ⟨vbox_cell hb 5, vbox_cell hb 0⟩
    clear hk hn hm hs hl hq hkeys hin hbk
    generalize (V.mk k b n m s l q).known = R at *
    unfold V.val
    unfold V.box at HB
    dsimp only [V.k, V.b, V.n, V.m, V.s, V.l, V.keys] at *
    by_cases hz : l = []
    · subst hz
      have hE : Hid ((k != 1) = R) := by show _ = _; rw [HS.out]; simp [V.known.go]
      clear hc ih HB HS
      go_enter Try.func21, Try.ntmps21
      go_wp2_with fail
      refine wp_loop_rounds 1 ?_
      rw [rounds_succ]
      go_wp2_with fail
      go_ret
      exact ⟨ret_bool hE.out, (Below.refl _ w).alloc (Nat.le_refl _) _⟩
    obtain ⟨bl, off, rfl, -, hcc⟩ := hc hz
    clear hc hz
    go_enter Try.func21, Try.ntmps21
    go_wp2_with fail
    go_loopw [3] (fun si wr => ∃ (j : Nat), j ≤ l.length ∧ si = .int .i64 j ∧ Hid (V.known.go (l.take j) = true) ∧ Below (w.heap.size + 1) (w.alloc (.cells #[.int .i64 k, .bool b, .int .i64 n, .int .i64 m, .string s, .slice (some ⟨bl, off, none⟩) l.length lc, .slice ka q.length kc] 25)) wr) (fun si _ => l.length - (intOf si).toNat)
    case atStart => exact ⟨0, by omega, rfl, by simp [Hid, V.known.go], Below.refl _ _⟩
    case round =>
      obtain ⟨j, hj, rfl, hA, hb⟩ := hrel
      obtain ⟨hbox, hbox0⟩ := HB.out _ hb
      by_cases hlt : j < l.length
      · have hbw := hb0.trans ((below_box hb).mono hb0.size)
        obtain ⟨c0, c1, c2, c3, c4, c5, c6⟩ := (hcc j hlt).below hbw
        have hbj : l[j].bulk ≤ 1048576 := Nat.le_trans (bulk_mem (List.getElem_mem hlt)) hbl
        have C : Hid (∀ W, Below w0.heap.size w0 W → Calls Try.prog 21 #[l[j].val (P j)] W fun e w' => e = .returned (.bool l[j].known) ∧ Below W.heap.size W w') := fun W hW => ih j hlt W hW hbj
        have HT : Hid (l.take (j + 1) = l.take j ++ [l[j]]) := List.take_succ_eq_append_getElem hlt
        have HR : Hid (l[j].known = false → R = false) := fun h => by
          have h2 : V.known.go l = false := by
            have := knownL_append (l.take (j + 1)) (l.drop (j + 1))
            rw [List.take_append_drop, HT.out, knownL_append, knownL_one, h] at this
            simpa using this
          rw [HS.out, h2]; rfl
        clear hcc ih HB HS hbox0
        generalize l[j] = x at *
        generalize P j = xp at *
        unfold V.val at C
        have hA' : Hid (x.known = true → V.known.go (l.take (j + 1)) = true) := fun h => by
          rw [HT.out, knownL_append, knownL_one, hA.out, h]; rfl
        clear hbj hA HT
        cases hX : x.known
        · have hR := HR.out hX
          rw [hX] at C
          clear HR hA' hX
          go_wp2_with fail
          refine (C.out _ hbw).mono ?_
          rintro e w5 ⟨rfl, hb5⟩
          go_wp2_with fail
          go_ret
          exact ⟨ret_bool hR.symm, (below_box hb).trans (hb5.mono (below_box hb).size)⟩
        · have hA2 : Hid (V.known.go (l.take (j + 1)) = true) := hA'.out hX
          rw [hX] at C
          clear HR hA' hX
          go_wp2_with fail
          refine (C.out _ hbw).mono ?_
          rintro e w5 ⟨rfl, hb5⟩
          go_wp2_with fail
          go_roundw
          case rel => exact ⟨j + 1, by omega, by go_num, hA2, hb.trans (hb5.mono (by have := hb.size; simpa using this))⟩
          case measure => simp [intOf]; omega
      · have hE : Hid ((k != 1) = R) := by
          show _ = _
          have := hA.out
          rw [List.take_of_length_le (by omega)] at this
          rw [HS.out, this]; rfl
        clear hA HS HB hcc ih
        go_wp2_with fail
        go_ret
        exact ⟨ret_bool hE.out, below_box hb⟩
end Go.Proofs.Ytigdcnoggjcddaa

