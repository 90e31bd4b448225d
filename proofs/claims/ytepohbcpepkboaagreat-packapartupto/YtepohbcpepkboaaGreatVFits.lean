/- What the document's fits, Right, Find answer of a clean value: they only read. Condition: a value of at most 1048576 values and letters. -/
import Derived.Test.YtepohbcpepkboaaGreatVTree
import Derived.Test.YtepohbcpepkboaaGreatVarA
import Derived.Test.YtepohbcpepkboaaGreatVMeasA
import Derived.Test.YtepohbcpepkboaaGreatVSort
namespace Go.Proofs.YtepohbcpepkboaaGreat
open Go.RowKit

/-- The block in which a call keeps its value. -/
def V.box (v : V) (p : VP) : Obj := .cells #[.int .i64 v.k, .bool v.b, .int .i64 v.n, .int .i64 v.m, .string v.s, .slice p.la v.l.length p.lc, .slice p.ka v.keys.length p.kc] 25
set_option maxRecDepth 100000 in
theorem vbox_cell {w wr : World} {v : V} {p : VP} (hb : Below (w.heap.size + 1) (w.alloc (v.box p)) wr) (i : Nat) : wr.cell? ⟨w.heap.size, i, none⟩ = (v.cells p)[i]? := by
  unfold V.box at hb
  rw [hb.cell (p := ⟨w.heap.size, i, none⟩) (by simp), cell_of_row _ _ _ _ _ _ (heap_alloc_new w _)]
  simp [V.cells]
set_option maxRecDepth 100000 in
theorem below_box {w wr : World} {o : Obj} (hb : Below (w.heap.size + 1) (w.alloc o) wr) : Below w.heap.size w wr :=
  ((Below.refl _ w).alloc (Nat.le_refl _) o).trans (hb.mono (by simp))

set_option maxRecDepth 100000 in
set_option maxHeartbeats 1600000 in
theorem vsize_any {w0 : World} {ok : Nat → Prop} {v : V} {p : VP} (h : VIn w0 ok v p) : ∀ w, Below w0.heap.size w0 w → v.bulk ≤ 1048576 →
    Calls Tryz.prog 21 #[v.val p] w fun e w' => e = .returned (.int .i64 v.size) ∧ Below w.heap.size w w' := by
  induction h using VIn.ind with
  | mk k b n m s l q p P hk hn hm hs hl hq hkeys hc hin ih =>
    intro w hb0 hbk
    obtain ⟨la, lc, ka, kc⟩ := p
    have hll : l.length ≤ 1048576 := by have := len_le_bulkL l; simp only [V.bulk] at hbk; omega
    have hbl : V.bulk.go l ≤ 1048576 := by simp only [V.bulk] at hbk; omega
    have HS : Hid ((V.mk k b n m s l q).size = 1 + V.size.go l) := by show V.size _ = _; simp only [V.size]
    have HB : Hid (∀ wr, Below (w.heap.size + 1) (w.alloc ((V.mk k b n m s l q).box ⟨la, lc, ka, kc⟩)) wr → wr.cell? ⟨w.heap.size, 5, none⟩ = some (.slice la l.length lc)) := fun wr hb => vbox_cell hb 5
    clear hk hn hm hs hl hq hkeys hin hbk
    generalize (V.mk k b n m s l q).size = R at *
    unfold V.val
    unfold V.box at HB
    dsimp only [V.k, V.b, V.n, V.m, V.s, V.l, V.keys] at *
    by_cases hz : l = []
    · subst hz
      have hE : Hid ((1 : Int) = (R : Int)) := by show _ = _; rw [HS.out]; simp [V.size.go]
      clear hc ih HB HS
      go_enter Tryz.func21, Tryz.ntmps21
      go_wp2_with fail
      refine wp_loop_rounds 1 ?_
      rw [rounds_succ]
      go_wp2_with fail
      go_ret
      exact ⟨ret_int hE.out, (Below.refl _ w).alloc (Nat.le_refl _) _⟩
    obtain ⟨bl, off, rfl, -, hcc⟩ := hc hz
    clear hc hz
    go_enter Tryz.func21, Tryz.ntmps21
    go_wp2_with fail
    go_loopw [3, 4] (fun sn si wr => ∃ (j : Nat) (A : Int), j ≤ l.length ∧ si = .int .i64 j ∧ sn = .int .i64 A ∧ Hid (A = ((1 + V.size.go (l.take j) : Nat) : Int)) ∧ Below (w.heap.size + 1) (w.alloc (.cells #[.int .i64 k, .bool b, .int .i64 n, .int .i64 m, .string s, .slice (some ⟨bl, off, none⟩) l.length lc, .slice ka q.length kc] 25)) wr) (fun _ si _ => l.length - (intOf si).toNat)
    case atStart => exact ⟨0, 1, by omega, rfl, rfl, by simp [Hid, V.size.go], Below.refl _ _⟩
    case round =>
      obtain ⟨j, A, hj, rfl, rfl, hA, hb⟩ := hrel
      have hbox := HB.out _ hb
      by_cases hlt : j < l.length
      · have hbw := hb0.trans ((below_box hb).mono hb0.size)
        obtain ⟨c0, c1, c2, c3, c4, c5, c6⟩ := (hcc j hlt).below hbw
        have hbj : l[j].bulk ≤ 1048576 := Nat.le_trans (bulk_mem (List.getElem_mem hlt)) hbl
        have C : Hid (∀ W, Below w0.heap.size w0 W → Calls Tryz.prog 21 #[l[j].val (P j)] W fun e w' => e = .returned (.int .i64 l[j].size) ∧ Below W.heap.size W w') := fun W hW => ih j hlt W hW hbj
        have HT : Hid (l.take (j + 1) = l.take j ++ [l[j]]) := List.take_succ_eq_append_getElem hlt
        have hx := l[j].size_le
        have hA2 : 0 ≤ A ∧ A ≤ 1048577 := by
          have h1 := sizeL_le (l.take j)
          have h2 := bulk_take l j
          rw [hA.out]; omega
        obtain ⟨hA0, hA1⟩ := hA2
        clear hcc ih HB HS
        generalize l[j] = x at *
        generalize P j = xp at *
        unfold V.val at C
        have hsz : ((x.size : Nat) : Int) ≤ 1048576 := by omega
        have hsz0 : (0 : Int) ≤ ((x.size : Nat) : Int) := by omega
        have hA' : Hid (A + ((x.size : Nat) : Int) = ((1 + V.size.go (l.take (j + 1)) : Nat) : Int)) := by
          show _ = _
          rw [HT.out, sizeL_append, sizeL_one, hA.out]; omega
        clear hx hbj hA HT
        generalize ((x.size : Nat) : Int) = X at *
        go_wp2_with fail
        refine (C.out _ hbw).mono ?_
        rintro e w5 ⟨rfl, hb5⟩
        go_wp2_with fail
        go_roundw
        case rel => exact ⟨j + 1, A + X, by omega, by go_num, rfl, hA', hb.trans (hb5.mono (by have := hb.size; simpa using this))⟩
        case measure => simp [intOf]; omega
      · have hE : Hid (A = (R : Int)) := by show _ = _; rw [hA.out, HS.out, List.take_of_length_le (by omega)]
        clear hA HS HB hcc ih
        go_wp2_with fail
        go_ret
        exact ⟨ret_int hE.out, below_box hb⟩
set_option maxRecDepth 100000 in
set_option maxHeartbeats 1600000 in
theorem vdeep_any {w0 : World} {ok : Nat → Prop} {v : V} {p : VP} (h : VIn w0 ok v p) : ∀ w, Below w0.heap.size w0 w → v.bulk ≤ 1048576 →
    Calls Tryz.prog 22 #[v.val p] w fun e w' => e = .returned (.int .i64 v.deep) ∧ Below w.heap.size w w' := by
  induction h using VIn.ind with
  | mk k b n m s l q p P hk hn hm hs hl hq hkeys hc hin ih =>
    intro w hb0 hbk
    obtain ⟨la, lc, ka, kc⟩ := p
    have hll : l.length ≤ 1048576 := by have := len_le_bulkL l; simp only [V.bulk] at hbk; omega
    have hbl : V.bulk.go l ≤ 1048576 := by simp only [V.bulk] at hbk; omega
    have HS : Hid ((V.mk k b n m s l q).deep = V.deep.go l + 1) := by show V.deep _ = _; simp only [V.deep]
    have HB : Hid (∀ wr, Below (w.heap.size + 1) (w.alloc ((V.mk k b n m s l q).box ⟨la, lc, ka, kc⟩)) wr → wr.cell? ⟨w.heap.size, 5, none⟩ = some (.slice la l.length lc)) := fun wr hb => vbox_cell hb 5
    clear hk hn hm hs hl hq hkeys hin hbk
    generalize (V.mk k b n m s l q).deep = R at *
    unfold V.val
    unfold V.box at HB
    dsimp only [V.k, V.b, V.n, V.m, V.s, V.l, V.keys] at *
    by_cases hz : l = []
    · subst hz
      have hE : Hid ((1 : Int) = (R : Int)) := by show _ = _; rw [HS.out]; simp [V.deep.go]
      clear hc ih HB HS
      go_enter Tryz.func22, Tryz.ntmps22
      go_wp2_with fail
      refine wp_loop_rounds 1 ?_
      rw [rounds_succ]
      go_wp2_with fail
      go_ret
      exact ⟨ret_int hE.out, (Below.refl _ w).alloc (Nat.le_refl _) _⟩
    obtain ⟨bl, off, rfl, -, hcc⟩ := hc hz
    clear hc hz
    go_enter Tryz.func22, Tryz.ntmps22
    go_wp2_with fail
    go_loopw [3, 4] (fun sn si wr => ∃ (j : Nat) (A : Int), j ≤ l.length ∧ si = .int .i64 j ∧ sn = .int .i64 A ∧ Hid (A = ((V.deep.go (l.take j) : Nat) : Int)) ∧ Below (w.heap.size + 1) (w.alloc (.cells #[.int .i64 k, .bool b, .int .i64 n, .int .i64 m, .string s, .slice (some ⟨bl, off, none⟩) l.length lc, .slice ka q.length kc] 25)) wr) (fun _ si _ => l.length - (intOf si).toNat)
    case atStart => exact ⟨0, 0, by omega, rfl, rfl, by simp [Hid, V.deep.go], Below.refl _ _⟩
    case round =>
      obtain ⟨j, A, hj, rfl, rfl, hA, hb⟩ := hrel
      have hbox := HB.out _ hb
      by_cases hlt : j < l.length
      · have hbw := hb0.trans ((below_box hb).mono hb0.size)
        obtain ⟨c0, c1, c2, c3, c4, c5, c6⟩ := (hcc j hlt).below hbw
        have hbj : l[j].bulk ≤ 1048576 := Nat.le_trans (bulk_mem (List.getElem_mem hlt)) hbl
        have C : Hid (∀ W, Below w0.heap.size w0 W → Calls Tryz.prog 22 #[l[j].val (P j)] W fun e w' => e = .returned (.int .i64 l[j].deep) ∧ Below W.heap.size W w') := fun W hW => ih j hlt W hW hbj
        have HT : Hid (l.take (j + 1) = l.take j ++ [l[j]]) := List.take_succ_eq_append_getElem hlt
        have hx := Nat.le_trans l[j].deep_le l[j].size_le
        have hA2 : 0 ≤ A ∧ A ≤ 1048577 := by
          have h1 := Nat.le_trans (V.deep_le_all.2 (l.take j)) (sizeL_le (l.take j))
          have h2 := bulk_take l j
          rw [hA.out]; omega
        obtain ⟨hA0, hA1⟩ := hA2
        clear hcc ih HB HS
        generalize l[j] = x at *
        generalize P j = xp at *
        unfold V.val at C
        have hsz : ((x.deep : Nat) : Int) ≤ 1048576 := by omega
        have hsz0 : (0 : Int) ≤ ((x.deep : Nat) : Int) := by omega
        have hA' : Hid (max A ((x.deep : Nat) : Int) = ((V.deep.go (l.take (j + 1)) : Nat) : Int)) := by
          show _ = _
          rw [HT.out, deepL_append, deepL_one, hA.out]; omega
        clear hx hbj hA HT
        generalize ((x.deep : Nat) : Int) = X at *
        go_wp2_with fail
        refine (C.out _ hbw).mono ?_
        rintro e w5 ⟨rfl, hb5⟩
        go_wp2_with fail
        go_roundw
        case rel => exact ⟨j + 1, max A X, by omega, by go_num, by first | rfl | (congr 1; omega), hA', hb.trans (hb5.mono (by have := hb.size; simpa using this))⟩
        case measure => simp [intOf]; omega
      · have hE : Hid (A + 1 = (R : Int)) := by show _ = _; rw [hA.out, HS.out, List.take_of_length_le (by omega)]; omega
        have hA2 : 0 ≤ A ∧ A ≤ 1048577 := by
          have h1 := Nat.le_trans (V.deep_le_all.2 (l.take j)) (sizeL_le (l.take j))
          have h2 := bulk_take l j
          rw [hA.out]; omega
        obtain ⟨hA0, hA1⟩ := hA2
        clear hA HS HB hcc ih
        go_wp2_with fail
        go_ret
        exact ⟨ret_int hE.out, below_box hb⟩
end Go.Proofs.YtepohbcpepkboaaGreat

namespace Go.Proofs.YtepohbcpepkboaaGreat
open Go.RowKit

/-- A clean value. -/
def V.cl : V → Prop
  | .mk k b n m s l q => (0 ≤ k ∧ k ≤ 7) ∧ (k ≠ 2 → b = false) ∧ (k ≠ 3 → k ≠ 4 → n = 0) ∧ (k ≠ 4 → m = 0) ∧ (k ≠ 5 → s = ByteArray.empty) ∧ (k ≠ 6 → k ≠ 7 → l = []) ∧ (k ≠ 7 → q = []) ∧
    (k = 7 → q.length = l.length ∧ Rising q) ∧ (k = 4 → (-9007199254740992 ≤ n ∧ n ≤ 9007199254740992) ∧ (-9007199254740992 ≤ m ∧ m ≤ 9007199254740992)) ∧ go l
  where go : List V → Prop
    | [] => True
    | v :: r => v.cl ∧ go r
set_option maxRecDepth 100000 in
theorem clL_mem : ∀ {l : List V} {x : V}, V.cl.go l → x ∈ l → x.cl
  | y :: r, x, h, hm => by
    simp only [V.cl.go] at h
    rcases List.mem_cons.1 hm with rfl | hm
    · exact h.1
    · exact clL_mem h.2 hm
set_option maxRecDepth 100000 in
theorem clL_of : ∀ {l : List V}, (∀ x ∈ l, x.cl) → V.cl.go l
  | [], _ => trivial
  | y :: r, h => ⟨h y (by simp), clL_of (fun x hx => h x (by simp [hx]))⟩
set_option maxRecDepth 100000 in
theorem clL_append : ∀ (a b : List V), V.cl.go (a ++ b) ↔ V.cl.go a ∧ V.cl.go b
  | [], b => by simp [V.cl.go]
  | x :: a, b => by simp only [List.cons_append, V.cl.go, clL_append a b, and_assoc]
set_option maxRecDepth 100000 in
theorem key256 (q : List ByteArray) (j : Nat) (hj : j < q.length) : (q.take (j + 1)).all (fun x => decide (x.size ≤ 256)) = ((q.take j).all (fun x => decide (x.size ≤ 256)) && decide (q[j].size ≤ 256)) := by
  rw [List.take_succ_eq_append_getElem hj, List.all_append]; simp
set_option maxRecDepth 100000 in
set_option maxHeartbeats 3200000 in
theorem vfits_any {w0 : World} {ok : Nat → Prop} {v : V} {p : VP} (h : VIn w0 ok v p) : ∀ w, Below w0.heap.size w0 w → v.bulk ≤ 1048576 → v.cl →
    Calls Tryz.prog 62 #[v.val p] w fun e w' => e = .returned (.bool v.fits) ∧ Below w.heap.size w w' := by
  induction h using VIn.ind with
  | mk k b n m s l q p P hk hn hm hs hl hq hkeys hc hin ih =>
    intro w hb0 hbk hcl
    obtain ⟨la, lc, ka, kc⟩ := p
    have hll : l.length ≤ 1048576 := by have := len_le_bulkL l; simp only [V.bulk] at hbk; omega
    have hql : q.length ≤ 1048576 := by have := keys_len q; simp only [V.bulk] at hbk; omega
    have hsl : s.size ≤ 1048576 := by simp only [V.bulk] at hbk; omega
    have hbl : V.bulk.go l ≤ 1048576 := by simp only [V.bulk] at hbk; omega
    have hqm : ∀ x ∈ q, x.size ≤ 1048576 := fun x hx => by have := keys_mem hx; simp only [V.bulk] at hbk; omega
    have HS : Hid ((V.mk k b n m s l q).fits = (V.fits.go l && (k != 7 || (q.take l.length).all (fun x => decide (x.size ≤ 256))) && decide (s.size ≤ 256) && decide (l.length ≤ 64))) := by show V.fits _ = _; simp only [V.fits]
    have HB : Hid (∀ wr, Below (w.heap.size + 1) (w.alloc ((V.mk k b n m s l q).box ⟨la, lc, ka, kc⟩)) wr → wr.cell? ⟨w.heap.size, 5, none⟩ = some (.slice la l.length lc) ∧ wr.cell? ⟨w.heap.size, 0, none⟩ = some (.int .i64 k) ∧ wr.cell? ⟨w.heap.size, 4, none⟩ = some (.string s) ∧ wr.cell? ⟨w.heap.size, 6, none⟩ = some (.slice ka q.length kc)) := fun wr hb => ⟨vbox_cell hb 5, vbox_cell hb 0, vbox_cell hb 4, vbox_cell hb 6⟩
    have hcl2 : V.cl.go l ∧ (k = 7 → q.length = l.length) := by
      simp only [V.cl] at hcl
      exact ⟨hcl.2.2.2.2.2.2.2.2.2, fun h => (hcl.2.2.2.2.2.2.2.1 h).1⟩
    obtain ⟨hcg, hq7⟩ := hcl2
    have HK : Hid (∀ (W : World) (j : Nat), Below w0.heap.size w0 W → k = 7 → j < l.length → ∃ kb ko, ka = some ⟨kb, ko, none⟩ ∧ ∃ hj : j < q.length, W.cell? ⟨kb, ko + j, none⟩ = some (.string q[j])) := fun W j hW h7 hj => by
      obtain ⟨kb, ko, rfl, -, hcc⟩ := (hkeys.below hW).2 (by intro e; subst e; have := hq7 h7; simp at this; omega)
      exact ⟨kb, ko, rfl, by have := hq7 h7; omega, hcc j (by have := hq7 h7; omega)⟩
    have HQ7 : Hid (k = 7 → q.length = l.length) := hq7
    clear hk hn hm hs hl hq hkeys hin hbk hcl hq7
    generalize (V.mk k b n m s l q).fits = R at *
    unfold V.val
    unfold V.box at HB
    dsimp only [V.k, V.b, V.n, V.m, V.s, V.l, V.keys] at *
    go_enter Tryz.func62, Tryz.ntmps62
    go_wp2_with fail
    go_loopw [3] (fun si wr => ∃ (j : Nat), j ≤ l.length ∧ si = .int .i64 j ∧ Hid (V.fits.go (l.take j) = true ∧ (k = 7 → (q.take j).all (fun x => decide (x.size ≤ 256)) = true)) ∧ Below (w.heap.size + 1) (w.alloc (.cells #[.int .i64 k, .bool b, .int .i64 n, .int .i64 m, .string s, .slice la l.length lc, .slice ka q.length kc] 25)) wr) (fun si _ => l.length - (intOf si).toNat)
    case atStart => exact ⟨0, by omega, rfl, by simp [Hid, V.fits.go], Below.refl _ _⟩
    case round =>
      obtain ⟨j, hj, rfl, hA, hb⟩ := hrel
      obtain ⟨hbox, hbox0, hbox4, hbox6⟩ := HB.out _ hb
      by_cases hlt : j < l.length
      · have hbw := hb0.trans ((below_box hb).mono hb0.size)
        obtain ⟨bl, off, rfl, -, hcc⟩ := hc (by intro e; subst e; simp at hlt)
        obtain ⟨c0, c1, c2, c3, c4, c5, c6⟩ := (hcc j hlt).below hbw
        have hbj : l[j].bulk ≤ 1048576 := Nat.le_trans (bulk_mem (List.getElem_mem hlt)) hbl
        have hclj := clL_mem hcg (List.getElem_mem hlt)
        have C : Hid (∀ W, Below w0.heap.size w0 W → Calls Tryz.prog 62 #[l[j].val (P j)] W fun e w' => e = .returned (.bool l[j].fits) ∧ Below W.heap.size W w') := fun W hW => ih j hlt W hW hbj hclj
        have HT : Hid (l.take (j + 1) = l.take j ++ [l[j]]) := List.take_succ_eq_append_getElem hlt
        have HR : Hid (l[j].fits = false → R = false) := fun h => by
          have h2 : V.fits.go l = false := by
            have := fitsL_append (l.take (j + 1)) (l.drop (j + 1))
            rw [List.take_append_drop, HT.out, fitsL_append, fitsL_one, h] at this
            simpa using this
          rw [HS.out, h2]; rfl
        have HR7 : Hid (k = 7 → ∀ hq : j < q.length, ¬ q[j].size ≤ 256 → R = false) := fun h7 hq hsz => by
          have : (q.take l.length).all (fun x => decide (x.size ≤ 256)) = false := by
            rw [List.all_eq_false]
            refine ⟨q[j], ?_, by simpa using hsz⟩
            rw [← HQ7.out h7, List.take_length]; exact List.getElem_mem hq
          rw [HS.out, this, h7]; simp
        clear hcc ih HB HS
        generalize l[j] = x at *
        generalize P j = xp at *
        unfold V.val at C
        cases hX : x.fits
        · have hR := HR.out hX
          rw [hX] at C
          clear HR HR7 hX hA HK HT
          go_wp2_with fail
          refine (C.out _ hbw).mono ?_
          rintro e w5 ⟨rfl, hb5⟩
          go_wp2_with fail
          go_ret
          exact ⟨ret_bool hR.symm, (below_box hb).trans (hb5.mono (below_box hb).size)⟩
        · have hA1 : Hid (V.fits.go (l.take (j + 1)) = true) := by show _ = _; rw [HT.out, fitsL_append, fitsL_one, hA.out.1, hX]; rfl
          rw [hX] at C
          by_cases h7 : k = 7
          · subst h7
            have h7 : (7 : Int) = 7 := rfl
            obtain ⟨kb, ko, rfl, hqj, hkc⟩ := HK.out _ j hbw h7 hlt
            have hlast : (hb.size) = (hb.size) := rfl
            have HKW : Hid (∀ W, Below wr.heap.size wr W → W.cell? ⟨kb, ko + j, none⟩ = some (.string q[j])) := fun W hW => (hW.cell (p := ⟨kb, ko + j, none⟩) (World.block_lt_of_cell? _ _ hkc)).trans hkc
            have hsz := hqm _ (List.getElem_mem hqj)
            have HR7' : Hid (¬ q[j].size ≤ 256 → R = false) := HR7.out h7 hqj
            have HA7 : Hid (q[j].size ≤ 256 → (7 : Int) = 7 → (q.take (j + 1)).all (fun x => decide (x.size ≤ 256)) = true) := fun h _ => by rw [key256 q j hqj, hA.out.2 h7]; simpa using h
            clear HR HR7 hX hA HK HT hlast hkc h7
            go_wp2_with fail
            refine (C.out _ hbw).mono ?_
            rintro e w5 ⟨rfl, hb5⟩
            have y0 := (hb5.cell (p := ⟨w.heap.size, 0, none⟩) (World.block_lt_of_cell? _ _ hbox0)).trans hbox0
            have y6 := (hb5.cell (p := ⟨w.heap.size, 6, none⟩) (World.block_lt_of_cell? _ _ hbox6)).trans hbox6
            have hkc := HKW.out _ hb5
            generalize q[j] = y at *
            clear HKW
            have hb5' := hb.trans (hb5.mono (by have := hb.size; simpa using this))
            have hqj' : (j : Int) < (q.length : Int) := by omega
            by_cases h256 : y.size ≤ 256
            · have h256' : ¬ 256 < (y.size : Int) := by omega
              have hA7 := HA7.out h256
              clear HA7 HR7'
              go_wp2_with fail
              go_roundw
              case rel => exact ⟨j + 1, by omega, by go_num, ⟨hA1.out, hA7⟩, hb5'⟩
              case measure => simp [intOf]; omega
            · have h256' : 256 < (y.size : Int) := by omega
              have hR := HR7'.out h256
              clear HA7 HR7'
              go_wp2_with fail
              go_ret
              exact ⟨ret_bool hR.symm, below_box hb5'⟩
          · have h7' : (k == 7) = false := by simpa using h7
            clear HR HR7 hX hA HK HT
            go_wp2_with fail
            refine (C.out _ hbw).mono ?_
            rintro e w5 ⟨rfl, hb5⟩
            have y0 := (hb5.cell (p := ⟨w.heap.size, 0, none⟩) (World.block_lt_of_cell? _ _ hbox0)).trans hbox0
            have hb5' := hb.trans (hb5.mono (by have := hb.size; simpa using this))
            go_wp2_with fail
            go_roundw
            case rel => exact ⟨j + 1, by omega, by go_num, ⟨hA1.out, fun h => absurd h h7⟩, hb5'⟩
            case measure => simp [intOf]; omega
      · have hE : Hid ((decide (s.size ≤ 256) && decide (l.length ≤ 64)) = R) := by
          show _ = _
          obtain ⟨h1, h2⟩ := hA.out
          rw [List.take_of_length_le (by omega)] at h1
          rw [HS.out, h1]
          by_cases h7 : k = 7
          · have h3 := h2 h7
            have : j = l.length := by omega
            subst this
            rw [h3]; simp
          · have e7 : (k != 7) = true := by simpa using h7
            rw [e7]; simp
        clear hA HS HB hc ih HK
        by_cases hs6 : s.size ≤ 256
        · have hs6' : (s.size : Int) ≤ 256 := by omega
          have hE2 : Hid (decide ((l.length : Int) ≤ 64) = R) := by
            show _ = _
            rw [← hE.out]; simp [hs6]
            omega
          clear hE
          go_wp2_with fail
          go_ret
          exact ⟨ret_bool hE2.out, below_box hb⟩
        · have hs6' : ¬ (s.size : Int) ≤ 256 := by omega
          have hE2 : Hid (false = R) := by show _ = _; rw [← hE.out]; simp [hs6]
          clear hE
          go_wp2_with fail
          go_ret
          exact ⟨ret_bool hE2.out, below_box hb⟩
set_option maxRecDepth 100000 in
set_option maxHeartbeats 1600000 in
theorem vright_any {w0 : World} {ok : Nat → Prop} {v : V} {p : VP} (h : VIn w0 ok v p) (w : World) (hb0 : Below w0.heap.size w0 w) (hbk : v.bulk ≤ 1048576) (hcl : v.cl) :
    Calls Tryz.prog 36 #[v.val p] w fun e w' => e = .returned (.bool v.right) ∧ Below w.heap.size w w' := by
  have hbx := below_box (Below.refl (w.heap.size + 1) (w.alloc (v.box p)))
  have CD : Hid (∀ W, Below w.heap.size w W → Calls Tryz.prog 22 #[v.val p] W fun e w' => e = .returned (.int .i64 v.deep) ∧ Below W.heap.size W w') := fun W hW => vdeep_any h W (hb0.trans (hW.mono hb0.size)) hbk
  have CF : Hid (∀ W, Below w.heap.size w W → Calls Tryz.prog 62 #[v.val p] W fun e w' => e = .returned (.bool v.fits) ∧ Below W.heap.size W w') := fun W hW => vfits_any h W (hb0.trans (hW.mono hb0.size)) hbk hcl
  have HR : Hid (v.right = (decide (v.deep ≤ 8) && v.fits)) := rfl
  have hdp : v.deep ≤ 1048576 := Nat.le_trans v.deep_le (Nat.le_trans v.size_le hbk)
  have HB : Hid (∀ wr, Below (w.heap.size + 1) (w.alloc (v.box p)) wr → wr.cell? ⟨w.heap.size, 0, none⟩ = some (.int .i64 v.k) ∧ wr.cell? ⟨w.heap.size, 1, none⟩ = some (.bool v.b) ∧ wr.cell? ⟨w.heap.size, 2, none⟩ = some (.int .i64 v.n) ∧ wr.cell? ⟨w.heap.size, 3, none⟩ = some (.int .i64 v.m) ∧ wr.cell? ⟨w.heap.size, 4, none⟩ = some (.string v.s) ∧ wr.cell? ⟨w.heap.size, 5, none⟩ = some (.slice p.la v.l.length p.lc) ∧ wr.cell? ⟨w.heap.size, 6, none⟩ = some (.slice p.ka v.keys.length p.kc)) := fun wr hb => ⟨vbox_cell hb 0, vbox_cell hb 1, vbox_cell hb 2, vbox_cell hb 3, vbox_cell hb 4, vbox_cell hb 5, vbox_cell hb 6⟩
  clear h hb0 hbk hcl
  generalize v.right = R at *
  generalize v.fits = F at *
  generalize v.deep = D at *
  unfold V.val at CD CF
  unfold V.val
  unfold V.box at HB hbx
  by_cases h8 : D ≤ 8
  · have h8' : (D : Int) ≤ 8 := by omega
    have HR' : Hid (F = R) := by show _ = _; rw [HR.out]; simp [h8]
    clear HR
    go_enter Tryz.func36, Tryz.ntmps36
    go_wp2_with fail
    refine (CD.out _ hbx).mono ?_
    rintro e w1 ⟨rfl, hb1⟩
    have hb1' : Below (w.heap.size + 1) (w.alloc (.cells #[.int .i64 v.k, .bool v.b, .int .i64 v.n, .int .i64 v.m, .string v.s, .slice p.la v.l.length p.lc, .slice p.ka v.keys.length p.kc] 25)) w1 := hb1.mono (by simp)
    obtain ⟨x0, x1, x2, x3, x4, x5, x6⟩ := HB.out _ hb1'
    clear HB hb1
    go_wp2_with fail
    refine (CF.out _ (below_box hb1')).mono ?_
    rintro e w2 ⟨rfl, hb2⟩
    go_wp2_with fail
    go_ret
    exact ⟨ret_bool HR'.out, (below_box hb1').trans (hb2.mono (below_box hb1').size)⟩
  · have h8' : ¬ (D : Int) ≤ 8 := by omega
    have HR' : Hid (false = R) := by show _ = _; rw [HR.out]; simp [h8]
    clear HR
    go_enter Tryz.func36, Tryz.ntmps36
    go_wp2_with fail
    refine (CD.out _ hbx).mono ?_
    rintro e w1 ⟨rfl, hb1⟩
    go_wp2_with fail
    go_ret
    exact ⟨ret_bool HR'.out, hbx.trans (hb1.mono (by simp))⟩
end Go.Proofs.YtepohbcpepkboaaGreat

