/- A slice of values that a call makes one by one. No conditions; no function of the program. -/
import Derived.Test.YtigdcnoggjcddaaVMeasA
import Derived.Test.YtigdcnoggjcddaaVRead
import Derived.Test.YtigdcnoggjcddaaVSort
import Derived.Test.YtigdcnoggjcddaaVGoTo
import Derived.Maps.AppendAt
namespace Go.Proofs.Ytigdcnoggjcddaa
open Go.RowKit

/-- A clean value. -/
def V.cl : V → Prop
  | .mk k b n m s l q => (0 ≤ k ∧ k ≤ 7) ∧ (k ≠ 2 → b = false) ∧ (k ≠ 3 → k ≠ 4 → n = 0) ∧ (k ≠ 4 → m = 0) ∧ (k ≠ 5 → s = ByteArray.empty) ∧ (k ≠ 6 → k ≠ 7 → l = []) ∧ (k ≠ 7 → q = []) ∧
    (k = 7 → q.length = l.length ∧ Rising q) ∧ (k = 4 → (-9007199254740992 ≤ n ∧ n ≤ 9007199254740992) ∧ (-9007199254740992 ≤ m ∧ m ≤ 9007199254740992)) ∧ go l
  where go : List V → Prop
    | [] => True
    | v :: r => v.cl ∧ go r
set_option maxRecDepth 100000 in
theorem clL_mem : ∀ {l : List V} {x : V}, V.cl.go l → x ∈ l → x.cl
  | y :: r, x, h, hm => by
    simp only [V.cl.go] at h
    rcases List.mem_cons.1 hm with rfl | hm
    · exact h.1
    · exact clL_mem h.2 hm
set_option maxRecDepth 100000 in
theorem clL_of : ∀ {l : List V}, (∀ x ∈ l, x.cl) → V.cl.go l
  | [], _ => trivial
  | y :: r, h => ⟨h y (by simp), clL_of (fun x hx => h x (by simp [hx]))⟩
set_option maxRecDepth 100000 in
theorem clL_append : ∀ (a b : List V), V.cl.go (a ++ b) ↔ V.cl.go a ∧ V.cl.go b
  | [], b => by simp [V.cl.go]
  | x :: a, b => by simp only [List.cons_append, V.cl.go, clL_append a b, and_assoc]
set_option maxRecDepth 100000 in
theorem key256 (q : List ByteArray) (j : Nat) (hj : j < q.length) : (q.take (j + 1)).all (fun x => decide (x.size ≤ 256)) = ((q.take j).all (fun x => decide (x.size ≤ 256)) && decide (q[j].size ≤ 256)) := by
  rw [List.take_succ_eq_append_getElem hj, List.all_append]; simp
set_option maxRecDepth 100000 in
set_option maxHeartbeats 3200000 in
theorem vfits_any {w0 : World} {ok : Nat → Prop} {v : V} {p : VP} (h : VIn w0 ok v p) : ∀ w, Below w0.heap.size w0 w → v.bulk ≤ 1048576 → v.cl →
    Calls Try.prog 48 #[v.val p] w fun e w' => e = .returned (.bool v.fits) ∧ Below w.heap.size w w' := by
  induction h using VIn.ind with
  | mk k b n m s l q p P hk hn hm hs hl hq hkeys hc hin ih =>
    intro w hb0 hbk hcl
    obtain ⟨la, lc, ka, kc⟩ := p
    have hll : l.length ≤ 1048576 := by have := len_le_bulkL l; simp only [V.bulk] at hbk; omega
    have hql : q.length ≤ 1048576 := by have := keys_len q; simp only [V.bulk] at hbk; omega
    have hsl : s.size ≤ 1048576 := by simp only [V.bulk] at hbk; omega
    have hbl : V.bulk.go l ≤ 1048576 := by simp only [V.bulk] at hbk; omega
    have hqm : ∀ x ∈ q, x.size ≤ 1048576 := fun x hx => by have := keys_mem hx; simp only [V.bulk] at hbk; omega
    have HS : Hid ((V.mk k b n m s l q).fits = (V.fits.go l && (k != 7 || (q.take l.length).all (fun x => decide (x.size ≤ 256))) && decide (s.size ≤ 256) && decide (l.length ≤ 64))) := by show V.fits _ = _; simp only [V.fits]
    have HB : Hid (∀ wr, Below (w.heap.size + 1) (w.alloc ((V.mk k b n m s l q).box ⟨la, lc, ka, kc⟩)) wr → wr.cell? ⟨w.heap.size, 5, none⟩ = some (.slice la l.length lc) ∧ wr.cell? ⟨w.heap.size, 0, none⟩ = some (.int .i64 k) ∧ wr.cell? ⟨w.heap.size, 4, none⟩ = some (.string s) ∧ wr.cell? ⟨w.heap.size, 6, none⟩ = some (.slice ka q.length kc)) := fun wr hb => ⟨vbox_cell hb 5, vbox_cell hb 0, vbox_cell hb 4, vbox_cell hb 6⟩
    have hcl2 : V.cl.go l ∧ (k = 7 → q.length = l.length) := by
      simp only [V.cl] at hcl
      exact ⟨hcl.2.2.2.2.2.2.2.2.2, fun h => (hcl.2.2.2.2.2.2.2.1 h).1⟩
    obtain ⟨hcg, hq7⟩ := hcl2
    have HK : Hid (∀ (W : World) (j : Nat), Below w0.heap.size w0 W → k = 7 → j < l.length → ∃ kb ko, ka = some ⟨kb, ko, none⟩ ∧ ∃ hj : j < q.length, W.cell? ⟨kb, ko + j, none⟩ = some (.string q[j])) := fun W j hW h7 hj => by
      obtain ⟨kb, ko, rfl, -, hcc⟩ := (hkeys.below hW).2 (by intro e; subst e; have := hq7 h7; simp at this; omega)
      exact ⟨kb, ko, rfl, by have := hq7 h7; omega, hcc j (by have := hq7 h7; omega)⟩
    have HQ7 : Hid (k = 7 → q.length = l.length) := hq7
    clear hk hn hm hs hl hq hkeys hin hbk hcl hq7
    generalize (V.mk k b n m s l q).fits = R at *
    unfold V.val
    unfold V.box at HB
    dsimp only [V.k, V.b, V.n, V.m, V.s, V.l, V.keys] at *
    go_enter Try.func48, Try.ntmps48
    go_wp2_with fail
    go_loopw [3] (fun si wr => ∃ (j : Nat), j ≤ l.length ∧ si = .int .i64 j ∧ Hid (V.fits.go (l.take j) = true ∧ (k = 7 → (q.take j).all (fun x => decide (x.size ≤ 256)) = true)) ∧ Below (w.heap.size + 1) (w.alloc (.cells #[.int .i64 k, .bool b, .int .i64 n, .int .i64 m, .string s, .slice la l.length lc, .slice ka q.length kc] 25)) wr) (fun si _ => l.length - (intOf si).toNat)
    case atStart => exact ⟨0, by omega, rfl, by simp [Hid, V.fits.go], Below.refl _ _⟩
    case round =>
      obtain ⟨j, hj, rfl, hA, hb⟩ := hrel
      obtain ⟨hbox, hbox0, hbox4, hbox6⟩ := HB.out _ hb
      by_cases hlt : j < l.length
      · have hbw := hb0.trans ((below_box hb).mono hb0.size)
        obtain ⟨bl, off, rfl, -, hcc⟩ := hc (by intro e; subst e; simp at hlt)
        obtain ⟨c0, c1, c2, c3, c4, c5, c6⟩ := (hcc j hlt).below hbw
        have hbj : l[j].bulk ≤ 1048576 := Nat.le_trans (bulk_mem (List.getElem_mem hlt)) hbl
        have hclj := clL_mem hcg (List.getElem_mem hlt)
        have C : Hid (∀ W, Below w0.heap.size w0 W → Calls Try.prog 48 #[l[j].val (P j)] W fun e w' => e = .returned (.bool l[j].fits) ∧ Below W.heap.size W w') := fun W hW => ih j hlt W hW hbj hclj
        have HT : Hid (l.take (j + 1) = l.take j ++ [l[j]]) := List.take_succ_eq_append_getElem hlt
        have HR : Hid (l[j].fits = false → R = false) := fun h => by
          have h2 : V.fits.go l = false := by
            have := fitsL_append (l.take (j + 1)) (l.drop (j + 1))
            rw [List.take_append_drop, HT.out, fitsL_append, fitsL_one, h] at this
            simpa using this
          rw [HS.out, h2]; rfl
        have HR7 : Hid (k = 7 → ∀ hq : j < q.length, ¬ q[j].size ≤ 256 → R = false) := fun h7 hq hsz => by
          have : (q.take l.length).all (fun x => decide (x.size ≤ 256)) = false := by
            rw [List.all_eq_false]
            refine ⟨q[j], ?_, by simpa using hsz⟩
            rw [← HQ7.out h7, List.take_length]; exact List.getElem_mem hq
          rw [HS.out, this, h7]; simp
        clear hcc ih HB HS
        generalize l[j] = x at *
        generalize P j = xp at *
        unfold V.val at C
        cases hX : x.fits
        · have hR := HR.out hX
          rw [hX] at C
          clear HR HR7 hX hA HK HT
          go_wp2_with fail
          refine (C.out _ hbw).mono ?_
          rintro e w5 ⟨rfl, hb5⟩
          go_wp2_with fail
          go_ret
          exact ⟨ret_bool hR.symm, (below_box hb).trans (hb5.mono (below_box hb).size)⟩
        · have hA1 : Hid (V.fits.go (l.take (j + 1)) = true) := by show _ = _; rw [HT.out, fitsL_append, fitsL_one, hA.out.1, hX]; rfl
          rw [hX] at C
          by_cases h7 : k = 7
          · subst h7
            have h7 : (7 : Int) = 7 := rfl
            obtain ⟨kb, ko, rfl, hqj, hkc⟩ := HK.out _ j hbw h7 hlt
            have hlast : (hb.size) = (hb.size) := rfl
            have HKW : Hid (∀ W, Below wr.heap.size wr W → W.cell? ⟨kb, ko + j, none⟩ = some (.string q[j])) := fun W hW => (hW.cell (p := ⟨kb, ko + j, none⟩) (World.block_lt_of_cell? _ _ hkc)).trans hkc
            have hsz := hqm _ (List.getElem_mem hqj)
            have HR7' : Hid (¬ q[j].size ≤ 256 → R = false) := HR7.out h7 hqj
            have HA7 : Hid (q[j].size ≤ 256 → (7 : Int) = 7 → (q.take (j + 1)).all (fun x => decide (x.size ≤ 256)) = true) := fun h _ => by rw [key256 q j hqj, hA.out.2 h7]; simpa using h
            clear HR HR7 hX hA HK HT hlast hkc h7
            go_wp2_with fail
            refine (C.out _ hbw).mono ?_
            rintro e w5 ⟨rfl, hb5⟩
            have y0 := (hb5.cell (p := ⟨w.heap.size, 0, none⟩) (World.block_lt_of_cell? _ _ hbox0)).trans hbox0
            have y6 := (hb5.cell (p := ⟨w.heap.size, 6, none⟩) (World.block_lt_of_cell? _ _ hbox6)).trans hbox6
            have hkc := HKW.out _ hb5
            generalize q[j] = y at *
            clear HKW
            have hb5' := hb.trans (hb5.mono (by have := hb.size; simpa using this))
            have hqj' : (j : Int) < (q.length : Int) := by omega
            by_cases h256 : y.size ≤ 256
            · have h256' : ¬ 256 < (y.size : Int) := by omega
              have hA7 := HA7.out h256
              clear HA7 HR7'
              go_wp2_with fail
              go_roundw
              case rel => exact ⟨j + 1, by omega, by go_num, ⟨hA1.out, hA7⟩, hb5'⟩
              case measure => simp [intOf]; omega
            · have h256' : 256 < (y.size : Int) := by omega
              have hR := HR7'.out h256
              clear HA7 HR7'
              go_wp2_with fail
              go_ret
              exact ⟨ret_bool hR.symm, below_box hb5'⟩
          · have h7' : (k == 7) = false := by simpa using h7
            clear HR HR7 hX hA HK HT
            go_wp2_with fail
            refine (C.out _ hbw).mono ?_
            rintro e w5 ⟨rfl, hb5⟩
            have y0 := (hb5.cell (p := ⟨w.heap.size, 0, none⟩) (World.block_lt_of_cell? _ _ hbox0)).trans hbox0
            have hb5' := hb.trans (hb5.mono (by have := hb.size; simpa using this))
            go_wp2_with fail
            go_roundw
            case rel => exact ⟨j + 1, by omega, by go_num, ⟨hA1.out, fun h => absurd h h7⟩, hb5'⟩
            case measure => simp [intOf]; omega
      · have hE : Hid ((decide (s.size ≤ 256) && decide (l.length ≤ 64)) = R) := by
          show _ = _
          obtain ⟨h1, h2⟩ := hA.out
          rw [List.take_of_length_le (by omega)] at h1
          rw [HS.out, h1]
          by_cases h7 : k = 7
          · have h3 := h2 h7
            have : j = l.length := by omega
            subst this
            rw [h3]; simp
          · have e7 : (k != 7) = true := by simpa using h7
            rw [e7]; simp
        clear hA HS HB hc ih HK
        by_cases hs6 : s.size ≤ 256
        · have hs6' : (s.size : Int) ≤ 256 := by omega
          have hE2 : Hid (decide ((l.length : Int) ≤ 64) = R) := by
            show _ = _
            rw [← hE.out]; simp [hs6]
            omega
          clear hE
          go_wp2_with fail
          go_ret
          exact ⟨ret_bool hE2.out, below_box hb⟩
        · have hs6' : ¬ (s.size : Int) ≤ 256 := by omega
          have hE2 : Hid (false = R) := by show _ = _; rw [← hE.out]; simp [hs6]
          clear hE
          go_wp2_with fail
          go_ret
          exact ⟨ret_bool hE2.out, below_box hb⟩
set_option maxRecDepth 100000 in
set_option maxHeartbeats 1600000 in
theorem vright_any {w0 : World} {ok : Nat → Prop} {v : V} {p : VP} (h : VIn w0 ok v p) (w : World) (hb0 : Below w0.heap.size w0 w) (hbk : v.bulk ≤ 1048576) (hcl : v.cl) :
    Calls Try.prog 19 #[v.val p] w fun e w' => e = .returned (.bool v.right) ∧ Below w.heap.size w w' := by
  have hbx := below_box (Below.refl (w.heap.size + 1) (w.alloc (v.box p)))
  have CD : Hid (∀ W, Below w.heap.size w W → Calls Try.prog 15 #[v.val p] W fun e w' => e = .returned (.int .i64 v.deep) ∧ Below W.heap.size W w') := fun W hW => vdeep_any h W (hb0.trans (hW.mono hb0.size)) hbk
  have CF : Hid (∀ W, Below w.heap.size w W → Calls Try.prog 48 #[v.val p] W fun e w' => e = .returned (.bool v.fits) ∧ Below W.heap.size W w') := fun W hW => vfits_any h W (hb0.trans (hW.mono hb0.size)) hbk hcl
  have HR : Hid (v.right = (decide (v.deep ≤ 8) && v.fits)) := rfl
  have hdp : v.deep ≤ 1048576 := Nat.le_trans v.deep_le (Nat.le_trans v.size_le hbk)
  have HB : Hid (∀ wr, Below (w.heap.size + 1) (w.alloc (v.box p)) wr → wr.cell? ⟨w.heap.size, 0, none⟩ = some (.int .i64 v.k) ∧ wr.cell? ⟨w.heap.size, 1, none⟩ = some (.bool v.b) ∧ wr.cell? ⟨w.heap.size, 2, none⟩ = some (.int .i64 v.n) ∧ wr.cell? ⟨w.heap.size, 3, none⟩ = some (.int .i64 v.m) ∧ wr.cell? ⟨w.heap.size, 4, none⟩ = some (.string v.s) ∧ wr.cell? ⟨w.heap.size, 5, none⟩ = some (.slice p.la v.l.length p.lc) ∧ wr.cell? ⟨w.heap.size, 6, none⟩ = some (.slice p.ka v.keys.length p.kc)) := fun wr hb => ⟨vbox_cell hb 0, vbox_cell hb 1, vbox_cell hb 2, vbox_cell hb 3, vbox_cell hb 4, vbox_cell hb 5, vbox_cell hb 6⟩
  clear h hb0 hbk hcl
  generalize v.right = R at *
  generalize v.fits = F at *
  generalize v.deep = D at *
  unfold V.val at CD CF
  unfold V.val
  unfold V.box at HB hbx
  by_cases h8 : D ≤ 8
  · have h8' : (D : Int) ≤ 8 := by omega
    have HR' : Hid (F = R) := by show _ = _; rw [HR.out]; simp [h8]
    clear HR
    go_enter Try.func19, Try.ntmps19
    go_wp2_with fail
    refine (CD.out _ hbx).mono ?_
    rintro e w1 ⟨rfl, hb1⟩
    have hb1' : Below (w.heap.size + 1) (w.alloc (.cells #[.int .i64 v.k, .bool v.b, .int .i64 v.n, .int .i64 v.m, .string v.s, .slice p.la v.l.length p.lc, .slice p.ka v.keys.length p.kc] 25)) w1 := hb1.mono (by simp)
    obtain ⟨x0, x1, x2, x3, x4, x5, x6⟩ := HB.out _ hb1'
    clear HB hb1
    go_wp2_with fail
    refine (CF.out _ (below_box hb1')).mono ?_
    rintro e w2 ⟨rfl, hb2⟩
    go_wp2_with fail
    go_ret
    exact ⟨ret_bool HR'.out, (below_box hb1').trans (hb2.mono (below_box hb1').size)⟩
  · have h8' : ¬ (D : Int) ≤ 8 := by omega
    have HR' : Hid (false = R) := by show _ = _; rw [HR.out]; simp [h8]
    clear HR
    go_enter Try.func19, Try.ntmps19
    go_wp2_with fail
    refine (CD.out _ hbx).mono ?_
    rintro e w1 ⟨rfl, hb1⟩
    go_wp2_with fail
    go_ret
    exact ⟨ret_bool HR'.out, hbx.trans (hb1.mono (by simp))⟩
end Go.Proofs.Ytigdcnoggjcddaa

namespace Go.Proofs.Ytigdcnoggjcddaa
open Go.RowKit Go.Maps Go.WideMaps

set_option maxRecDepth 100000 in
theorem sortK_of {q : List ByteArray} (h : Rising q) : sortK q = q := rising_ext (sortK_rising q h.nodup) h (sortK_perm q)
set_option maxRecDepth 100000 in
theorem pick_of {q : List ByteArray} {l : List V} (h : Rising q) (hl : q.length = l.length) : pick q l = l := by
  unfold pick
  rw [sortK_of h]
  apply List.ext_getElem (by simpa using hl)
  intro j h3 h4
  rw [List.getElem_map, posK_nodup h.nodup]
  simp [h4]
/-- Values, in a row of the call's own; what they hold lies elsewhere. -/
def VOwn (W : World) (n : Nat) (sv : Value) (l : List V) : Prop :=
  ∃ us : List Value, W.ownsRow n 30 1 sv l.length us ∧ us.length = l.length ∧ ∀ i (hi : i < us.length) (hl : i < l.length), Rep W (fun b => n ≤ b ∧ sv.ownBlock ≠ some b) us[i] l[i]
set_option maxRecDepth 100000 in
theorem VOwn.nil (W : World) (n : Nat) : VOwn W n (.slice none 0 0) [] := ⟨[], World.ownsRow_nil _ _ _ _, rfl, fun i hi _ => by simp at hi⟩
set_option maxRecDepth 100000 in
theorem VOwn.below {W W' : World} {n : Nat} {sv : Value} {l : List V} (h : VOwn W n sv l) (hb : Below W.heap.size W W') : VOwn W' n sv l := by
  obtain ⟨us, h1, h2, h3⟩ := h
  exact ⟨us, cown_below h1 hb, h2, fun i hi hl => (h3 i hi hl).stays hb⟩
set_option maxRecDepth 100000 in
theorem VOwn.snoc {W1 W2 W4 : World} {n : Nat} {sv v' u : Value} {l : List V} {x : V} {us : List Value} (hr : ∀ i (hi : i < us.length) (hl : i < l.length), Rep W1 (fun b => n ≤ b ∧ sv.ownBlock ≠ some b) us[i] l[i]) (hlen : us.length = l.length) (ho : W1.ownsRow n 30 1 sv l.length us)
    (hb : Below W1.heap.size W1 W2) (hu : Rep W2 (fun b => W1.heap.size ≤ b) u x) (hn : n ≤ W1.heap.size)
    (h4 : W4.ownsRow n 30 1 v' (l.length + 1) (us ++ [u])) (hg : (W2.alloc (.cells #[u] 30)).grownBy W4 sv.ownBlock) (ha : v'.ownBlock = sv.ownBlock ∨ v'.ownBlock = some (W2.alloc (.cells #[u] 30)).heap.size) : VOwn W4 n v' (l ++ [x]) := by
  have hb3 : Below W1.heap.size W1 (W2.alloc (.cells #[u] 30)) := hb.alloc hb.size _
  have hs := hb3.size
  refine ⟨us ++ [u], by rw [List.length_append]; exact h4, by simp [hlen], fun i hi hl => ?_⟩
  by_cases hlt : i < us.length
  · have h1 := (hr i hlt (by omega)).low
    have h2 := h1.stays hb3
    have h3 : Rep W4 (fun b => (n ≤ b ∧ sv.ownBlock ≠ some b) ∧ b < W1.heap.size) us[i] l[i] := h2.agree (fun b hb' _ => hg.block b (by omega) (fun e => hb'.1.2 e.symm))
    have h5 := h3.mono (ok' := fun b => n ≤ b ∧ v'.ownBlock ≠ some b) (fun b hb' _ => ⟨hb'.1.1, fun e => by
      rcases ha with ha | ha
      · exact hb'.1.2 (ha ▸ e)
      · rw [ha] at e; injection e with e; omega⟩)
    rw [List.getElem_append_left hlt, List.getElem_append_left (by omega)]
    exact h5
  · obtain rfl : i = us.length := by simp at hi; omega
    have h2 := hu.low.stays ((Below.refl _ W2).alloc (Nat.le_refl _) (.cells #[u] 30))
    have h3 : Rep W4 (fun b => W1.heap.size ≤ b ∧ b < W2.heap.size) u x := h2.agree (fun b hb' _ => hg.block b (by simp; omega) (fun e => by have := (ho.lt b e.symm).2; omega))
    have h5 := h3.mono (ok' := fun b => n ≤ b ∧ v'.ownBlock ≠ some b) (fun b hb' _ => ⟨by omega, fun e => by
      rcases ha with ha | ha
      · rw [ha] at e; have := (ho.lt b e).2; omega
      · rw [ha] at e; injection e with e; simp at e; omega⟩)
    rw [List.getElem_append_right (Nat.le_refl _), List.getElem_append_right (by omega)]
    simpa [hlen] using h5
set_option maxRecDepth 100000 in
theorem VOwn.row {W : World} {n : Nat} {sv : Value} {l : List V} (h : VOwn W n sv l) : ∃ a c, sv = .slice a l.length c ∧ RRow W (fun b => n ≤ b) a l ∧ SliceOk a l.length c := by
  obtain ⟨us, h1, h2, h3⟩ := h
  obtain ⟨a, c, rfl, hc, hk, -⟩ := own_crow h1 (ok := fun b => n ≤ b) (fun b hb => hb)
  refine ⟨a, c, rfl, ⟨fun i => us[i]?.getD undef, fun hn => ?_, fun i hi => ?_⟩, hk⟩
  · obtain ⟨b, off, e, hb, hcc⟩ := hc (by intro e; rw [e] at h2; simp at h2; omega)
    refine ⟨b, off, e, hb, fun j hj => hcc j _ ?_⟩
    have hj' : j < us.length := by omega
    simp [hj']
  · have hi' : i < us.length := by omega
    have := (h3 i hi' hi).mono (ok' := fun b => n ≤ b) (fun b hb _ => hb.1)
    simpa [hi'] using this
end Go.Proofs.Ytigdcnoggjcddaa

