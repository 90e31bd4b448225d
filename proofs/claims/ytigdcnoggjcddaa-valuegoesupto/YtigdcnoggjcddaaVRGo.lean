/- Where steps lead, one after the other, as the document tells it: Go. Conditions: a clean value of at most 1048576 values and letters, at most 1048576 steps. -/
import Derived.Test.YtigdcnoggjcddaaVCleanB
import Derived.Test.YtigdcnoggjcddaaVPutP
import Derived.Test.YtigdcnoggjcddaaVTwo
import Derived.Deep.MidRow
namespace Go.Proofs.Ytigdcnoggjcddaa
open Go.RowKit Go.Maps Go.WideMaps

/-- Of no rows. -/
def nilp : VP := ⟨none, 0, none, 0⟩
set_option maxRecDepth 100000 in
theorem null_val : V.null.val nilp = .agg #[.int .i64 0, .bool false, .int .i64 0, .int .i64 0, .string { data := #[] }, .slice none 0 0, .slice none 0 0] := by
  simp [V.val, V.null, nilp]
  rfl
set_option maxRecDepth 100000 in
theorem VIn.nul (W : World) (ok : Nat → Prop) : VIn W ok V.null nilp :=
  VIn.mk 0 false 0 0 ByteArray.empty [] [] nilp (fun _ => nilp) (by unfold I64; omega) (by unfold I64; omega) (by unfold I64; omega) (by decide) ⟨fun _ => ⟨rfl, rfl⟩, Nat.le_refl _, by simp [maxLen, nilp]⟩ ⟨fun _ => ⟨rfl, rfl⟩, Nat.le_refl _, by simp [maxLen, nilp]⟩ (SRow.nil _ _ _) (fun h => absurd rfl h) (fun j hj => by simp at hj)
set_option maxRecDepth 100000 in
theorem setBox_any {W : World} {B : Nat} {u : V} {up : VP} (h : W.heap[B]? = some (u.box up)) (v : V) (p : VP) : (setBox W B v p).heap[B]? = some (v.box p) := by
  unfold V.box at h ⊢
  unfold setBox
  have h0 := heap_setCell_same _ _ 0 _ _ (.int .i64 v.k) h
  have h1 := heap_setCell_same _ _ 1 _ _ (.bool v.b) h0
  have h2 := heap_setCell_same _ _ 2 _ _ (.int .i64 v.n) h1
  have h3 := heap_setCell_same _ _ 3 _ _ (.int .i64 v.m) h2
  have h4 := heap_setCell_same _ _ 4 _ _ (.string v.s) h3
  have h5 := heap_setCell_same _ _ 5 _ _ (.slice p.la v.l.length p.lc) h4
  have h6 := heap_setCell_same _ _ 6 _ _ (.slice p.ka v.keys.length p.kc) h5
  rw [h6]
  rfl
set_option maxRecDepth 100000 in
theorem there_box {W : World} {B : Nat} {u : V} {up : VP} (hz : W.heap[B]? = some (u.box up)) : W.there B 0 7 := by
  intro j hj
  rw [Nat.zero_add]
  refine ⟨?_, frozen_of_row _ _ _ _ _ hz⟩
  rw [cell_of_row _ _ _ _ _ _ hz]
  have : j < 7 := hj
  match j, this with
  | 0, _ => rfl
  | 1, _ => rfl
  | 2, _ => rfl
  | 3, _ => rfl
  | 4, _ => rfl
  | 5, _ => rfl
  | 6, _ => rfl
set_option maxRecDepth 100000 in
/-- A whole value, stored into a box, at a step of a plain region. -/
theorem wpList_setbox {ops : Array Oper} {rest : List Oper} {o : Oper} {a : Act} {W : World} {Q : Exit → Act → World → Prop} (hgd : o.guard = none) (x y : Operand) (ho : o.op = .store 25 x y) (hd : o.dst = none)
    {B : Nat} {u : V} {up : VP} (v : V) (p : VP) (hx : a.eval x = .pointer (some ⟨B, 0, none⟩)) (hy : a.eval y = v.val p) (hz : W.heap[B]? = some (u.box up)) (h : wpList Try.prog ops Q rest a (setBox W B v p)) : wpList Try.prog ops Q (o :: rest) a W := by
  refine wpList_store_mid hgd 25 x y ho B 0 #[.int .i64 v.k, .bool v.b, .int .i64 v.n, .int .i64 v.m, .string v.s, .slice p.la v.l.length p.lc, .slice p.ka v.keys.length p.kc] hx hy (there_box hz) sizeV (by simp [Value.oneCell']) ?_
  rw [hd]
  exact h
set_option maxRecDepth 100000 in
theorem child_of {x : V} (hx : x.cl) (s : St) (h0 : (x.follow s).2 = 0) : ∃ i : Nat, x.placeK s = i ∧ ∃ hi : i < x.l.length, (x.follow s).1 = x.l[i] := by
  have e : x.placeK s = if s.byKey = true then (posK x.keys s.key : Int) else s.at_ := by unfold V.placeK; rw [if_neg (by rw [h0]; simp)]
  cases hb : s.byKey
  · obtain ⟨hk, hi⟩ := (follow_kind h0).2 hb
    have hp := byKey_at hb
    have hlt : s.at_.toNat < x.l.length := by omega
    refine ⟨s.at_.toNat, by rw [e, if_neg (by rw [hb]; simp)]; omega, hlt, ?_⟩
    rw [follow_list hb hk, if_pos hi]
    unfold V.item
    rw [List.getElem?_eq_getElem hlt]; rfl
  · have hk := (follow_kind h0).1 hb
    obtain ⟨-, hl, -, -⟩ := cl_map hx hk
    have hh : x.hasK s.key = true := by
      rw [follow_map hb hk] at h0
      by_cases h3 : x.hasK s.key = true
      · exact h3
      · rw [if_neg h3] at h0; cases h0
    have hlt : posK x.keys s.key < x.l.length := by have := posK_lt ((hasK_mem x s.key).1 hh); omega
    refine ⟨posK x.keys s.key, by rw [e, if_pos hb], hlt, ?_⟩
    rw [follow_map hb hk, if_pos hh, under_yes hh, List.getElem?_eq_getElem hlt]; rfl
set_option maxRecDepth 100000 in
theorem VIn.parts {W : World} {ok : Nat → Prop} {v : V} {p : VP} (h : VIn W ok v p) : ∃ P, VCells W ok p.la v.l P ∧ ∀ j (hj : j < v.l.length), VIn W ok v.l[j] (P j) := by
  induction h using VIn.ind with
  | mk k b n m s l q p P hk hn hm hs hl hq hkeys hc hin ih => exact ⟨P, hc, hin⟩
set_option maxRecDepth 100000 in
set_option maxHeartbeats 3200000 in
theorem rgo_any {w0 : World} {ok : Nat → Prop} {v : V} {p : VP} (h : VIn w0 ok v p) (w : World) (hb0 : Below w0.heap.size w0 w) (hbk : v.bulk ≤ 1048576) (hcl : v.cl) (ao : Option Addr) (l : List St) (c : Nat) (hl : StRow w ao l) (hn : l.length ≤ 1048576) :
    Calls Try.prog 25 #[v.val p, .slice ao l.length c] w fun e w' => ∃ p', e = .returned (.tuple #[(v.goTo l).1.val p', .int .i64 (v.goTo l).2]) ∧ VIn w0 ok (v.goTo l).1 p' ∧ Below w.heap.size w w' := by
  generalize hR : v.goTo l = R
  have CP : Hid (∀ (W : World) (x : V) (xp : VP) (s : St), Below w.heap.size w W → VIn w0 ok x xp → x.bulk ≤ 1048576 → x.cl → Calls Try.prog 52 #[x.val xp, .agg #[.string s.key, .int .i64 s.at_]] W fun e w' => e = .returned (.tuple #[.int .i64 (x.placeK s), .int .i64 (x.follow s).2]) ∧ Below W.heap.size W w') := fun W x xp s hW hx h1 h2 => place_any hx W (hb0.trans (hW.mono hb0.size)) h1 h2 s
  obtain ⟨-, hl2⟩ := hl
  have HC : Hid (∀ (k : Nat) (hk : k < l.length), ∃ (bl off : Nat) (s : St), ao = some ⟨bl, off, none⟩ ∧ l.drop k = s :: l.drop (k + 1) ∧ ∀ W, Below w.heap.size w W → W.cell? ⟨bl, off + k * 2, none⟩ = some (.string s.key) ∧ W.cell? ⟨bl, off + k * 2 + 1, none⟩ = some (.int .i64 s.at_)) := fun k hk => by
    obtain ⟨bl, off, rfl, hcc⟩ := hl2 (by intro e; subst e; simp at hk)
    have hbl : bl < w.heap.size := World.block_lt_of_cell? _ _ (hcc k hk).1
    exact ⟨bl, off, l[k], rfl, List.drop_eq_getElem_cons hk, fun W hW => ⟨(hW.cell (p := ⟨bl, off + k * 2, none⟩) hbl).trans (hcc k hk).1, (hW.cell (p := ⟨bl, off + k * 2 + 1, none⟩) hbl).trans (hcc k hk).2⟩⟩
  have HCH : Hid (∀ (x : V) (xp : VP) (s : St), VIn w0 ok x xp → x.cl → x.bulk ≤ 1048576 → (x.follow s).2 = 0 → ∃ (i : Nat) (cp : VP) (b off : Nat), x.placeK s = i ∧ i < x.l.length ∧ xp.la = some ⟨b, off, none⟩ ∧ VIn w0 ok (x.follow s).1 cp ∧ (x.follow s).1.cl ∧ (x.follow s).1.bulk ≤ 1048576 ∧ ∀ W, Below w.heap.size w W → VAt W b off i (x.follow s).1 cp) := fun x xp s hx h1 h2 h3 => by
    obtain ⟨i, e1, hi, e2⟩ := child_of h1 s h3
    obtain ⟨P, hc, hin⟩ := hx.parts
    obtain ⟨b, off, e3, hb, hat⟩ := hc (by intro e; rw [e] at hi; simp at hi)
    refine ⟨i, P i, b, off, e1, hi, e3, by rw [e2]; exact hin i hi, follow_cl h1 s, Nat.le_trans ?_ h2, fun W hW => ?_⟩
    · rw [e2]
      have h4 := bulk_mem (List.getElem_mem hi)
      obtain ⟨k, bb, n, m, t, l, q⟩ := x
      simp only [V.bulk]
      simp only at h4 hi ⊢
      omega
    · have h5 := hat i hi
      rw [← e2] at h5
      have hW2 := hb0.trans (hW.mono hb0.size)
      have hbl : b < w0.heap.size := World.block_lt_of_cell? _ _ h5.1
      obtain ⟨a0, a1, a2, a3, a4, a5, a6⟩ := h5
      exact ⟨(hW2.cell (p := ⟨b, _, none⟩) hbl).trans a0, (hW2.cell (p := ⟨b, _, none⟩) hbl).trans a1, (hW2.cell (p := ⟨b, _, none⟩) hbl).trans a2, (hW2.cell (p := ⟨b, _, none⟩) hbl).trans a3, (hW2.cell (p := ⟨b, _, none⟩) hbl).trans a4, (hW2.cell (p := ⟨b, _, none⟩) hbl).trans a5, (hW2.cell (p := ⟨b, _, none⟩) hbl).trans a6⟩
  have HR : Hid (v.goTo l = R) := hR
  have hs0 : ((w.alloc (v.box p)).alloc (V.null.box nilp)).heap[w.heap.size]? = some (v.box p) := by rw [Below.heap_alloc _ _ _ (by simp)]; exact heap_alloc_new _ _
  have hs1 : ((w.alloc (v.box p)).alloc (V.null.box nilp)).heap[w.heap.size + 1]? = some (V.null.box nilp) := by simpa using heap_alloc_new (w.alloc (v.box p)) (V.null.box nilp)
  have hbb : Below w.heap.size w ((w.alloc (v.box p)).alloc (V.null.box nilp)) := ((Below.refl _ _).alloc (Nat.le_refl _) _).alloc (by simp) _
  clear hl2 hR hb0
  have hv := h
  clear h
  unfold V.val
  go_enter Try.func25, Try.ntmps25
  go_wp2_with fail
  go_loopw [6] (fun si wr => ∃ (k : Nat) (x : V) (xp : VP), k ≤ l.length ∧ si = .int .i64 k ∧ wr.heap[w.heap.size]? = some (x.box xp) ∧ wr.heap[w.heap.size + 1]? = some (V.null.box nilp) ∧ Below w.heap.size w wr ∧ VIn w0 ok x xp ∧ x.cl ∧ x.bulk ≤ 1048576 ∧ Hid (x.goTo (l.drop k) = R)) (fun si _ => l.length - (intOf si).toNat)
  case atStart => exact ⟨0, v, p, by omega, rfl, hs0, hs1, hbb, hv, hcl, hbk, HR⟩
  case round =>
    obtain ⟨k, x, xp, hkl, rfl, h0, h1, hb, hx, hxc, hxb, hid⟩ := hrel
    clear hs0 hs1 hbb hv HR hbk hcl
    by_cases hlt : k < l.length
    · obtain ⟨bl, off, s, rfl, hdr, hst⟩ := HC.out k hlt
      have HD : Hid (l.drop k = s :: l.drop (k + 1)) := hdr
      have HG : Hid (x.goTo (s :: l.drop (k + 1)) = R) := by rw [← HD.out]; exact hid.out
      have HST : Hid (∀ W, Below wr.heap.size wr W → W.cell? ⟨bl, off + k * 2, none⟩ = some (.string s.key) ∧ W.cell? ⟨bl, off + k * 2 + 1, none⟩ = some (.int .i64 s.at_)) := fun W hW => hst W (hb.trans (hW.mono hb.size))
      have l0 := (Array.getElem?_eq_some_iff.1 h0).1
      have l1 := (Array.getElem?_eq_some_iff.1 h1).1
      have HBX : Hid (∀ W, Below wr.heap.size wr W → W.cell? ⟨w.heap.size, 0, none⟩ = some (.int .i64 x.k) ∧ W.cell? ⟨w.heap.size, 1, none⟩ = some (.bool x.b) ∧ W.cell? ⟨w.heap.size, 2, none⟩ = some (.int .i64 x.n) ∧ W.cell? ⟨w.heap.size, 3, none⟩ = some (.int .i64 x.m) ∧ W.cell? ⟨w.heap.size, 4, none⟩ = some (.string x.s) ∧ W.cell? ⟨w.heap.size, 5, none⟩ = some (.slice xp.la x.l.length xp.lc) ∧ W.cell? ⟨w.heap.size, 6, none⟩ = some (.slice xp.ka x.keys.length xp.kc)) := fun W hW => box_cells ((hW.block _ l0).trans h0)
      have C := CP.out
      clear hdr hst HC HD hid CP
      have hdb : Below wr.heap.size wr wr.drew := (Below.refl _ _).drew
      go_wp2_with fail
      refine wp_region_held_drew (S := fun W => Below wr.heap.size wr W) (by kernel_rfl) hdb (fun hSS => ?_)
      refine wpAnyH_take (i := 0) (v := ?_) rfl (by kernel_rfl) (by kernel_rfl) (by kernel_rfl) (fun _ _ _ h => h) (Or.inl ⟨by rfl, ?_⟩) hSS ?_
      rotate_left
      · intro wz hSz
        obtain ⟨k0, k1, k2, k3, k4, k5, k6⟩ := HBX.out _ hSz
        go_simp
        try with_reducible rfl
      simp only [List.getElem_toArray, List.getElem_cons_zero, Act.put, List.setIfInBounds_toArray, List.set_cons_zero, List.set_cons_succ]
      refine wpAnyH_take (i := 1) (v := ?_) rfl (by kernel_rfl) (by kernel_rfl) (by kernel_rfl) (fun _ _ _ h => h) (Or.inl ⟨by rfl, ?_⟩) hSS ?_
      rotate_left
      · intro wz hSz
        go_simp
        try with_reducible rfl
      simp only [List.getElem_toArray, List.getElem_cons_zero, List.getElem_cons_succ, Act.put, List.setIfInBounds_toArray, List.set_cons_zero, List.set_cons_succ]
      refine wpAnyH_take (i := 2) (v := ?_) rfl (by kernel_rfl) (by kernel_rfl) (by kernel_rfl) (fun _ _ _ h => h) (Or.inl ⟨by rfl, ?_⟩) hSS ?_
      rotate_left
      · intro wz hSz
        go_simp
        try with_reducible rfl
      simp only [List.getElem_toArray, List.getElem_cons_zero, List.getElem_cons_succ, Act.put, List.setIfInBounds_toArray, List.set_cons_zero, List.set_cons_succ]
      refine wpAnyH_take (i := 3) (v := ?_) rfl (by kernel_rfl) (by kernel_rfl) (by kernel_rfl) (fun _ _ _ h => h) (Or.inl ⟨by rfl, ?_⟩) hSS ?_
      rotate_left
      · intro wz hSz
        go_simp
        try with_reducible rfl
      simp only [List.getElem_toArray, List.getElem_cons_zero, List.getElem_cons_succ, Act.put, List.setIfInBounds_toArray, List.set_cons_zero, List.set_cons_succ]
      refine wpAnyH_take (i := 4) (v := ?_) rfl (by kernel_rfl) (by kernel_rfl) (by kernel_rfl) (fun _ _ _ h => h) (Or.inl ⟨by rfl, ?_⟩) hSS ?_
      rotate_left
      · intro wz hSz
        obtain ⟨p0, p1⟩ := HST.out _ hSz
        go_simp
        try with_reducible rfl
      simp only [List.getElem_toArray, List.getElem_cons_zero, List.getElem_cons_succ, Act.put, List.setIfInBounds_toArray, List.set_cons_zero, List.set_cons_succ]
      refine wpAnyH_ready (rs := [5]) (by kernel_rfl) (by simp) (AllReadyH.cons rfl (fun K5 hK5 => ?_) AllReadyH.nil)
      refine step_plain (by rfl) ?_
      simp only [List.getElem_toArray, List.getElem_cons_zero, List.getElem_cons_succ]
      go_simp
      go_at_call 52
      refine (C _ x xp s (hb.trans (hSS.mono hb.size)) hx hxb hxc).mono ?_
      rintro e w2 ⟨rfl, hb2⟩
      go_simp
      refine hK5.out _ _ (hSS.trans (hb2.mono hSS.size)) (fun hSS => ?_)
      clear hK5 C hb2 hdb HST
      refine wpAnyH_take (i := 6) (v := ?_) rfl (by kernel_rfl) (by kernel_rfl) (by kernel_rfl) (fun _ _ _ h => h) (Or.inl ⟨by rfl, ?_⟩) hSS ?_
      rotate_left
      · intro wz hSz
        go_simp
        try with_reducible rfl
      simp only [List.getElem_toArray, List.getElem_cons_zero, List.getElem_cons_succ, Act.put, List.setIfInBounds_toArray, List.set_cons_zero, List.set_cons_succ]
      refine wpAnyH_take (i := 7) (v := ?_) rfl (by kernel_rfl) (by kernel_rfl) (by kernel_rfl) (fun _ _ _ h => h) (Or.inl ⟨by rfl, ?_⟩) hSS ?_
      rotate_left
      · intro wz hSz
        go_simp
        try with_reducible rfl
      simp only [List.getElem_toArray, List.getElem_cons_zero, List.getElem_cons_succ, Act.put, List.setIfInBounds_toArray, List.set_cons_zero, List.set_cons_succ]
      refine wpAnyH_take (i := 8) (v := ?_) rfl (by kernel_rfl) (by kernel_rfl) (by kernel_rfl) (fun _ _ _ h => h) (Or.inl ⟨by rfl, ?_⟩) hSS ?_
      rotate_left
      · intro wz hSz
        go_simp
        try with_reducible rfl
      simp only [List.getElem_toArray, List.getElem_cons_zero, List.getElem_cons_succ, Act.put, List.setIfInBounds_toArray, List.set_cons_zero, List.set_cons_succ]
      refine wpAnyH_take (i := 9) (v := ?_) rfl (by kernel_rfl) (by kernel_rfl) (by kernel_rfl) (fun _ _ _ h => h) (Or.inl ⟨by rfl, ?_⟩) hSS ?_
      rotate_left
      · intro wz hSz
        go_simp
        try with_reducible rfl
      simp only [List.getElem_toArray, List.getElem_cons_zero, List.getElem_cons_succ, Act.put, List.setIfInBounds_toArray, List.set_cons_zero, List.set_cons_succ]
      refine wpAnyH_take (i := 10) (v := ?_) rfl (by kernel_rfl) (by kernel_rfl) (by kernel_rfl) (fun _ _ _ h => h) (Or.inl ⟨by rfl, ?_⟩) hSS ?_
      rotate_left
      · intro wz hSz
        go_simp
        try with_reducible rfl
      simp only [List.getElem_toArray, List.getElem_cons_zero, List.getElem_cons_succ, Act.put, List.setIfInBounds_toArray, List.set_cons_zero, List.set_cons_succ]
      refine wpAnyH_done (by kernel_rfl) ?_ _
      have h02 := (hSS.block _ l0).trans h0
      have h12 := (hSS.block _ l1).trans h1
      have hB2 := hb.trans (hSS.mono hb.size)
      clear HBX h0 h1 hb l0 l1 hSS
      by_cases hE : (x.follow s).2 = 0
      · obtain ⟨i, cp, cb, co, e1, hi, e2, hcv, hcc, hcb, hat⟩ := HCH.out x xp s hx hxc hxb hE
        obtain ⟨a0, a1, a2, a3, a4, a5, a6⟩ := hat w2 hB2
        have HG2 : Hid ((x.follow s).1.goTo (l.drop (k + 1)) = R) := by
          have := HG.out
          rw [V.goTo, if_pos hE] at this
          exact this
        obtain ⟨k0, k1, k2, k3, k4, k5, k6⟩ := box_cells h02
        rw [e2] at k5
        have h03 := setBox_any h02 (x.follow s).1 cp
        have h13 := (setBox_other w2 w.heap.size (x.follow s).1 cp (w.heap.size + 1) (by omega)).trans h12
        have hB3 := setBox_below hB2 (B := w.heap.size) (Nat.le_refl _) (x.follow s).1 cp
        rw [e1]
        have HX2 : Hid (w2.heap[w.heap.size]? = some (x.box xp)) := h02
        have hXc := hcc
        have hXb := hcb
        clear HG hat h02 h12 hcc hcb HCH hx hxc hxb
        generalize (x.follow s).1 = X at *
        generalize (x.follow s).2 = EE at *
        subst hE
        go_wp2_with (refine wpList_setbox rfl _ _ rfl rfl X cp rfl rfl HX2.out ?_; generalize setBox w2 w.heap.size X cp = W3 at *)
        go_roundw
        case rel => exact ⟨k + 1, X, cp, by omega, by go_num, h03, h13, hB3, hcv, hXc, hXb, HG2⟩
        case measure => simp [intOf]; omega
      · have HG2 : Hid (R = (V.null, (x.follow s).2)) := by
          have := HG.out
          rw [V.goTo, if_neg hE] at this
          exact this.symm
        have h13 := setBox_any h12 V.null nilp
        have hB3 := setBox_below hB2 (B := w.heap.size + 1) (by omega) V.null nilp
        have HZ : Hid ((setBox w2 (w.heap.size + 1) V.null nilp).heap[w.heap.size + 1]? = some (V.null.box nilp) ∧ Below w.heap.size w (setBox w2 (w.heap.size + 1) V.null nilp)) := ⟨h13, hB3⟩
        have HX2 : Hid (w2.heap[w.heap.size + 1]? = some (V.null.box nilp)) := h12
        clear HG h02 h12 HCH hx hxc hxb hB2 h13 hB3
        generalize (x.follow s).2 = EE at *
        have hE' : (EE == 0) = false := by simpa using hE
        go_wp2_with (refine wpList_setbox rfl _ _ rfl rfl V.null nilp (by rfl) (by rw [null_val]; rfl) HX2.out ?_; generalize setBox w2 (w.heap.size + 1) V.null nilp = W3 at *)
        obtain ⟨h13, hB3⟩ := HZ.out
        obtain ⟨k0, k1, k2, k3, k4, k5, k6⟩ := box_cells h13
        refine bodyPost_ret (v := .tuple #[V.null.val nilp, .int .i64 EE]) (by simp [results, Try.results25, go_sem, k0, k1, k2, k3, k4, k5, k6, V.val]) rfl ⟨nilp, by rw [HG2.out]; rfl, by rw [HG2.out]; exact VIn.nul _ _, hB3⟩
    · obtain rfl : k = l.length := by omega
      have HG2 : Hid (R = (x, 0)) := by
        have := hid.out
        rw [List.drop_length] at this
        exact this.symm
      have h13 := setBox_any h1 x xp
      have hB3 := setBox_below hb (B := w.heap.size + 1) (by omega) x xp
      obtain ⟨k0, k1, k2, k3, k4, k5, k6⟩ := box_cells h0
      obtain ⟨l0, l1, l2, l3, l4, l5, l6⟩ := box_cells h13
      have HX2 : Hid (wr.heap[w.heap.size + 1]? = some (V.null.box nilp)) := h1
      clear hid h0 h1 hb HC CP HCH hxc hxb
      go_wp2_with (refine wpList_setbox rfl _ _ rfl rfl x xp rfl rfl HX2.out ?_; generalize setBox wr (w.heap.size + 1) x xp = W3 at *)
      refine bodyPost_ret (v := .tuple #[x.val xp, .int .i64 0]) (by simp [results, Try.results25, go_sem, l0, l1, l2, l3, l4, l5, l6, V.val]) rfl ⟨xp, by rw [HG2.out]; rfl, by rw [HG2.out]; exact hx, hB3⟩
end Go.Proofs.Ytigdcnoggjcddaa

