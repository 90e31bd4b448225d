/- A value with another one where steps lead, as the document tells it: With, of one more value behind a List's last one. Conditions: clean values of at most 1048576 values and letters. -/
import Derived.Test.YtigdcnoggjcddaaVRWithA
namespace Go.Proofs.Ytigdcnoggjcddaa
open Go.RowKit Go.Maps Go.WideMaps

/-- Which blocks a value that is made may lie in. -/
def okB (ok : Nat → Prop) (n X b : Nat) : Prop := (ok b ∧ b < n) ∨ X ≤ b
set_option maxRecDepth 100000 in
theorem vl2_row2 {W : World} {ok : Nat → Prop} {X : Nat} {sv : Value} {l : List V} (h : VL2 W ok X sv l) (hk : ∀ b, X ≤ b → ok b) : ∃ a c, sv = .slice a l.length c ∧ SliceOk a l.length c ∧ VRow W ok a l := by
  obtain ⟨ps, h1, h2, h3⟩ := h
  have hlen : ps.length = l.length := by rw [← h1]; simp
  rcases h2.2 with ⟨hv, h0⟩ | ⟨g, cap, cur, hv, hg, hblk, hc, hm, hcur⟩
  · have hl : l = [] := List.eq_nil_of_length_eq_zero h0
    subst hl
    exact ⟨none, 0, hv, ⟨fun _ => ⟨rfl, rfl⟩, Nat.le_refl _, by simp [maxLen]⟩, VRow.nil _ _ _⟩
  · refine ⟨some ⟨g, 0, none⟩, cap, hv, ⟨(fun h => by cases h), hc, hm⟩, fun j => (ps[j]?.getD (V.null, ⟨none, 0, none, 0⟩)).2, fun hz => ⟨g, 0, rfl, hk g hg, fun j hj => ?_⟩, fun j hj => ?_⟩
    · have hj' : j < ps.length := by omega
      have hcell : ∀ i, i < 7 → W.cell? ⟨g, 0 + j * 7 + i, none⟩ = (ps[j].1.cells ps[j].2)[i]? := fun i hi => by
        have h5 := h2.cells (g := g) (by rw [hv]; rfl)
        have h6 := vcells_at ps j i hj' hi
        have hi7 : i < (ps[j].1.cells ps[j].2).length := by rw [cells_len]; exact hi
        obtain ⟨u, hu⟩ : ∃ u, (ps[j].1.cells ps[j].2)[i]? = some u := ⟨_, getElem?_pos (ps[j].1.cells ps[j].2) i hi7⟩
        have h7 := h5 (j * 7 + i) u (by rw [h6, hu])
        rw [hu, ← h7, Addr.add_lit]
        simp
      have e1 : ps[j].1 = l[j] := by simp only [← h1, List.getElem_map]
      have e2 : (ps[j]?.getD (V.null, ⟨none, 0, none, 0⟩)).2 = ps[j].2 := by simp [hj']
      dsimp only
      rw [e2, ← e1]
      exact ⟨hcell 0 (by omega), hcell 1 (by omega), hcell 2 (by omega), hcell 3 (by omega), hcell 4 (by omega), hcell 5 (by omega), hcell 6 (by omega)⟩
    · have hj' : j < ps.length := by omega
      have e1 : ps[j].1 = l[j] := by simp only [← h1, List.getElem_map]
      have e2 : (ps[j]?.getD (V.null, ⟨none, 0, none, 0⟩)).2 = ps[j].2 := by simp [hj']
      dsimp only
      rw [e2, ← e1]
      exact (h3 _ (List.getElem_mem hj')).mono (fun b hb _ => hb.1)
set_option maxRecDepth 100000 in
theorem list_val (l : List V) (a : Option Addr) (c : Nat) : (V.list l).val ⟨a, c, none, 0⟩ = .agg #[.int .i64 6, .bool false, .int .i64 0, .int .i64 0, .string { data := #[] }, .slice a l.length c, .slice none 0 0] := by
  simp [V.val, V.list]
  rfl
set_option maxRecDepth 100000 in
theorem VIn.list {W : World} {ok : Nat → Prop} {l : List V} {a : Option Addr} {c : Nat} (hs : SliceOk a l.length c) (h : VRow W ok a l) : VIn W ok (V.list l) ⟨a, c, none, 0⟩ := by
  obtain ⟨P, hc, hin⟩ := h
  exact VIn.mk 6 false 0 0 ByteArray.empty l [] ⟨a, c, none, 0⟩ P (by unfold I64; omega) (by unfold I64; omega) (by unfold I64; omega) (by decide) hs ⟨fun _ => ⟨rfl, rfl⟩, Nat.le_refl _, by simp [maxLen]⟩ (SRow.nil _ _ _) hc hin
/-- What With reads again: both values' boxes, and the first step. -/
def RB (w W : World) (v : V) (p : VP) (x : V) (xp : VP) (bl off : Nat) (s : St) : Prop := bl < w.heap.size ∧ W.heap[w.heap.size]? = some (v.box p) ∧ W.heap[w.heap.size + 1]? = some (x.box xp) ∧ W.cell? ⟨bl, off, none⟩ = some (.string s.key) ∧ W.cell? ⟨bl, off + 1, none⟩ = some (.int .i64 s.at_)
set_option maxRecDepth 100000 in
theorem RB.upto {w W W' : World} {v : V} {p : VP} {x : V} {xp : VP} {bl off : Nat} {s : St} {X : Nat} (h : RB w W v p x xp bl off s) (hX : w.heap.size + 3 ≤ X) (hb : Below X W W') : RB w W' v p x xp bl off s := by
  obtain ⟨h0, h1, h2, h3, h4⟩ := h
  exact ⟨h0, (hb.block _ (by omega)).trans h1, (hb.block _ (by omega)).trans h2, (hb.cell (p := ⟨bl, off, none⟩) (by show bl < X; omega)).trans h3, (hb.cell (p := ⟨bl, off + 1, none⟩) (by show bl < X; omega)).trans h4⟩
set_option maxRecDepth 100000 in
theorem RB.drew {w W : World} {v : V} {p : VP} {x : V} {xp : VP} {bl off : Nat} {s : St} (h : RB w W v p x xp bl off s) : RB w W.drew v p x xp bl off s := h
set_option maxRecDepth 100000 in
theorem RB.set {w W : World} {v : V} {p : VP} {x : V} {xp : VP} {bl off : Nat} {s : St} (h : RB w W v p x xp bl off s) (y : V) (yp : VP) : RB w (setBox W (w.heap.size + 2) y yp) v p x xp bl off s := by
  have e := fun k hk => setBox_other W (w.heap.size + 2) y yp k hk
  generalize setBox W (w.heap.size + 2) y yp = WZ at *
  obtain ⟨h0, h1, h2, h3, h4⟩ := h
  exact ⟨h0, (e _ (by omega)).trans h1, (e _ (by omega)).trans h2, (World.cell?_of_block (e bl (by omega))).trans h3, (World.cell?_of_block (e bl (by omega))).trans h4⟩
set_option maxRecDepth 100000 in
theorem RB.cells {w W : World} {v : V} {p : VP} {x : V} {xp : VP} {bl off : Nat} {s : St} (h : RB w W v p x xp bl off s) : (W.cell? ⟨w.heap.size, 0, none⟩ = some (.int .i64 v.k) ∧ W.cell? ⟨w.heap.size, 1, none⟩ = some (.bool v.b) ∧ W.cell? ⟨w.heap.size, 2, none⟩ = some (.int .i64 v.n) ∧ W.cell? ⟨w.heap.size, 3, none⟩ = some (.int .i64 v.m) ∧ W.cell? ⟨w.heap.size, 4, none⟩ = some (.string v.s) ∧ W.cell? ⟨w.heap.size, 5, none⟩ = some (.slice p.la v.l.length p.lc) ∧ W.cell? ⟨w.heap.size, 6, none⟩ = some (.slice p.ka v.keys.length p.kc)) ∧ (W.cell? ⟨w.heap.size + 1, 0, none⟩ = some (.int .i64 x.k) ∧ W.cell? ⟨w.heap.size + 1, 1, none⟩ = some (.bool x.b) ∧ W.cell? ⟨w.heap.size + 1, 2, none⟩ = some (.int .i64 x.n) ∧ W.cell? ⟨w.heap.size + 1, 3, none⟩ = some (.int .i64 x.m) ∧ W.cell? ⟨w.heap.size + 1, 4, none⟩ = some (.string x.s) ∧ W.cell? ⟨w.heap.size + 1, 5, none⟩ = some (.slice xp.la x.l.length xp.lc) ∧ W.cell? ⟨w.heap.size + 1, 6, none⟩ = some (.slice xp.ka x.keys.length xp.kc)) ∧ W.cell? ⟨bl, off, none⟩ = some (.string s.key) ∧ W.cell? ⟨bl, off + 1, none⟩ = some (.int .i64 s.at_) :=
  ⟨box_cells h.2.1, box_cells h.2.2.1, h.2.2.2⟩
set_option maxRecDepth 100000 in
set_option maxHeartbeats 6400000 in
theorem rwith_next {w0 : World} {ok : Nat → Prop} {v x : V} {p xp : VP} (hv : VIn w0 ok v p) (hx : VIn w0 ok x xp) (w : World) (hb0 : Below w0.heap.size w0 w) (hbk : v.bulk ≤ 1048576) (hcl : v.cl) (ao : Option Addr) (s : St) (c : Nat) (hl : StRow w ao [s]) (h0 : (v.follow s).2 = 2) (hat : s.at_ = v.l.length) :
    Calls Try.prog 26 #[v.val p, x.val xp, .slice ao 1 c] w fun e w' => ∃ p', e = .returned (.tuple #[(V.list (v.l ++ [x])).val p', .int .i64 0]) ∧ VIn w' (fun b => (ok b ∧ b < w.heap.size) ∨ w.heap.size ≤ b) (V.list (v.l ++ [x])) p' ∧ Below w.heap.size w w' := by
  obtain ⟨-, hl2⟩ := hl
  obtain ⟨bl, off, rfl, hcc⟩ := hl2 (by simp)
  have hc0 := hcc 0 (by simp)
  have hbl : bl < w.heap.size := World.block_lt_of_cell? _ _ hc0.1
  obtain ⟨b1, b2, b3, hbb⟩ := W3.boxes w v p x xp
  have l3 := (Array.getElem?_eq_some_iff.1 b3).1
  have hsz : (W3 w v p x xp).heap.size = w.heap.size + 3 := by unfold W3; simp
  have CP : Hid (∀ W, Below (W3 w v p x xp).heap.size (W3 w v p x xp) W → Calls Try.prog 52 #[v.val p, .agg #[.string s.key, .int .i64 s.at_]] W fun e w' => e = .returned (.tuple #[.int .i64 (v.placeK s), .int .i64 (v.follow s).2]) ∧ Below W.heap.size W w') := fun W hW => place_any hv W (hb0.trans ((hbb.trans (hW.mono hbb.size)).mono hb0.size)) hbk hcl s
  have hRB : RB w (W3 w v p x xp) v p x xp bl off s := ⟨hbl, b1, b2, by simpa using (hbb.cell (p := ⟨bl, off + 0 * 2, none⟩) hbl).trans hc0.1, by simpa using (hbb.cell (p := ⟨bl, off + 0 * 2 + 1, none⟩) hbl).trans hc0.2⟩
  have HVR : Hid (∀ W (sv : Value), Below (W3 w v p x xp).heap.size (W3 w v p x xp) W → (∀ k, sv.ownBlock = some k → (W3 w v p x xp).heap.size ≤ k) → VRow W (fun b => okB ok w.heap.size (W3 w v p x xp).heap.size b ∧ sv.ownBlock ≠ some b) p.la v.l) := fun W sv hW hs => by
    obtain ⟨P, hc, hin⟩ := hv.parts
    have h1 : VRow w0 ok p.la v.l := ⟨P, hc, hin⟩
    have hs0 := hb0.size
    exact (h1.mono (ok' := fun b => okB ok w.heap.size (W3 w v p x xp).heap.size b ∧ sv.ownBlock ≠ some b) (fun b h1 h2 => ⟨Or.inl ⟨h1, by omega⟩, fun e => by have := hs b e; omega⟩)).below (hb0.trans ((hbb.trans (hW.mono hbb.size)).mono hb0.size))
  have HXI : Hid (∀ W (sv : Value), Below (W3 w v p x xp).heap.size (W3 w v p x xp) W → (∀ k, sv.ownBlock = some k → (W3 w v p x xp).heap.size ≤ k) → VIn W (fun b => okB ok w.heap.size (W3 w v p x xp).heap.size b ∧ sv.ownBlock ≠ some b) x xp) := fun W sv hW hs => by
    have hs0 := hb0.size
    exact (hx.mono (ok' := fun b => okB ok w.heap.size (W3 w v p x xp).heap.size b ∧ sv.ownBlock ≠ some b) (fun b h1 h2 => ⟨Or.inl ⟨h1, by omega⟩, fun e => by have := hs b e; omega⟩)).stays (hb0.trans ((hbb.trans (hW.mono hbb.size)).mono hb0.size))
  have HZL : Hid (∀ W a c, Below (W3 w v p x xp).heap.size (W3 w v p x xp) W → RB w W v p x xp bl off s → SliceOk a (v.l ++ [x]).length c → VRow W (okB ok w.heap.size (W3 w v p x xp).heap.size) a (v.l ++ [x]) → W.heap[w.heap.size + 2]? = some zbox ∧ (setBox W (w.heap.size + 2) (V.list (v.l ++ [x])) ⟨a, c, none, 0⟩).heap[w.heap.size + 2]? = some ((V.list (v.l ++ [x])).box ⟨a, c, none, 0⟩) ∧ Below w.heap.size w (setBox W (w.heap.size + 2) (V.list (v.l ++ [x])) ⟨a, c, none, 0⟩) ∧ RB w (setBox W (w.heap.size + 2) (V.list (v.l ++ [x])) ⟨a, c, none, 0⟩) v p x xp bl off s ∧ VIn (setBox W (w.heap.size + 2) (V.list (v.l ++ [x])) ⟨a, c, none, 0⟩) (fun b => (ok b ∧ b < w.heap.size) ∨ w.heap.size ≤ b) (V.list (v.l ++ [x])) ⟨a, c, none, 0⟩) := fun W a c hW hR hs hr => by
    have e1 := (hW.block _ l3).trans b3
    refine ⟨e1, setBox_any e1 _ _, setBox_below (hbb.trans (hW.mono hbb.size)) (by omega) _ _, hR.set _ _, ?_⟩
    have h1 := (VIn.list hs hr).setBox (B := w.heap.size + 2) (fun b hb => by rcases hb with ⟨-, h⟩ | h <;> omega) (V.list (v.l ++ [x])) ⟨a, c, none, 0⟩
    exact h1.mono (fun b hb _ => by rcases hb with h | h; exact Or.inl h; exact Or.inr (by omega))
  have hno : p.la = none → v.l.length = 0 ∧ p.lc = 0 := by
    cases hv using VIn.ind with
    | mk k b n m s l q p P hk hn hm hs hl hq hkeys hc hin ih => exact hl.1
  have hll : v.l.length ≤ 1048576 := by
    obtain ⟨k, b, n, m, t, l, q⟩ := v
    have := len_le_bulkL l; simp only [V.bulk] at hbk; simp only; omega
  have HAT : Hid (s.at_ = v.l.length) := hat
  have HNO : Hid (p.la = none → v.l.length = 0 ∧ p.lc = 0) := hno
  clear hv hx hb0 hbk hcl hl2 hcc hc0 hbl b1 b2 b3 hbb l3 hat hno
  obtain ⟨LX, hLX⟩ : ∃ LX, v.l ++ [x] = LX := ⟨_, rfl⟩
  rw [hLX] at HZL ⊢
  have HLX : Hid (v.l ++ [x] = LX) := hLX
  clear hLX
  unfold V.val at CP
  show Calls Try.prog 26 #[.agg #[.int .i64 v.k, .bool v.b, .int .i64 v.n, .int .i64 v.m, .string v.s, .slice p.la v.l.length p.lc, .slice p.ka v.keys.length p.kc], .agg #[.int .i64 x.k, .bool x.b, .int .i64 x.n, .int .i64 x.m, .string x.s, .slice xp.la x.l.length xp.lc, .slice xp.ka x.keys.length xp.kc], .slice (some ⟨bl, off, none⟩) 1 c] w _
  rw [h0] at CP
  generalize v.placeK s = PK at *
  clear h0
  go_enter Try.func26, Try.ntmps26
  go_wp2_with fail
  generalize hW0 : ((w.alloc (.cells #[.int .i64 v.k, .bool v.b, .int .i64 v.n, .int .i64 v.m, .string v.s, .slice p.la v.l.length p.lc, .slice p.ka v.keys.length p.kc] 25)).alloc (.cells #[.int .i64 x.k, .bool x.b, .int .i64 x.n, .int .i64 x.m, .string x.s, .slice xp.la x.l.length xp.lc, .slice xp.ka x.keys.length xp.kc] 25)).alloc _ = W0
  have hW : W3 w v p x xp = W0 := hW0
  rw [hW] at CP hRB HVR HXI HZL hsz
  clear hW hW0
  have hX0 : w.heap.size + 3 ≤ W0.heap.size := by omega
  have hSB : Below W0.heap.size W0 W0.drew := (Below.refl _ _).drew
  refine wp_region_held_drew (S := fun W => RB w W v p x xp bl off s) (by kernel_rfl) hRB.drew (fun hSS => ?_)
  refine wpAnyH_take (i := 0) (v := ?_) rfl (by kernel_rfl) (by kernel_rfl) (by kernel_rfl) (fun _ _ _ h => h) (Or.inl ⟨by rfl, ?_⟩) hSS ?_
  rotate_left
  · intro wz hSz
    obtain ⟨⟨k0, k1, k2, k3, k4, k5, k6⟩, ⟨j0, j1, j2, j3, j4, j5, j6⟩, p0, p1⟩ := hSz.cells
    go_simp
    try with_reducible rfl
  simp only [List.getElem_toArray, List.getElem_cons_zero, Act.put, List.setIfInBounds_toArray, List.set_cons_zero, List.set_cons_succ]
  refine wpAnyH_take (i := 1) (v := ?_) rfl (by kernel_rfl) (by kernel_rfl) (by kernel_rfl) (fun _ _ _ h => h) (Or.inl ⟨by rfl, ?_⟩) hSS ?_
  rotate_left
  · intro wz hSz
    go_simp
    try with_reducible rfl
  simp only [List.getElem_toArray, List.getElem_cons_zero, List.getElem_cons_succ, Act.put, List.setIfInBounds_toArray, List.set_cons_zero, List.set_cons_succ]
  refine wpAnyH_take (i := 2) (v := ?_) rfl (by kernel_rfl) (by kernel_rfl) (by kernel_rfl) (fun _ _ _ h => h) (Or.inl ⟨by rfl, ?_⟩) hSS ?_
  rotate_left
  · intro wz hSz
    go_simp
    try with_reducible rfl
  simp only [List.getElem_toArray, List.getElem_cons_zero, List.getElem_cons_succ, Act.put, List.setIfInBounds_toArray, List.set_cons_zero, List.set_cons_succ]
  refine wpAnyH_take (i := 3) (v := ?_) rfl (by kernel_rfl) (by kernel_rfl) (by kernel_rfl) (fun _ _ _ h => h) (Or.inl ⟨by rfl, ?_⟩) hSS ?_
  rotate_left
  · intro wz hSz
    obtain ⟨⟨k0, k1, k2, k3, k4, k5, k6⟩, ⟨j0, j1, j2, j3, j4, j5, j6⟩, p0, p1⟩ := hSz.cells
    go_simp
    try with_reducible rfl
  simp only [List.getElem_toArray, List.getElem_cons_zero, List.getElem_cons_succ, Act.put, List.setIfInBounds_toArray, List.set_cons_zero, List.set_cons_succ]
  refine wpAnyH_ready (rs := [4]) (by kernel_rfl) (by simp) (AllReadyH.cons rfl (fun K4 hK4 => ?_) AllReadyH.nil)
  refine step_plain (by rfl) ?_
  simp only [List.getElem_toArray, List.getElem_cons_zero, List.getElem_cons_succ]
  go_simp
  go_at_call 52
  refine (CP.out _ hSB).mono ?_
  rintro e w1 ⟨rfl, hb1⟩
  go_simp
  refine hK4.out _ _ (hSS.upto hX0 (hb1.mono hSB.size)) (fun hSS => ?_)
  replace hSB := hSB.trans (hb1.mono hSB.size)
  clear hK4 hb1 CP hRB
  refine wpAnyH_take (i := 5) (v := ?_) rfl (by kernel_rfl) (by kernel_rfl) (by kernel_rfl) (fun _ _ _ h => h) (Or.inl ⟨by rfl, ?_⟩) hSS ?_
  rotate_left
  · intro wz hSz
    go_simp
    try with_reducible rfl
  simp only [List.getElem_toArray, List.getElem_cons_zero, List.getElem_cons_succ, Act.put, List.setIfInBounds_toArray, List.set_cons_zero, List.set_cons_succ]
  refine wpAnyH_take (i := 6) (v := ?_) rfl (by kernel_rfl) (by kernel_rfl) (by kernel_rfl) (fun _ _ _ h => h) (Or.inl ⟨by rfl, ?_⟩) hSS ?_
  rotate_left
  · intro wz hSz
    go_simp
    try with_reducible rfl
  simp only [List.getElem_toArray, List.getElem_cons_zero, List.getElem_cons_succ, Act.put, List.setIfInBounds_toArray, List.set_cons_zero, List.set_cons_succ]
  refine wpAnyH_take (i := 7) (v := ?_) rfl (by kernel_rfl) (by kernel_rfl) (by kernel_rfl) (fun _ _ _ h => h) (Or.inl ⟨by rfl, ?_⟩) hSS ?_
  rotate_left
  · intro wz hSz
    go_simp
    try with_reducible rfl
  simp only [List.getElem_toArray, List.getElem_cons_zero, List.getElem_cons_succ, Act.put, List.setIfInBounds_toArray, List.set_cons_zero, List.set_cons_succ]
  refine wpAnyH_take (i := 8) (v := ?_) rfl (by kernel_rfl) (by kernel_rfl) (by kernel_rfl) (fun _ _ _ h => h) (Or.inl ⟨by rfl, ?_⟩) hSS ?_
  rotate_left
  · intro wz hSz
    go_simp
    try with_reducible rfl
  simp only [List.getElem_toArray, List.getElem_cons_zero, List.getElem_cons_succ, Act.put, List.setIfInBounds_toArray, List.set_cons_zero, List.set_cons_succ]
  refine wpAnyH_take (i := 9) (v := ?_) rfl (by kernel_rfl) (by kernel_rfl) (by kernel_rfl) (fun _ _ _ h => h) (Or.inl ⟨by rfl, ?_⟩) hSS ?_
  rotate_left
  · intro wz hSz
    go_simp
    try with_reducible rfl
  simp only [List.getElem_toArray, List.getElem_cons_zero, List.getElem_cons_succ, Act.put, List.setIfInBounds_toArray, List.set_cons_zero, List.set_cons_succ]
  refine wpAnyH_done (by kernel_rfl) ?_ _
  go_wp2_with fail
  refine wp_region_held_drew (S := fun W => RB w W v p x xp bl off s) (by kernel_rfl) hSS.drew (fun hSS => ?_)
  refine wpAnyH_take (i := 0) (v := ?_) rfl (by kernel_rfl) (by kernel_rfl) (by kernel_rfl) (fun _ _ _ h => h) (Or.inl ⟨by rfl, ?_⟩) hSS ?_
  rotate_left
  · intro wz hSz
    go_simp
    try with_reducible rfl
  simp only [List.getElem_toArray, List.getElem_cons_zero, Act.put, List.setIfInBounds_toArray, List.set_cons_zero, List.set_cons_succ]
  refine wpAnyH_take (i := 1) (v := ?_) rfl (by kernel_rfl) (by kernel_rfl) (by kernel_rfl) (fun _ _ _ h => h) (Or.inl ⟨by rfl, ?_⟩) hSS ?_
  rotate_left
  · intro wz hSz
    go_simp
    try with_reducible rfl
  simp only [List.getElem_toArray, List.getElem_cons_zero, List.getElem_cons_succ, Act.put, List.setIfInBounds_toArray, List.set_cons_zero, List.set_cons_succ]
  refine wpAnyH_take (i := 2) (v := .bool false) rfl (by kernel_rfl) (by kernel_rfl) (by kernel_rfl) (fun _ _ _ h => h) (Or.inl ⟨by rfl, ?_⟩) hSS ?_
  · intro wz hSz
    go_simp
  simp only [List.getElem_toArray, List.getElem_cons_zero, List.getElem_cons_succ, Act.put, List.setIfInBounds_toArray, List.set_cons_zero, List.set_cons_succ]
  refine wpAnyH_take (i := 3) (v := ?_) rfl (by kernel_rfl) (by kernel_rfl) (by kernel_rfl) (fun _ _ _ h => h) (Or.inl ⟨by rfl, ?_⟩) hSS ?_
  rotate_left
  · intro wz hSz
    go_simp
    try with_reducible rfl
  simp only [List.getElem_toArray, List.getElem_cons_zero, List.getElem_cons_succ, Act.put, List.setIfInBounds_toArray, List.set_cons_zero, List.set_cons_succ]
  refine wpAnyH_take (i := 4) (v := ?_) rfl (by kernel_rfl) (by kernel_rfl) (by kernel_rfl) (fun _ _ _ h => h) (Or.inl ⟨by rfl, ?_⟩) hSS ?_
  rotate_left
  · intro wz hSz
    go_simp
    try with_reducible rfl
  simp only [List.getElem_toArray, List.getElem_cons_zero, List.getElem_cons_succ, Act.put, List.setIfInBounds_toArray, List.set_cons_zero, List.set_cons_succ]
  refine wpAnyH_take (i := 5) (v := .bool true) rfl (by kernel_rfl) (by kernel_rfl) (by kernel_rfl) (fun _ _ _ h => h) (Or.inl ⟨by rfl, ?_⟩) hSS ?_
  · intro wz hSz
    go_simp
  simp only [List.getElem_toArray, List.getElem_cons_zero, List.getElem_cons_succ, Act.put, List.setIfInBounds_toArray, List.set_cons_zero, List.set_cons_succ]
  refine wpAnyH_take (i := 6) (v := ?_) rfl (by kernel_rfl) (by kernel_rfl) (by kernel_rfl) (fun _ _ _ h => h) (Or.inl ⟨by rfl, ?_⟩) hSS ?_
  rotate_left
  · intro wz hSz
    go_simp
    try with_reducible rfl
  simp only [List.getElem_toArray, List.getElem_cons_zero, List.getElem_cons_succ, Act.put, List.setIfInBounds_toArray, List.set_cons_zero, List.set_cons_succ]
  refine wpAnyH_take (i := 7) (v := ?_) rfl (by kernel_rfl) (by kernel_rfl) (by kernel_rfl) (fun _ _ _ h => h) (Or.inl ⟨by rfl, ?_⟩) hSS ?_
  rotate_left
  · intro wz hSz
    go_simp
    try with_reducible rfl
  simp only [List.getElem_toArray, List.getElem_cons_zero, List.getElem_cons_succ, Act.put, List.setIfInBounds_toArray, List.set_cons_zero, List.set_cons_succ]
  refine wpAnyH_take (i := 8) (v := .bool true) rfl (by kernel_rfl) (by kernel_rfl) (by kernel_rfl) (fun _ _ _ h => h) (Or.inl ⟨by rfl, ?_⟩) hSS ?_
  · intro wz hSz
    go_simp
  simp only [List.getElem_toArray, List.getElem_cons_zero, List.getElem_cons_succ, Act.put, List.setIfInBounds_toArray, List.set_cons_zero, List.set_cons_succ]
  refine wpAnyH_take (i := 9) (v := ?_) rfl (by kernel_rfl) (by kernel_rfl) (by kernel_rfl) (fun _ _ _ h => h) (Or.inl ⟨by rfl, ?_⟩) hSS ?_
  rotate_left
  · intro wz hSz
    go_simp
    try with_reducible rfl
  simp only [List.getElem_toArray, List.getElem_cons_zero, List.getElem_cons_succ, Act.put, List.setIfInBounds_toArray, List.set_cons_zero, List.set_cons_succ]
  refine wpAnyH_take (i := 10) (v := ?_) rfl (by kernel_rfl) (by kernel_rfl) (by kernel_rfl) (fun _ _ _ h => h) (Or.inl ⟨by rfl, ?_⟩) hSS ?_
  rotate_left
  · intro wz hSz
    go_simp
    try with_reducible rfl
  simp only [List.getElem_toArray, List.getElem_cons_zero, List.getElem_cons_succ, Act.put, List.setIfInBounds_toArray, List.set_cons_zero, List.set_cons_succ]
  refine wpAnyH_take (i := 11) (v := ?_) rfl (by kernel_rfl) (by kernel_rfl) (by kernel_rfl) (fun _ _ _ h => h) (Or.inl ⟨by rfl, ?_⟩) hSS ?_
  rotate_left
  · intro wz hSz
    go_simp
    try with_reducible rfl
  simp only [List.getElem_toArray, List.getElem_cons_zero, List.getElem_cons_succ, Act.put, List.setIfInBounds_toArray, List.set_cons_zero, List.set_cons_succ]
  refine wpAnyH_take (i := 12) (v := ?_) rfl (by kernel_rfl) (by kernel_rfl) (by kernel_rfl) (fun _ _ _ h => h) (Or.inl ⟨by rfl, ?_⟩) hSS ?_
  rotate_left
  · intro wz hSz
    go_simp
    try with_reducible rfl
  simp only [List.getElem_toArray, List.getElem_cons_zero, List.getElem_cons_succ, Act.put, List.setIfInBounds_toArray, List.set_cons_zero, List.set_cons_succ]
  refine wpAnyH_take (i := 13) (v := ?_) rfl (by kernel_rfl) (by kernel_rfl) (by kernel_rfl) (fun _ _ _ h => h) (Or.inl ⟨by rfl, ?_⟩) hSS ?_
  rotate_left
  · intro wz hSz
    obtain ⟨⟨k0, k1, k2, k3, k4, k5, k6⟩, ⟨j0, j1, j2, j3, j4, j5, j6⟩, p0, p1⟩ := hSz.cells
    go_simp
    try with_reducible rfl
  simp only [List.getElem_toArray, List.getElem_cons_zero, List.getElem_cons_succ, Act.put, List.setIfInBounds_toArray, List.set_cons_zero, List.set_cons_succ]
  refine wpAnyH_take (i := 14) (v := ?_) rfl (by kernel_rfl) (by kernel_rfl) (by kernel_rfl) (fun _ _ _ h => h) (Or.inl ⟨by rfl, ?_⟩) hSS ?_
  rotate_left
  · intro wz hSz
    go_simp
    try with_reducible rfl
  simp only [List.getElem_toArray, List.getElem_cons_zero, List.getElem_cons_succ, Act.put, List.setIfInBounds_toArray, List.set_cons_zero, List.set_cons_succ]
  refine wpAnyH_take (i := 15) (v := ?_) rfl (by kernel_rfl) (by kernel_rfl) (by kernel_rfl) (fun _ _ _ h => h) (Or.inl ⟨by rfl, ?_⟩) hSS ?_
  rotate_left
  · intro wz hSz
    obtain ⟨⟨k0, k1, k2, k3, k4, k5, k6⟩, ⟨j0, j1, j2, j3, j4, j5, j6⟩, p0, p1⟩ := hSz.cells
    go_simp
    try with_reducible rfl
  simp only [List.getElem_toArray, List.getElem_cons_zero, List.getElem_cons_succ, Act.put, List.setIfInBounds_toArray, List.set_cons_zero, List.set_cons_succ]
  refine wpAnyH_take (i := 16) (v := ?_) rfl (by kernel_rfl) (by kernel_rfl) (by kernel_rfl) (fun _ _ _ h => h) (Or.inl ⟨by rfl, ?_⟩) hSS ?_
  rotate_left
  · intro wz hSz
    go_simp
    try with_reducible rfl
  simp only [List.getElem_toArray, List.getElem_cons_zero, List.getElem_cons_succ, Act.put, List.setIfInBounds_toArray, List.set_cons_zero, List.set_cons_succ]
  refine wpAnyH_take (i := 17) (v := .bool true) rfl (by kernel_rfl) (by kernel_rfl) (by kernel_rfl) (fun _ _ _ h => h) (Or.inl ⟨by rfl, ?_⟩) hSS ?_
  · intro wz hSz
    have hat := HAT.out
    go_simp
  simp only [List.getElem_toArray, List.getElem_cons_zero, List.getElem_cons_succ, Act.put, List.setIfInBounds_toArray, List.set_cons_zero, List.set_cons_succ]
  refine wpAnyH_take (i := 18) (v := .bool true) rfl (by kernel_rfl) (by kernel_rfl) (by kernel_rfl) (fun _ _ _ h => h) (Or.inl ⟨by rfl, ?_⟩) hSS ?_
  · intro wz hSz
    go_simp
  simp only [List.getElem_toArray, List.getElem_cons_zero, List.getElem_cons_succ, Act.put, List.setIfInBounds_toArray, List.set_cons_zero, List.set_cons_succ]
  refine wpAnyH_take (i := 19) (v := .bool false) rfl (by kernel_rfl) (by kernel_rfl) (by kernel_rfl) (fun _ _ _ h => h) (Or.inl ⟨by rfl, ?_⟩) hSS ?_
  · intro wz hSz
    go_simp
  simp only [List.getElem_toArray, List.getElem_cons_zero, List.getElem_cons_succ, Act.put, List.setIfInBounds_toArray, List.set_cons_zero, List.set_cons_succ]
  refine wpAnyH_take (i := 20) (v := .bool false) rfl (by kernel_rfl) (by kernel_rfl) (by kernel_rfl) (fun _ _ _ h => h) (Or.inl ⟨by rfl, ?_⟩) hSS ?_
  · intro wz hSz
    go_simp
  simp only [List.getElem_toArray, List.getElem_cons_zero, List.getElem_cons_succ, Act.put, List.setIfInBounds_toArray, List.set_cons_zero, List.set_cons_succ]
  refine wpAnyH_take (i := 21) (v := .bool false) rfl (by kernel_rfl) (by kernel_rfl) (by kernel_rfl) (fun _ _ _ h => h) (Or.inl ⟨by rfl, ?_⟩) hSS ?_
  · intro wz hSz
    go_simp
  simp only [List.getElem_toArray, List.getElem_cons_zero, List.getElem_cons_succ, Act.put, List.setIfInBounds_toArray, List.set_cons_zero, List.set_cons_succ]
  refine wpAnyH_done (by kernel_rfl) ?_ _
  replace hSB := hSB.drew
  go_wp2_with fail
  refine wp_region_held_drew (S := fun W => RB w W v p x xp bl off s) (by kernel_rfl) hSS.drew (fun hSS => ?_)
  replace hSB := hSB.drew
  refine wpAnyH_take (i := 1) (v := ?_) rfl (by kernel_rfl) (by kernel_rfl) (by kernel_rfl) (fun _ _ _ h => h) (Or.inl ⟨by rfl, ?_⟩) hSS ?_
  rotate_left
  · intro wz hSz
    go_simp
    try with_reducible rfl
  simp only [List.getElem_toArray, List.getElem_cons_zero, List.getElem_cons_succ, Act.put, List.setIfInBounds_toArray, List.set_cons_zero, List.set_cons_succ]
  refine wpAnyH_take (i := 2) (v := ?_) rfl (by kernel_rfl) (by kernel_rfl) (by kernel_rfl) (fun _ _ _ h => h) (Or.inl ⟨by rfl, ?_⟩) hSS ?_
  rotate_left
  · intro wz hSz
    obtain ⟨⟨k0, k1, k2, k3, k4, k5, k6⟩, ⟨j0, j1, j2, j3, j4, j5, j6⟩, p0, p1⟩ := hSz.cells
    go_simp
    try with_reducible rfl
  simp only [List.getElem_toArray, List.getElem_cons_zero, List.getElem_cons_succ, Act.put, List.setIfInBounds_toArray, List.set_cons_zero, List.set_cons_succ]
  refine wpAnyH_take (i := 4) (v := ?_) rfl (by kernel_rfl) (by kernel_rfl) (by kernel_rfl) (fun _ _ _ h => h) (Or.inl ⟨by rfl, ?_⟩) hSS ?_
  rotate_left
  · intro wz hSz
    obtain ⟨⟨k0, k1, k2, k3, k4, k5, k6⟩, ⟨j0, j1, j2, j3, j4, j5, j6⟩, p0, p1⟩ := hSz.cells
    go_simp
    try with_reducible rfl
  simp only [List.getElem_toArray, List.getElem_cons_zero, List.getElem_cons_succ, Act.put, List.setIfInBounds_toArray, List.set_cons_zero, List.set_cons_succ]
  generalize w1.drew.drew = V0 at *
  refine wpAnyH_ready (rs := [0, 5]) (by kernel_rfl) (by simp) (AllReadyH.cons rfl (fun K1 hK1 => ?_) (AllReadyH.cons rfl (fun K1 hK1 => ?_) AllReadyH.nil))
  · refine step_plain (by rfl) ?_
    simp only [List.getElem_toArray, List.getElem_cons_zero]
    go_simp
    have hbn : Below V0.heap.size V0 (V0.alloc (.cells #[] 25)) := (Below.refl _ _).alloc (Nat.le_refl _) _
    have hV : VL2 (V0.alloc (.cells #[] 25)) (okB ok w.heap.size W0.heap.size) W0.heap.size (.slice (some ⟨V0.heap.size, 0, none⟩) 0 0) [] := VL2.none _ _ _ _ hSB.size _ (0, 0) rfl (heap_alloc_new _ _) rfl
    refine hK1.out _ _ (hSS.upto hX0 (hbn.mono hSB.size)) (fun hSS => ?_)
    replace hSB := hSB.trans (hbn.mono hSB.size)
    clear hK1 hbn
    generalize V0.alloc (.cells #[] 25) = W1 at *
    refine wpAnyH_ready (rs := [3, 5]) (by kernel_rfl) (by simp) (AllReadyH.cons rfl (fun K2 hK2 => ?_) (AllReadyH.cons rfl (fun K2 hK2 => ?_) AllReadyH.nil))
    · obtain ⟨sv3, W2, hrun, hV3, hg3, ha3⟩ := append_vals hV (HVR.out _ (Value.slice (some ⟨V0.heap.size, 0, none⟩) 0 0) hSB (fun k hk => (hV.own k hk).1)) rfl HNO.out hSB.size (by simp; omega) _
      refine step_append_any (by rfl) _ _ _ (by rfl) _ _ (by rfl) (by rfl) hrun ?_
      have hbn : Below W0.heap.size W1 W2 := (Below.refl _ _).grown hg3 hSB.size (fun k hk => (hV.own k hk).1)
      replace hV := hV3
      rw [List.nil_append] at hV
      refine hK2.out _ _ (hSS.upto hX0 hbn) (fun hSS => ?_)
      replace hSB := hSB.trans hbn
      clear hK2 hbn hV3 hg3 ha3 hrun
      refine wpAnyH_ready (rs := [5]) (by kernel_rfl) (by simp) (AllReadyH.cons rfl (fun K3 hK3 => ?_) AllReadyH.nil)
      refine step_plain (by rfl) ?_
      simp only [List.getElem_toArray, List.getElem_cons_zero, List.getElem_cons_succ]
      go_simp
      have hbn : Below W2.heap.size W2 (W2.alloc (.cells #[.int .i64 x.k, .bool x.b, .int .i64 x.n, .int .i64 x.m, .string x.s, .slice xp.la x.l.length xp.lc, .slice xp.ka x.keys.length xp.kc] 25)) := (Below.refl _ _).alloc (Nat.le_refl _) _
      have hX := heap_alloc_new W2 (.cells #[.int .i64 x.k, .bool x.b, .int .i64 x.n, .int .i64 x.m, .string x.s, .slice xp.la x.l.length xp.lc, .slice xp.ka x.keys.length xp.kc] 25)
      have hX5 : W0.heap.size ≤ W2.heap.size := hSB.size
      have hne : sv3.ownBlock ≠ some W2.heap.size := fun e => by have := (hV.own _ e).2; omega
      replace hV := hV.below hbn
      refine hK3.out _ _ (hSS.upto hX0 (hbn.mono hSB.size)) (fun hSS => ?_)
      replace hSB := hSB.trans (hbn.mono hSB.size)
      clear hK3 hbn
      generalize W2.alloc (.cells #[.int .i64 x.k, .bool x.b, .int .i64 x.n, .int .i64 x.m, .string x.s, .slice xp.la x.l.length xp.lc, .slice xp.ka x.keys.length xp.kc] 25) = W3 at *
      refine wpAnyH_ready (rs := [6]) (by kernel_rfl) (by simp) (AllReadyH.cons rfl (fun K4 hK4 => ?_) AllReadyH.nil)
      obtain ⟨sv6, W4, hrun, hV6, hg6, -⟩ := append_vals hV (one_vrow hX ⟨Or.inr hX5, hne⟩ (HXI.out _ sv3 hSB (fun k hk => (hV.own k hk).1))) rfl (by intro e; cases e) hSB.size (by simp; omega) _
      refine step_append_any (by rfl) _ _ _ (by rfl) _ _ (by rfl) (by rfl) hrun ?_
      have hbn : Below W0.heap.size W3 W4 := (Below.refl _ _).grown hg6 hSB.size (fun k hk => (hV.own k hk).1)
      rw [HLX.out] at hV6
      obtain ⟨a6, c6, rfl, hso6, hrow6⟩ := vl2_row2 hV6 (fun b hb => Or.inr hb)
      refine hK4.out _ _ (hSS.upto hX0 hbn) (fun hSS => ?_)
      replace hSB := hSB.trans hbn
      clear hK4 hbn hV hg6 hrun hX hne hV6
      refine wpAnyH_take (i := 7) (v := ?_) rfl (by kernel_rfl) (by kernel_rfl) (by kernel_rfl) (fun _ _ _ h => h) (Or.inl ⟨by rfl, ?_⟩) hSS ?_
      rotate_left
      · intro wz hSz
        go_simp
        try with_reducible rfl
      simp only [List.getElem_toArray, List.getElem_cons_zero, List.getElem_cons_succ, Act.put, List.setIfInBounds_toArray, List.set_cons_zero, List.set_cons_succ]
      obtain ⟨hz0, h13, hB3, hSZ, hVI⟩ := HZL.out _ a6 c6 hSB hSS hso6 hrow6
      refine wpAnyH_ready (rs := [8]) (by kernel_rfl) (by simp) (AllReadyH.cons rfl (fun K5 hK5 => ?_) AllReadyH.nil)
      refine step_setbox (by rfl) _ _ (by rfl) (by rfl) (B := w.heap.size + 2) (v := V.list LX) (p := ⟨a6, c6, none, 0⟩) (by rfl) (by rw [list_val]; rfl) hz0 ?_
      refine hK5.out _ _ hSZ (fun hSS => ?_)
      clear hK5 hSZ hz0 hrow6 hSB
      generalize setBox W4 (w.heap.size + 2) (V.list LX) ⟨a6, c6, none, 0⟩ = WZ at *
      refine wpAnyH_take (i := 9) (v := ?_) rfl (by kernel_rfl) (by kernel_rfl) (by kernel_rfl) (fun _ _ _ h => h) (Or.inl ⟨by rfl, ?_⟩) hSS ?_
      rotate_left
      · intro wz hSz
        go_simp
        try with_reducible rfl
      simp only [List.getElem_toArray, List.getElem_cons_zero, List.getElem_cons_succ, Act.put, List.setIfInBounds_toArray, List.set_cons_zero, List.set_cons_succ]
      refine wpAnyH_done (by kernel_rfl) ?_ _
      have HY : Hid _ := And.intro h13 hB3
      clear h13 hB3 hSS
      go_wp2_with fail
      obtain ⟨h13, hB3⟩ := HY.out
      obtain ⟨k0, k1, k2, k3, k4, k5, k6⟩ := box_cells h13
      exact bodyPost_ret (v := .tuple #[(V.list LX).val ⟨a6, c6, none, 0⟩, .int .i64 0]) (by simp [results, Try.results26, go_sem, k0, k1, k2, k3, k4, k5, k6, V.val]) rfl ⟨_, rfl, hVI, hB3⟩
    · refine step_plain (by rfl) ?_
      simp only [List.getElem_toArray, List.getElem_cons_zero, List.getElem_cons_succ]
      go_simp
      have hbn : Below W1.heap.size W1 (W1.alloc (.cells #[.int .i64 x.k, .bool x.b, .int .i64 x.n, .int .i64 x.m, .string x.s, .slice xp.la x.l.length xp.lc, .slice xp.ka x.keys.length xp.kc] 25)) := (Below.refl _ _).alloc (Nat.le_refl _) _
      have hX := heap_alloc_new W1 (.cells #[.int .i64 x.k, .bool x.b, .int .i64 x.n, .int .i64 x.m, .string x.s, .slice xp.la x.l.length xp.lc, .slice xp.ka x.keys.length xp.kc] 25)
      have hX5 : W0.heap.size ≤ W1.heap.size := hSB.size
      have hne : (Value.slice (some ⟨V0.heap.size, 0, none⟩) 0 0).ownBlock ≠ some W1.heap.size := fun e => by have := (hV.own _ e).2; omega
      replace hV := hV.below hbn
      refine hK2.out _ _ (hSS.upto hX0 (hbn.mono hSB.size)) (fun hSS => ?_)
      replace hSB := hSB.trans (hbn.mono hSB.size)
      clear hK2 hbn
      generalize W1.alloc (.cells #[.int .i64 x.k, .bool x.b, .int .i64 x.n, .int .i64 x.m, .string x.s, .slice xp.la x.l.length xp.lc, .slice xp.ka x.keys.length xp.kc] 25) = W2 at *
      refine wpAnyH_ready (rs := [3]) (by kernel_rfl) (by simp) (AllReadyH.cons rfl (fun K3 hK3 => ?_) AllReadyH.nil)
      obtain ⟨sv3, W3, hrun, hV3, hg3, ha3⟩ := append_vals hV (HVR.out _ (Value.slice (some ⟨V0.heap.size, 0, none⟩) 0 0) hSB (fun k hk => (hV.own k hk).1)) rfl HNO.out hSB.size (by simp; omega) _
      refine step_append_any (by rfl) _ _ _ (by rfl) _ _ (by rfl) (by rfl) hrun ?_
      have hbn : Below W0.heap.size W2 W3 := (Below.refl _ _).grown hg3 hSB.size (fun k hk => (hV.own k hk).1)
      have hne3 : sv3.ownBlock ≠ some W1.heap.size := fun e => by
        have hlt := (Array.getElem?_eq_some_iff.1 hX).1
        rcases ha3 with ha | ha
        · exact hne (ha ▸ e)
        · rw [ha] at e; injection e with e; omega
      replace hX := (hg3.block _ (Array.getElem?_eq_some_iff.1 hX).1 (fun e => hne e.symm)).trans hX
      replace hne := hne3
      clear hne3
      replace hV := hV3
      rw [List.nil_append] at hV
      refine hK3.out _ _ (hSS.upto hX0 hbn) (fun hSS => ?_)
      replace hSB := hSB.trans hbn
      clear hK3 hbn hV3 hg3 ha3 hrun
      refine wpAnyH_ready (rs := [6]) (by kernel_rfl) (by simp) (AllReadyH.cons rfl (fun K4 hK4 => ?_) AllReadyH.nil)
      obtain ⟨sv6, W4, hrun, hV6, hg6, -⟩ := append_vals hV (one_vrow hX ⟨Or.inr hX5, hne⟩ (HXI.out _ sv3 hSB (fun k hk => (hV.own k hk).1))) rfl (by intro e; cases e) hSB.size (by simp; omega) _
      refine step_append_any (by rfl) _ _ _ (by rfl) _ _ (by rfl) (by rfl) hrun ?_
      have hbn : Below W0.heap.size W3 W4 := (Below.refl _ _).grown hg6 hSB.size (fun k hk => (hV.own k hk).1)
      rw [HLX.out] at hV6
      obtain ⟨a6, c6, rfl, hso6, hrow6⟩ := vl2_row2 hV6 (fun b hb => Or.inr hb)
      refine hK4.out _ _ (hSS.upto hX0 hbn) (fun hSS => ?_)
      replace hSB := hSB.trans hbn
      clear hK4 hbn hV hg6 hrun hX hne hV6
      refine wpAnyH_take (i := 7) (v := ?_) rfl (by kernel_rfl) (by kernel_rfl) (by kernel_rfl) (fun _ _ _ h => h) (Or.inl ⟨by rfl, ?_⟩) hSS ?_
      rotate_left
      · intro wz hSz
        go_simp
        try with_reducible rfl
      simp only [List.getElem_toArray, List.getElem_cons_zero, List.getElem_cons_succ, Act.put, List.setIfInBounds_toArray, List.set_cons_zero, List.set_cons_succ]
      obtain ⟨hz0, h13, hB3, hSZ, hVI⟩ := HZL.out _ a6 c6 hSB hSS hso6 hrow6
      refine wpAnyH_ready (rs := [8]) (by kernel_rfl) (by simp) (AllReadyH.cons rfl (fun K5 hK5 => ?_) AllReadyH.nil)
      refine step_setbox (by rfl) _ _ (by rfl) (by rfl) (B := w.heap.size + 2) (v := V.list LX) (p := ⟨a6, c6, none, 0⟩) (by rfl) (by rw [list_val]; rfl) hz0 ?_
      refine hK5.out _ _ hSZ (fun hSS => ?_)
      clear hK5 hSZ hz0 hrow6 hSB
      generalize setBox W4 (w.heap.size + 2) (V.list LX) ⟨a6, c6, none, 0⟩ = WZ at *
      refine wpAnyH_take (i := 9) (v := ?_) rfl (by kernel_rfl) (by kernel_rfl) (by kernel_rfl) (fun _ _ _ h => h) (Or.inl ⟨by rfl, ?_⟩) hSS ?_
      rotate_left
      · intro wz hSz
        go_simp
        try with_reducible rfl
      simp only [List.getElem_toArray, List.getElem_cons_zero, List.getElem_cons_succ, Act.put, List.setIfInBounds_toArray, List.set_cons_zero, List.set_cons_succ]
      refine wpAnyH_done (by kernel_rfl) ?_ _
      have HY : Hid _ := And.intro h13 hB3
      clear h13 hB3 hSS
      go_wp2_with fail
      obtain ⟨h13, hB3⟩ := HY.out
      obtain ⟨k0, k1, k2, k3, k4, k5, k6⟩ := box_cells h13
      exact bodyPost_ret (v := .tuple #[(V.list LX).val ⟨a6, c6, none, 0⟩, .int .i64 0]) (by simp [results, Try.results26, go_sem, k0, k1, k2, k3, k4, k5, k6, V.val]) rfl ⟨_, rfl, hVI, hB3⟩
  · refine step_plain (by rfl) ?_
    simp only [List.getElem_toArray, List.getElem_cons_zero, List.getElem_cons_succ]
    go_simp
    have hbn : Below V0.heap.size V0 (V0.alloc (.cells #[.int .i64 x.k, .bool x.b, .int .i64 x.n, .int .i64 x.m, .string x.s, .slice xp.la x.l.length xp.lc, .slice xp.ka x.keys.length xp.kc] 25)) := (Below.refl _ _).alloc (Nat.le_refl _) _
    have hX := heap_alloc_new V0 (.cells #[.int .i64 x.k, .bool x.b, .int .i64 x.n, .int .i64 x.m, .string x.s, .slice xp.la x.l.length xp.lc, .slice xp.ka x.keys.length xp.kc] 25)
    have hX5 : W0.heap.size ≤ V0.heap.size := hSB.size
    refine hK1.out _ _ (hSS.upto hX0 (hbn.mono hSB.size)) (fun hSS => ?_)
    replace hSB := hSB.trans (hbn.mono hSB.size)
    clear hK1 hbn
    generalize V0.alloc (.cells #[.int .i64 x.k, .bool x.b, .int .i64 x.n, .int .i64 x.m, .string x.s, .slice xp.la x.l.length xp.lc, .slice xp.ka x.keys.length xp.kc] 25) = W1 at *
    refine wpAnyH_ready (rs := [0]) (by kernel_rfl) (by simp) (AllReadyH.cons rfl (fun K2 hK2 => ?_) AllReadyH.nil)
    refine step_plain (by rfl) ?_
    simp only [List.getElem_toArray, List.getElem_cons_zero]
    go_simp
    have hbn : Below W1.heap.size W1 (W1.alloc (.cells #[] 25)) := (Below.refl _ _).alloc (Nat.le_refl _) _
    have hV : VL2 (W1.alloc (.cells #[] 25)) (okB ok w.heap.size W0.heap.size) W0.heap.size (.slice (some ⟨W1.heap.size, 0, none⟩) 0 0) [] := VL2.none _ _ _ _ hSB.size _ (0, 0) rfl (heap_alloc_new _ _) rfl
    have hne : (Value.slice (some ⟨W1.heap.size, 0, none⟩) 0 0).ownBlock ≠ some V0.heap.size := fun e => by have := (Array.getElem?_eq_some_iff.1 hX).1; simp [Value.ownBlock] at e; omega
    replace hX := (hbn.block _ (Array.getElem?_eq_some_iff.1 hX).1).trans hX
    refine hK2.out _ _ (hSS.upto hX0 (hbn.mono hSB.size)) (fun hSS => ?_)
    replace hSB := hSB.trans (hbn.mono hSB.size)
    clear hK2 hbn
    generalize W1.alloc (.cells #[] 25) = W2 at *
    refine wpAnyH_ready (rs := [3]) (by kernel_rfl) (by simp) (AllReadyH.cons rfl (fun K3 hK3 => ?_) AllReadyH.nil)
    obtain ⟨sv3, W3, hrun, hV3, hg3, ha3⟩ := append_vals hV (HVR.out _ (Value.slice (some ⟨W1.heap.size, 0, none⟩) 0 0) hSB (fun k hk => (hV.own k hk).1)) rfl HNO.out hSB.size (by simp; omega) _
    refine step_append_any (by rfl) _ _ _ (by rfl) _ _ (by rfl) (by rfl) hrun ?_
    have hbn : Below W0.heap.size W2 W3 := (Below.refl _ _).grown hg3 hSB.size (fun k hk => (hV.own k hk).1)
    have hne3 : sv3.ownBlock ≠ some V0.heap.size := fun e => by
      have hlt := (Array.getElem?_eq_some_iff.1 hX).1
      rcases ha3 with ha | ha
      · exact hne (ha ▸ e)
      · rw [ha] at e; injection e with e; omega
    replace hX := (hg3.block _ (Array.getElem?_eq_some_iff.1 hX).1 (fun e => hne e.symm)).trans hX
    replace hne := hne3
    clear hne3
    replace hV := hV3
    rw [List.nil_append] at hV
    refine hK3.out _ _ (hSS.upto hX0 hbn) (fun hSS => ?_)
    replace hSB := hSB.trans hbn
    clear hK3 hbn hV3 hg3 ha3 hrun
    refine wpAnyH_ready (rs := [6]) (by kernel_rfl) (by simp) (AllReadyH.cons rfl (fun K4 hK4 => ?_) AllReadyH.nil)
    obtain ⟨sv6, W4, hrun, hV6, hg6, -⟩ := append_vals hV (one_vrow hX ⟨Or.inr hX5, hne⟩ (HXI.out _ sv3 hSB (fun k hk => (hV.own k hk).1))) rfl (by intro e; cases e) hSB.size (by simp; omega) _
    refine step_append_any (by rfl) _ _ _ (by rfl) _ _ (by rfl) (by rfl) hrun ?_
    have hbn : Below W0.heap.size W3 W4 := (Below.refl _ _).grown hg6 hSB.size (fun k hk => (hV.own k hk).1)
    rw [HLX.out] at hV6
    obtain ⟨a6, c6, rfl, hso6, hrow6⟩ := vl2_row2 hV6 (fun b hb => Or.inr hb)
    refine hK4.out _ _ (hSS.upto hX0 hbn) (fun hSS => ?_)
    replace hSB := hSB.trans hbn
    clear hK4 hbn hV hg6 hrun hX hne hV6
    refine wpAnyH_take (i := 7) (v := ?_) rfl (by kernel_rfl) (by kernel_rfl) (by kernel_rfl) (fun _ _ _ h => h) (Or.inl ⟨by rfl, ?_⟩) hSS ?_
    rotate_left
    · intro wz hSz
      go_simp
      try with_reducible rfl
    simp only [List.getElem_toArray, List.getElem_cons_zero, List.getElem_cons_succ, Act.put, List.setIfInBounds_toArray, List.set_cons_zero, List.set_cons_succ]
    obtain ⟨hz0, h13, hB3, hSZ, hVI⟩ := HZL.out _ a6 c6 hSB hSS hso6 hrow6
    refine wpAnyH_ready (rs := [8]) (by kernel_rfl) (by simp) (AllReadyH.cons rfl (fun K5 hK5 => ?_) AllReadyH.nil)
    refine step_setbox (by rfl) _ _ (by rfl) (by rfl) (B := w.heap.size + 2) (v := V.list LX) (p := ⟨a6, c6, none, 0⟩) (by rfl) (by rw [list_val]; rfl) hz0 ?_
    refine hK5.out _ _ hSZ (fun hSS => ?_)
    clear hK5 hSZ hz0 hrow6 hSB
    generalize setBox W4 (w.heap.size + 2) (V.list LX) ⟨a6, c6, none, 0⟩ = WZ at *
    refine wpAnyH_take (i := 9) (v := ?_) rfl (by kernel_rfl) (by kernel_rfl) (by kernel_rfl) (fun _ _ _ h => h) (Or.inl ⟨by rfl, ?_⟩) hSS ?_
    rotate_left
    · intro wz hSz
      go_simp
      try with_reducible rfl
    simp only [List.getElem_toArray, List.getElem_cons_zero, List.getElem_cons_succ, Act.put, List.setIfInBounds_toArray, List.set_cons_zero, List.set_cons_succ]
    refine wpAnyH_done (by kernel_rfl) ?_ _
    have HY : Hid _ := And.intro h13 hB3
    clear h13 hB3 hSS
    go_wp2_with fail
    obtain ⟨h13, hB3⟩ := HY.out
    obtain ⟨k0, k1, k2, k3, k4, k5, k6⟩ := box_cells h13
    exact bodyPost_ret (v := .tuple #[(V.list LX).val ⟨a6, c6, none, 0⟩, .int .i64 0]) (by simp [results, Try.results26, go_sem, k0, k1, k2, k3, k4, k5, k6, V.val]) rfl ⟨_, rfl, hVI, hB3⟩
end Go.Proofs.Ytigdcnoggjcddaa

