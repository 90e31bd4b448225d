/- A value with another one where steps lead, as the document tells it: With, in a place that it has. Conditions: clean values of at most 1048576 values and letters. -/
import Derived.Test.YtigdcnoggjcddaaVRWithD
import Derived.Test.YtigdcnoggjcddaaVRowSet
namespace Go.Proofs.Ytigdcnoggjcddaa
open Go.RowKit Go.Maps Go.WideMaps

set_option maxRecDepth 100000 in
theorem below_cells {B b : Nat} {a : World} (hb : B ≤ b) : ∀ (vs : List Value) (o : Nat) (w : World), Below B a w → Below B a (w.setCells b o vs)
  | [], _, _, h => h
  | v :: r, o, w, h => below_cells hb r (o + 1) _ (h.setCell (by exact hb) v)
set_option maxRecDepth 100000 in
theorem ov_val (k : Int) (l : List V) (q : List ByteArray) (a ka : Option Addr) (c kc : Nat) : (V.mk k false 0 0 ByteArray.empty l q).val ⟨a, c, ka, kc⟩ = .agg #[.int .i64 k, .bool false, .int .i64 0, .int .i64 0, .string { data := #[] }, .slice a l.length c, .slice ka q.length kc] := by
  simp [V.val]
  rfl
set_option maxRecDepth 100000 in
set_option maxHeartbeats 6400000 in
theorem rwith_inside {w0 : World} {ok : Nat → Prop} {v x : V} {p xp : VP} (hv : VIn w0 ok v p) (w : World) (hb0 : Below w0.heap.size w0 w) (hbk : v.bulk ≤ 1048576) (hcl : v.cl) (ao : Option Addr) (s : St) (r : List St) (c : Nat) (hl : StRow w ao (s :: r)) (hso : SliceOk ao (s :: r).length c) (hn : r.length ≤ 1048575) (h0 : (v.follow s).2 = 0) (hlow : ∀ b, ok b → b < w0.heap.size) (i : Nat) (hpi : v.placeK s = i)
    (IH : ∀ (W : World) (cp : VP) (ao' : Option Addr) (c' : Nat), Below w0.heap.size w0 W → VIn w0 ok (v.follow s).1 cp → StRow W ao' r → SliceOk ao' r.length c' → Calls Try.prog 26 #[(v.follow s).1.val cp, x.val xp, .slice ao' r.length c'] W fun e w' => ∃ yp, e = .returned (.tuple #[((v.follow s).1.withR x r).1.val yp, .int .i64 ((v.follow s).1.withR x r).2]) ∧ VIn w' (fun b => (ok b ∧ b < W.heap.size) ∨ W.heap.size ≤ b) ((v.follow s).1.withR x r).1 yp ∧ Below W.heap.size W w') (hE : ((v.follow s).1.withR x r).2 = 0) :
    Calls Try.prog 26 #[v.val p, x.val xp, .slice ao (r.length + 1) c] w fun e w' => ∃ p', e = .returned (.tuple #[(v.withIn i ((v.follow s).1.withR x r).1).val p', .int .i64 0]) ∧ VIn w' (fun b => (ok b ∧ b < w.heap.size) ∨ w.heap.size ≤ b) (v.withIn i ((v.follow s).1.withR x r).1) p' ∧ Below w.heap.size w w' := by
  have hst := hl
  obtain ⟨-, hl2⟩ := hl
  obtain ⟨bl, off, rfl, hcc⟩ := hl2 (by simp)
  have hc0 := hcc 0 (by simp)
  have hbl : bl < w.heap.size := World.block_lt_of_cell? _ _ hc0.1
  obtain ⟨b1, b2, b3, hbb⟩ := W3.boxes w v p x xp
  have hsz : (W3 w v p x xp).heap.size = w.heap.size + 3 := by unfold W3; simp
  obtain ⟨i', e1, hi, e2⟩ := child_of hcl s h0
  obtain rfl : i' = i := by rw [e1] at hpi; omega
  obtain ⟨P, hcv, hin⟩ := hv.parts
  obtain ⟨cb, co, e3, -, hat⟩ := hcv (by intro e; rw [e] at hi; simp at hi)
  have hat0 := hat i' hi
  rw [← e2] at hat0
  have hcbl : cb < w.heap.size := Nat.lt_of_lt_of_le (World.block_lt_of_cell? _ _ hat0.1) hb0.size
  have hvc : VIn w0 ok (v.follow s).1 (P i') := by rw [e2]; exact hin i' hi
  have CP : Hid (∀ W, Below (W3 w v p x xp).heap.size (W3 w v p x xp) W → Calls Try.prog 52 #[v.val p, .agg #[.string s.key, .int .i64 s.at_]] W fun e w' => e = .returned (.tuple #[.int .i64 (i' : Nat), .int .i64 0]) ∧ Below W.heap.size W w') := fun W hW => by
    have := place_any hv W (hb0.trans ((hbb.trans (hW.mono hbb.size)).mono hb0.size)) hbk hcl s
    rw [e1, h0] at this
    exact this
  have hRC : RC w (W3 w v p x xp) v p x xp bl off s cb co i' (v.follow s).1 (P i') := ⟨⟨hbl, b1, b2, by simpa using (hbb.cell (p := ⟨bl, off + 0 * 2, none⟩) hbl).trans hc0.1, by simpa using (hbb.cell (p := ⟨bl, off + 0 * 2 + 1, none⟩) hbl).trans hc0.2⟩, hcbl, (hat0.upto (Nat.lt_of_lt_of_le (World.block_lt_of_cell? _ _ hat0.1) (Nat.le_refl _)) hb0).upto hcbl hbb, b3⟩
  have CI : Hid (∀ W, Below (W3 w v p x xp).heap.size (W3 w v p x xp) W → Calls Try.prog 26 #[(v.follow s).1.val (P i'), x.val xp, .slice (cutN (some ⟨bl, off, none⟩) c 1 2) r.length (c - 1)] W fun e w' => ∃ yp, e = .returned (.tuple #[((v.follow s).1.withR x r).1.val yp, .int .i64 0]) ∧ VIn w' (fun b => (ok b ∧ b < w.heap.size) ∨ W.heap.size ≤ b) ((v.follow s).1.withR x r).1 yp ∧ Below W.heap.size W w') := fun W hW => by
    rw [← hE]
    have hW2 := hbb.trans (hW.mono hbb.size)
    have hlen := hso.2.1
    simp only [List.length_cons] at hlen
    refine Calls.mono (IH W (P i') _ _ (hb0.trans (hW2.mono hb0.size)) hvc ⟨fun t ht => hst.1 t (by simp [ht]), fun hne => ?_⟩ ⟨fun h => ?_, by omega, by have := hso.2.2; omega⟩) ?_
    rotate_left 2
    · rintro e w' ⟨yp, rfl, h1, h2⟩
      exact ⟨yp, rfl, h1.mono (fun b hb _ => by
        rcases hb with hb | hb
        · exact Or.inl ⟨hb.1, by have := hlow b hb.1; have := hb0.size; omega⟩
        · exact Or.inr hb), h2⟩
    · have hp := List.length_pos_iff.2 hne
      refine ⟨bl, off + 1 * 2, by unfold cutN; rw [if_neg (by omega)]; simp [Addr.add], fun j hj => ?_⟩
      have h5 := hcc (j + 1) (by simp; omega)
      simp only [List.getElem_cons_succ] at h5
      rw [show off + 1 * 2 + j * 2 = off + (j + 1) * 2 by omega]
      exact ⟨(hW2.cell (p := ⟨bl, _, none⟩) hbl).trans h5.1, (hW2.cell (p := ⟨bl, _, none⟩) hbl).trans h5.2⟩
    · unfold cutN at h
      split at h <;> simp at h
  have HI : Hid (i' < v.l.length) := hi
  have HLA : Hid (p.la = some ⟨cb, co, none⟩) := e3
  have HVR : Hid (∀ W (sv : Value), Below (W3 w v p x xp).heap.size (W3 w v p x xp) W → (∀ k, sv.ownBlock = some k → (W3 w v p x xp).heap.size ≤ k) → VRow W (fun b => (ok b ∧ b < w.heap.size) ∧ sv.ownBlock ≠ some b) p.la v.l) := fun W sv hW hs => by
    have h1 : VRow w0 ok p.la v.l := ⟨P, hcv, hin⟩
    have hs0 := hb0.size
    exact (h1.mono (ok' := fun b => (ok b ∧ b < w.heap.size) ∧ sv.ownBlock ≠ some b) (fun b h1 h2 => ⟨⟨h1, by omega⟩, fun e => by have := hs b e; omega⟩)).below (hb0.trans ((hbb.trans (hW.mono hbb.size)).mono hb0.size))
  have HNO : Hid (p.la = none → v.l.length = 0 ∧ p.lc = 0) := by
    cases hv using VIn.ind with
    | mk k b n m s l q p P hk hn hm hs hl hq hkeys hc hin ih => exact hl.1
  have hll : v.l.length ≤ 1048576 := by
    obtain ⟨k, b, n, m, t, l, q⟩ := v
    have := len_le_bulkL l; simp only [V.bulk] at hbk; simp only; omega
  have HFIN : Hid (∀ W a c y, Below w.heap.size w W → SliceOk a v.l.length c → VRow W (okB ok w.heap.size (W3 w v p x xp).heap.size) a (v.l.set i' y) → VIn W (okB ok w.heap.size (W3 w v p x xp).heap.size) (v.withIn i' y) ⟨a, c, p.ka, p.kc⟩) := fun W a c y hW hs hr => by
    have hs0 := hb0.size
    have hkb := hb0.trans (hW.mono hs0)
    cases hv using VIn.ind with
    | mk k b n m s l q p P hk hn hm hs' hl hq hkeys hc hin ih =>
      obtain ⟨P2, hc2, hin2⟩ := hr
      exact VIn.mk k false 0 0 ByteArray.empty (l.set i' y) q ⟨a, c, p.ka, p.kc⟩ P2 hk (by unfold I64; omega) (by unfold I64; omega) (by decide) (by rw [List.length_set]; exact hs) hq ((hkeys.mono (fun b h1 h2 => Or.inl ⟨h1, by omega⟩)).below hkb) hc2 hin2
  have hsl := cutU_l (some ⟨bl, off, none⟩) r.length c
  clear hpi hE hlow
  clear IH hbk hcl hl2 hcc hc0 hbl b1 b2 b3 hbb e1 hi e2 hcv hin hat e3 hat0 hcbl hvc hst hso h0
  clear hv hb0
  generalize (v.follow s).1 = X at *
  generalize X.withR x r = R at *
  obtain ⟨Y, EE⟩ := R
  generalize P i' = cp at *
  unfold V.val at CP CI
  dsimp only at *
  show Calls Try.prog 26 #[.agg #[.int .i64 v.k, .bool v.b, .int .i64 v.n, .int .i64 v.m, .string v.s, .slice p.la v.l.length p.lc, .slice p.ka v.keys.length p.kc], .agg #[.int .i64 x.k, .bool x.b, .int .i64 x.n, .int .i64 x.m, .string x.s, .slice xp.la x.l.length xp.lc, .slice xp.ka x.keys.length xp.kc], .slice (some ⟨bl, off, none⟩) (r.length + 1) c] w _
  go_enter Try.func26, Try.ntmps26
  go_wp2_with fail
  generalize hW0 : ((w.alloc (.cells #[.int .i64 v.k, .bool v.b, .int .i64 v.n, .int .i64 v.m, .string v.s, .slice p.la v.l.length p.lc, .slice p.ka v.keys.length p.kc] 25)).alloc (.cells #[.int .i64 x.k, .bool x.b, .int .i64 x.n, .int .i64 x.m, .string x.s, .slice xp.la x.l.length xp.lc, .slice xp.ka x.keys.length xp.kc] 25)).alloc _ = W0
  have hW : W3 w v p x xp = W0 := hW0
  rw [hW] at CP CI hRC hsz HVR HFIN
  have hWB : Below w.heap.size w W0 := by rw [← hW]; exact (W3.boxes w v p x xp).2.2.2
  clear hW hW0
  have hX0 : w.heap.size + 3 ≤ W0.heap.size := by omega
  have hSB : Below W0.heap.size W0 W0.drew := (Below.refl _ _).drew
  refine wp_region_held_drew (S := fun W => RC w W v p x xp bl off s cb co i' X cp) (by kernel_rfl) hRC.drew (fun hSS => ?_)
  refine wpAnyH_take (i := 0) (v := ?_) rfl (by kernel_rfl) (by kernel_rfl) (by kernel_rfl) (fun _ _ _ h => h) (Or.inl ⟨by rfl, ?_⟩) hSS ?_
  rotate_left
  · intro wz hSz
    obtain ⟨⟨k0, k1, k2, k3, k4, k5, k6⟩, ⟨j0, j1, j2, j3, j4, j5, j6⟩, p0, p1⟩ := hSz.1.cells
    go_simp
    try with_reducible rfl
  simp only [List.getElem_toArray, List.getElem_cons_zero, Act.put, List.setIfInBounds_toArray, List.set_cons_zero, List.set_cons_succ]
  refine wpAnyH_take (i := 1) (v := ?_) rfl (by kernel_rfl) (by kernel_rfl) (by kernel_rfl) (fun _ _ _ h => h) (Or.inl ⟨by rfl, ?_⟩) hSS ?_
  rotate_left
  · intro wz hSz
    go_simp
    try with_reducible rfl
  simp only [List.getElem_toArray, List.getElem_cons_zero, List.getElem_cons_succ, Act.put, List.setIfInBounds_toArray, List.set_cons_zero, List.set_cons_succ]
  refine wpAnyH_take (i := 2) (v := ?_) rfl (by kernel_rfl) (by kernel_rfl) (by kernel_rfl) (fun _ _ _ h => h) (Or.inl ⟨by rfl, ?_⟩) hSS ?_
  rotate_left
  · intro wz hSz
    go_simp
    try with_reducible rfl
  simp only [List.getElem_toArray, List.getElem_cons_zero, List.getElem_cons_succ, Act.put, List.setIfInBounds_toArray, List.set_cons_zero, List.set_cons_succ]
  refine wpAnyH_take (i := 3) (v := ?_) rfl (by kernel_rfl) (by kernel_rfl) (by kernel_rfl) (fun _ _ _ h => h) (Or.inl ⟨by rfl, ?_⟩) hSS ?_
  rotate_left
  · intro wz hSz
    obtain ⟨⟨k0, k1, k2, k3, k4, k5, k6⟩, ⟨j0, j1, j2, j3, j4, j5, j6⟩, p0, p1⟩ := hSz.1.cells
    go_simp
    try with_reducible rfl
  simp only [List.getElem_toArray, List.getElem_cons_zero, List.getElem_cons_succ, Act.put, List.setIfInBounds_toArray, List.set_cons_zero, List.set_cons_succ]
  refine wpAnyH_ready (rs := [4]) (by kernel_rfl) (by simp) (AllReadyH.cons rfl (fun K4 hK4 => ?_) AllReadyH.nil)
  refine step_plain (by rfl) ?_
  simp only [List.getElem_toArray, List.getElem_cons_zero, List.getElem_cons_succ]
  go_simp
  go_at_call 52
  refine (CP.out _ hSB).mono ?_
  rintro e w1 ⟨rfl, hb1⟩
  go_simp
  refine hK4.out _ _ (hSS.upto hX0 (hb1.mono hSB.size)) (fun hSS => ?_)
  replace hSB := hSB.trans (hb1.mono hSB.size)
  clear hK4 hb1 CP hRC
  refine wpAnyH_take (i := 5) (v := ?_) rfl (by kernel_rfl) (by kernel_rfl) (by kernel_rfl) (fun _ _ _ h => h) (Or.inl ⟨by rfl, ?_⟩) hSS ?_
  rotate_left
  · intro wz hSz
    go_simp
    try with_reducible rfl
  simp only [List.getElem_toArray, List.getElem_cons_zero, List.getElem_cons_succ, Act.put, List.setIfInBounds_toArray, List.set_cons_zero, List.set_cons_succ]
  refine wpAnyH_take (i := 6) (v := ?_) rfl (by kernel_rfl) (by kernel_rfl) (by kernel_rfl) (fun _ _ _ h => h) (Or.inl ⟨by rfl, ?_⟩) hSS ?_
  rotate_left
  · intro wz hSz
    go_simp
    try with_reducible rfl
  simp only [List.getElem_toArray, List.getElem_cons_zero, List.getElem_cons_succ, Act.put, List.setIfInBounds_toArray, List.set_cons_zero, List.set_cons_succ]
  refine wpAnyH_take (i := 7) (v := ?_) rfl (by kernel_rfl) (by kernel_rfl) (by kernel_rfl) (fun _ _ _ h => h) (Or.inl ⟨by rfl, ?_⟩) hSS ?_
  rotate_left
  · intro wz hSz
    go_simp
    try with_reducible rfl
  simp only [List.getElem_toArray, List.getElem_cons_zero, List.getElem_cons_succ, Act.put, List.setIfInBounds_toArray, List.set_cons_zero, List.set_cons_succ]
  refine wpAnyH_take (i := 8) (v := ?_) rfl (by kernel_rfl) (by kernel_rfl) (by kernel_rfl) (fun _ _ _ h => h) (Or.inl ⟨by rfl, ?_⟩) hSS ?_
  rotate_left
  · intro wz hSz
    go_simp
    try with_reducible rfl
  simp only [List.getElem_toArray, List.getElem_cons_zero, List.getElem_cons_succ, Act.put, List.setIfInBounds_toArray, List.set_cons_zero, List.set_cons_succ]
  refine wpAnyH_take (i := 9) (v := ?_) rfl (by kernel_rfl) (by kernel_rfl) (by kernel_rfl) (fun _ _ _ h => h) (Or.inl ⟨by rfl, ?_⟩) hSS ?_
  rotate_left
  · intro wz hSz
    go_simp
    try with_reducible rfl
  simp only [List.getElem_toArray, List.getElem_cons_zero, List.getElem_cons_succ, Act.put, List.setIfInBounds_toArray, List.set_cons_zero, List.set_cons_succ]
  refine wpAnyH_done (by kernel_rfl) ?_ _
  go_wp2_with fail
  go_cut [10, 11] from 80 to 91 (fun s10 s11 wx => ∃ yp B10, s10 = .pointer (some ⟨B10, 0, none⟩) ∧ s11 = .int .i64 0 ∧ RC w wx v p x xp bl off s cb co i' X cp ∧ Below W0.heap.size W0 wx ∧ W0.heap.size ≤ B10 ∧ wx.heap[B10]? = some (Y.box yp) ∧ VIn wx (okB ok w.heap.size W0.heap.size) Y yp)
  case first =>
    refine wp_region_held_drew (S := fun W => RC w W v p x xp bl off s cb co i' X cp) (by kernel_rfl) hSS.drew (fun hSS => ?_)
    replace hSB := hSB.drew
    refine wpAnyH_take (i := 0) (v := ?_) rfl (by kernel_rfl) (by kernel_rfl) (by kernel_rfl) (fun _ _ _ h => h) (Or.inl ⟨by rfl, ?_⟩) hSS ?_
    rotate_left
    · intro wz hSz
      go_simp
      try with_reducible rfl
    simp only [List.getElem_toArray, List.getElem_cons_zero, Act.put, List.setIfInBounds_toArray, List.set_cons_zero, List.set_cons_succ]
    refine wpAnyH_take (i := 1) (v := ?_) rfl (by kernel_rfl) (by kernel_rfl) (by kernel_rfl) (fun _ _ _ h => h) (Or.inl ⟨by rfl, ?_⟩) hSS ?_
    rotate_left
    · intro wz hSz
      obtain ⟨⟨k0, k1, k2, k3, k4, k5, k6⟩, ⟨j0, j1, j2, j3, j4, j5, j6⟩, p0, p1⟩ := hSz.1.cells; rw [HLA.out] at k5
      go_simp
      try with_reducible rfl
    simp only [List.getElem_toArray, List.getElem_cons_zero, List.getElem_cons_succ, Act.put, List.setIfInBounds_toArray, List.set_cons_zero, List.set_cons_succ]
    refine wpAnyH_take (i := 2) (v := ?_) rfl (by kernel_rfl) (by kernel_rfl) (by kernel_rfl) (fun _ _ _ h => h) (Or.inl ⟨by rfl, ?_⟩) hSS ?_
    rotate_left
    · intro wz hSz
      go_simp
      try with_reducible rfl
    simp only [List.getElem_toArray, List.getElem_cons_zero, List.getElem_cons_succ, Act.put, List.setIfInBounds_toArray, List.set_cons_zero, List.set_cons_succ]
    refine wpAnyH_take (i := 3) (v := ?_) rfl (by kernel_rfl) (by kernel_rfl) (by kernel_rfl) (fun _ _ _ h => h) (Or.inl ⟨by rfl, ?_⟩) hSS ?_
    rotate_left
    · intro wz hSz
      have hi := HI.out
      go_simp
      try with_reducible rfl
    simp only [List.getElem_toArray, List.getElem_cons_zero, List.getElem_cons_succ, Act.put, List.setIfInBounds_toArray, List.set_cons_zero, List.set_cons_succ]
    refine wpAnyH_take (i := 4) (v := ?_) rfl (by kernel_rfl) (by kernel_rfl) (by kernel_rfl) (fun _ _ _ h => h) (Or.inl ⟨by rfl, ?_⟩) hSS ?_
    rotate_left
    · intro wz hSz
      obtain ⟨c0, c1, c2, c3, c4, c5, c6⟩ := hSz.2.2.1
      go_simp
      try with_reducible rfl
    simp only [List.getElem_toArray, List.getElem_cons_zero, List.getElem_cons_succ, Act.put, List.setIfInBounds_toArray, List.set_cons_zero, List.set_cons_succ]
    refine wpAnyH_take (i := 5) (v := ?_) rfl (by kernel_rfl) (by kernel_rfl) (by kernel_rfl) (fun _ _ _ h => h) (Or.inl ⟨by rfl, ?_⟩) hSS ?_
    rotate_left
    · intro wz hSz
      obtain ⟨⟨k0, k1, k2, k3, k4, k5, k6⟩, ⟨j0, j1, j2, j3, j4, j5, j6⟩, p0, p1⟩ := hSz.1.cells
      go_simp
      try with_reducible rfl
    simp only [List.getElem_toArray, List.getElem_cons_zero, List.getElem_cons_succ, Act.put, List.setIfInBounds_toArray, List.set_cons_zero, List.set_cons_succ]
    refine wpAnyH_take (i := 6) (v := ?_) rfl (by kernel_rfl) (by kernel_rfl) (by kernel_rfl) (fun _ _ _ h => h) (Or.inl ⟨by rfl, ?_⟩) hSS ?_
    rotate_left
    · intro wz hSz
      go_simp
      try with_reducible rfl
    simp only [List.getElem_toArray, List.getElem_cons_zero, List.getElem_cons_succ, Act.put, List.setIfInBounds_toArray, List.set_cons_zero, List.set_cons_succ]
    refine wpAnyH_take (i := 7) (v := ?_) rfl (by kernel_rfl) (by kernel_rfl) (by kernel_rfl) (fun _ _ _ h => h) (Or.inl ⟨by rfl, ?_⟩) hSS ?_
    rotate_left
    · intro wz hSz
      go_simp
      try with_reducible rfl
    simp only [List.getElem_toArray, List.getElem_cons_zero, List.getElem_cons_succ, Act.put, List.setIfInBounds_toArray, List.set_cons_zero, List.set_cons_succ]
    generalize w1.drew = V0 at *
    clear HVR HNO HFIN
    refine wpAnyH_ready (rs := [8, 12]) (by kernel_rfl) (by simp) (AllReadyH.cons rfl (fun K1 hK1 => ?_) (AllReadyH.cons rfl (fun K1 hK1 => ?_) AllReadyH.nil))
    · refine step_plain (by rfl) ?_
      simp only [List.getElem_toArray, List.getElem_cons_zero, List.getElem_cons_succ]
      go_simp
      go_at_call 26
      refine (CI.out _ hSB).mono ?_
      rintro e W1 ⟨yp, rfl, hY, hbn⟩
      replace hY := hY.mono (ok' := fun b => (ok b ∧ b < w.heap.size) ∨ (V0.heap.size ≤ b ∧ b < W1.heap.size)) (fun b h1 h2 => by rcases h1 with h1 | h1; exact Or.inl h1; exact Or.inr ⟨h1, h2⟩)
      have hzA := hSB.size
      go_simp
      refine hK1.out _ _ (hSS.upto hX0 (hbn.mono hSB.size)) (fun hSS => ?_)
      replace hSB := hSB.trans (hbn.mono hSB.size)
      clear hK1 hbn CI
      refine wpAnyH_take (i := 9) (v := ?_) rfl (by kernel_rfl) (by kernel_rfl) (by kernel_rfl) (fun _ _ _ h => h) (Or.inl ⟨by rfl, ?_⟩) hSS ?_
      rotate_left
      · intro wz hSz
        go_simp
        try with_reducible rfl
      simp only [List.getElem_toArray, List.getElem_cons_zero, List.getElem_cons_succ, Act.put, List.setIfInBounds_toArray, List.set_cons_zero, List.set_cons_succ]
      refine wpAnyH_take (i := 10) (v := ?_) rfl (by kernel_rfl) (by kernel_rfl) (by kernel_rfl) (fun _ _ _ h => h) (Or.inl ⟨by rfl, ?_⟩) hSS ?_
      rotate_left
      · intro wz hSz
        go_simp
        try with_reducible rfl
      simp only [List.getElem_toArray, List.getElem_cons_zero, List.getElem_cons_succ, Act.put, List.setIfInBounds_toArray, List.set_cons_zero, List.set_cons_succ]
      refine wpAnyH_take (i := 11) (v := ?_) rfl (by kernel_rfl) (by kernel_rfl) (by kernel_rfl) (fun _ _ _ h => h) (Or.inl ⟨by rfl, ?_⟩) hSS ?_
      rotate_left
      · intro wz hSz
        go_simp
        try with_reducible rfl
      simp only [List.getElem_toArray, List.getElem_cons_zero, List.getElem_cons_succ, Act.put, List.setIfInBounds_toArray, List.set_cons_zero, List.set_cons_succ]
      refine wpAnyH_ready (rs := [12]) (by kernel_rfl) (by simp) (AllReadyH.cons rfl (fun K2 hK2 => ?_) AllReadyH.nil)
      refine step_plain (by rfl) ?_
      simp only [List.getElem_toArray, List.getElem_cons_zero, List.getElem_cons_succ]
      go_simp
      have hbn : Below W1.heap.size W1 (W1.alloc (.cells #[.int .i64 0, .bool false, .int .i64 0, .int .i64 0, .string { data := #[] }, .slice none 0 0, .slice none 0 0] 25)) := (Below.refl _ _).alloc (Nat.le_refl _) _
      have hT := heap_alloc_new W1 (.cells #[.int .i64 0, .bool false, .int .i64 0, .int .i64 0, .string { data := #[] }, .slice none 0 0, .slice none 0 0] 25)
      have hT0 : W0.heap.size ≤ W1.heap.size := hSB.size
      replace hY := hY.stays hbn
      refine hK2.out _ _ (hSS.upto hX0 (hbn.mono hSB.size)) (fun hSS => ?_)
      replace hSB := hSB.trans (hbn.mono hSB.size)
      clear hK2 hbn
      generalize W1.alloc (.cells #[.int .i64 0, .bool false, .int .i64 0, .int .i64 0, .string { data := #[] }, .slice none 0 0, .slice none 0 0] 25) = W2 at *
      have hT1 := (Array.getElem?_eq_some_iff.1 hT).1
      have hbS : Below W0.heap.size W2 (setBox W2 W1.heap.size Y yp) := setBox_below (Below.refl _ _) hT0 Y yp
      have hY2 : VIn (setBox W2 W1.heap.size Y yp) (okB ok w.heap.size W0.heap.size) Y yp := (hY.setBox (B := W1.heap.size) (fun b hb => by rcases hb with ⟨-, h⟩ | ⟨h1, h2⟩ <;> omega) Y yp).mono (fun b hb _ => by rcases hb with h | h; exact Or.inl h; exact Or.inr (by omega))
      have hT10 := setBox_same (show _ = some zbox from hT) Y yp
      refine wpAnyH_ready (rs := [13]) (by kernel_rfl) (by simp) (AllReadyH.cons rfl (fun K3 hK3 => ?_) AllReadyH.nil)
      refine step_setbox (by rfl) _ _ (by rfl) (by rfl) (B := W1.heap.size) (v := Y) (p := yp) (by rfl) (by rfl) hT ?_
      refine hK3.out _ _ (hSS.upto hX0 hbS) (fun hSS => ?_)
      replace hSB := hSB.trans hbS
      clear hK3 hbS hT hY
      generalize setBox W2 W1.heap.size Y yp = WT at *
      generalize W1.heap.size = B10 at *
      refine wpAnyH_take (i := 14) (v := ?_) rfl (by kernel_rfl) (by kernel_rfl) (by kernel_rfl) (fun _ _ _ h => h) (Or.inl ⟨by rfl, ?_⟩) hSS ?_
      rotate_left
      · intro wz hSz
        go_simp
        try with_reducible rfl
      simp only [List.getElem_toArray, List.getElem_cons_zero, List.getElem_cons_succ, Act.put, List.setIfInBounds_toArray, List.set_cons_zero, List.set_cons_succ]
      refine wpAnyH_done (by kernel_rfl) ?_ _
      go_wp2_with fail
      go_meet
      exact ⟨yp, _, rfl, rfl, hSS, hSB, hT0, hT10, hY2⟩
    · refine step_plain (by rfl) ?_
      simp only [List.getElem_toArray, List.getElem_cons_zero, List.getElem_cons_succ]
      go_simp
      have hbn : Below V0.heap.size V0 (V0.alloc (.cells #[.int .i64 0, .bool false, .int .i64 0, .int .i64 0, .string { data := #[] }, .slice none 0 0, .slice none 0 0] 25)) := (Below.refl _ _).alloc (Nat.le_refl _) _
      have hT := heap_alloc_new V0 (.cells #[.int .i64 0, .bool false, .int .i64 0, .int .i64 0, .string { data := #[] }, .slice none 0 0, .slice none 0 0] 25)
      have hT0 : W0.heap.size ≤ V0.heap.size := hSB.size
      refine hK1.out _ _ (hSS.upto hX0 (hbn.mono hSB.size)) (fun hSS => ?_)
      replace hSB := hSB.trans (hbn.mono hSB.size)
      clear hK1 hbn
      generalize V0.alloc (.cells #[.int .i64 0, .bool false, .int .i64 0, .int .i64 0, .string { data := #[] }, .slice none 0 0, .slice none 0 0] 25) = W1 at *
      have hT1 := (Array.getElem?_eq_some_iff.1 hT).1
      refine wpAnyH_ready (rs := [8]) (by kernel_rfl) (by simp) (AllReadyH.cons rfl (fun K2 hK2 => ?_) AllReadyH.nil)
      refine step_plain (by rfl) ?_
      simp only [List.getElem_toArray, List.getElem_cons_zero, List.getElem_cons_succ]
      go_simp
      go_at_call 26
      refine (CI.out _ hSB).mono ?_
      rintro e W2 ⟨yp, rfl, hY, hbn⟩
      replace hY := hY.mono (ok' := fun b => (ok b ∧ b < w.heap.size) ∨ (W1.heap.size ≤ b ∧ b < W2.heap.size)) (fun b h1 h2 => by rcases h1 with h1 | h1; exact Or.inl h1; exact Or.inr ⟨h1, h2⟩)
      have hzA := hSB.size
      replace hT := (hbn.block _ (Array.getElem?_eq_some_iff.1 hT).1).trans hT
      go_simp
      refine hK2.out _ _ (hSS.upto hX0 (hbn.mono hSB.size)) (fun hSS => ?_)
      replace hSB := hSB.trans (hbn.mono hSB.size)
      clear hK2 hbn CI
      refine wpAnyH_take (i := 9) (v := ?_) rfl (by kernel_rfl) (by kernel_rfl) (by kernel_rfl) (fun _ _ _ h => h) (Or.inl ⟨by rfl, ?_⟩) hSS ?_
      rotate_left
      · intro wz hSz
        go_simp
        try with_reducible rfl
      simp only [List.getElem_toArray, List.getElem_cons_zero, List.getElem_cons_succ, Act.put, List.setIfInBounds_toArray, List.set_cons_zero, List.set_cons_succ]
      refine wpAnyH_take (i := 10) (v := ?_) rfl (by kernel_rfl) (by kernel_rfl) (by kernel_rfl) (fun _ _ _ h => h) (Or.inl ⟨by rfl, ?_⟩) hSS ?_
      rotate_left
      · intro wz hSz
        go_simp
        try with_reducible rfl
      simp only [List.getElem_toArray, List.getElem_cons_zero, List.getElem_cons_succ, Act.put, List.setIfInBounds_toArray, List.set_cons_zero, List.set_cons_succ]
      refine wpAnyH_take (i := 11) (v := ?_) rfl (by kernel_rfl) (by kernel_rfl) (by kernel_rfl) (fun _ _ _ h => h) (Or.inl ⟨by rfl, ?_⟩) hSS ?_
      rotate_left
      · intro wz hSz
        go_simp
        try with_reducible rfl
      simp only [List.getElem_toArray, List.getElem_cons_zero, List.getElem_cons_succ, Act.put, List.setIfInBounds_toArray, List.set_cons_zero, List.set_cons_succ]
      have hbS : Below W0.heap.size W2 (setBox W2 V0.heap.size Y yp) := setBox_below (Below.refl _ _) hT0 Y yp
      have hY2 : VIn (setBox W2 V0.heap.size Y yp) (okB ok w.heap.size W0.heap.size) Y yp := (hY.setBox (B := V0.heap.size) (fun b hb => by rcases hb with ⟨-, h⟩ | ⟨h1, h2⟩ <;> omega) Y yp).mono (fun b hb _ => by rcases hb with h | h; exact Or.inl h; exact Or.inr (by omega))
      have hT10 := setBox_same (show _ = some zbox from hT) Y yp
      refine wpAnyH_ready (rs := [13]) (by kernel_rfl) (by simp) (AllReadyH.cons rfl (fun K3 hK3 => ?_) AllReadyH.nil)
      refine step_setbox (by rfl) _ _ (by rfl) (by rfl) (B := V0.heap.size) (v := Y) (p := yp) (by rfl) (by rfl) hT ?_
      refine hK3.out _ _ (hSS.upto hX0 hbS) (fun hSS => ?_)
      replace hSB := hSB.trans hbS
      clear hK3 hbS hT hY
      generalize setBox W2 V0.heap.size Y yp = WT at *
      generalize V0.heap.size = B10 at *
      refine wpAnyH_take (i := 14) (v := ?_) rfl (by kernel_rfl) (by kernel_rfl) (by kernel_rfl) (fun _ _ _ h => h) (Or.inl ⟨by rfl, ?_⟩) hSS ?_
      rotate_left
      · intro wz hSz
        go_simp
        try with_reducible rfl
      simp only [List.getElem_toArray, List.getElem_cons_zero, List.getElem_cons_succ, Act.put, List.setIfInBounds_toArray, List.set_cons_zero, List.set_cons_succ]
      refine wpAnyH_done (by kernel_rfl) ?_ _
      go_wp2_with fail
      go_meet
      exact ⟨yp, _, rfl, rfl, hSS, hSB, hT0, hT10, hY2⟩
  case rest =>
    obtain ⟨yp, B10, rfl, rfl, hSS, hSB, hB10, hT10, hY2⟩ := hcut
    clear CI
    go_wp2_with fail
    have hDD : Below wc.heap.size wc wc.drew := (Below.refl _ _).drew
    replace hSB := hSB.drew
    replace hT10 := (hDD.block _ (Array.getElem?_eq_some_iff.1 hT10).1).trans hT10
    replace hY2 := hY2.stays hDD
    clear hDD
    obtain ⟨V1, hV1⟩ : ∃ V1, wc.drew = V1 := ⟨_, rfl⟩
    rw [hV1] at hSB hT10 hY2
    have hX1 : W0.heap.size ≤ V1.heap.size := hSB.size
    go_cut [12] from 96 to 104 (fun s12 wx => ∃ B12 g c13 P13, s12 = .pointer (some ⟨B12, 0, none⟩) ∧ RC w wx v p x xp bl off s cb co i' X cp ∧ Below V1.heap.size V1 wx ∧ V1.heap.size ≤ B12 ∧ V1.heap.size ≤ g ∧ g ≠ B12 ∧ SliceOk (some ⟨g, 0, none⟩) v.l.length c13 ∧ wx.heap[B12]? = some ((V.mk v.k false 0 0 ByteArray.empty v.l v.keys).box ⟨some ⟨g, 0, none⟩, c13, p.ka, p.kc⟩) ∧ VCells wx (fun b => b = g) (some ⟨g, 0, none⟩) v.l P13 ∧ (∀ j (hj : j < v.l.length), VIn wx (fun b => (ok b ∧ b < w.heap.size) ∧ b ≠ g) v.l[j] (P13 j)) ∧ (∃ cs, wx.heap[g]? = some (.cells cs 25 (0, 0))))
    case first =>
      refine wp_region_held_drew (S := fun W => RC w W v p x xp bl off s cb co i' X cp) (by kernel_rfl) hSS.drew (fun hSS => ?_)
      rw [hV1] at hSS ⊢
      clear hV1
      have hS1 : Below V1.heap.size V1 V1 := Below.refl _ _
      refine wpAnyH_take (i := 0) (v := ?_) rfl (by kernel_rfl) (by kernel_rfl) (by kernel_rfl) (fun _ _ _ h => h) (Or.inl ⟨by rfl, ?_⟩) hSS ?_
      rotate_left
      · intro wz hSz
        go_simp
        try with_reducible rfl
      simp only [List.getElem_toArray, List.getElem_cons_zero, Act.put, List.setIfInBounds_toArray, List.set_cons_zero, List.set_cons_succ]
      refine wpAnyH_take (i := 1) (v := ?_) rfl (by kernel_rfl) (by kernel_rfl) (by kernel_rfl) (fun _ _ _ h => h) (Or.inl ⟨by rfl, ?_⟩) hSS ?_
      rotate_left
      · intro wz hSz
        obtain ⟨⟨k0, k1, k2, k3, k4, k5, k6⟩, ⟨j0, j1, j2, j3, j4, j5, j6⟩, p0, p1⟩ := hSz.1.cells
        go_simp
        try with_reducible rfl
      simp only [List.getElem_toArray, List.getElem_cons_zero, List.getElem_cons_succ, Act.put, List.setIfInBounds_toArray, List.set_cons_zero, List.set_cons_succ]
      refine wpAnyH_take (i := 3) (v := ?_) rfl (by kernel_rfl) (by kernel_rfl) (by kernel_rfl) (fun _ _ _ h => h) (Or.inl ⟨by rfl, ?_⟩) hSS ?_
      rotate_left
      · intro wz hSz
        go_simp
        try with_reducible rfl
      simp only [List.getElem_toArray, List.getElem_cons_zero, List.getElem_cons_succ, Act.put, List.setIfInBounds_toArray, List.set_cons_zero, List.set_cons_succ]
      refine wpAnyH_take (i := 4) (v := ?_) rfl (by kernel_rfl) (by kernel_rfl) (by kernel_rfl) (fun _ _ _ h => h) (Or.inl ⟨by rfl, ?_⟩) hSS ?_
      rotate_left
      · intro wz hSz
        obtain ⟨⟨k0, k1, k2, k3, k4, k5, k6⟩, ⟨j0, j1, j2, j3, j4, j5, j6⟩, p0, p1⟩ := hSz.1.cells
        go_simp
        try with_reducible rfl
      simp only [List.getElem_toArray, List.getElem_cons_zero, List.getElem_cons_succ, Act.put, List.setIfInBounds_toArray, List.set_cons_zero, List.set_cons_succ]
      refine wpAnyH_take (i := 6) (v := ?_) rfl (by kernel_rfl) (by kernel_rfl) (by kernel_rfl) (fun _ _ _ h => h) (Or.inl ⟨by rfl, ?_⟩) hSS ?_
      rotate_left
      · intro wz hSz
        go_simp
        try with_reducible rfl
      simp only [List.getElem_toArray, List.getElem_cons_zero, List.getElem_cons_succ, Act.put, List.setIfInBounds_toArray, List.set_cons_zero, List.set_cons_succ]
      refine wpAnyH_take (i := 7) (v := ?_) rfl (by kernel_rfl) (by kernel_rfl) (by kernel_rfl) (fun _ _ _ h => h) (Or.inl ⟨by rfl, ?_⟩) hSS ?_
      rotate_left
      · intro wz hSz
        obtain ⟨⟨k0, k1, k2, k3, k4, k5, k6⟩, ⟨j0, j1, j2, j3, j4, j5, j6⟩, p0, p1⟩ := hSz.1.cells
        go_simp
        try with_reducible rfl
      simp only [List.getElem_toArray, List.getElem_cons_zero, List.getElem_cons_succ, Act.put, List.setIfInBounds_toArray, List.set_cons_zero, List.set_cons_succ]
      refine wpAnyH_ready (rs := [2, 9]) (by kernel_rfl) (by simp) (AllReadyH.cons rfl (fun K1 hK1 => ?_) (AllReadyH.cons rfl (fun K1 hK1 => ?_) AllReadyH.nil))
      · refine step_plain (by rfl) ?_
        simp only [List.getElem_toArray, List.getElem_cons_zero, List.getElem_cons_succ]
        go_simp
        have hbn : Below V1.heap.size V1 (V1.alloc (.cells #[] 25)) := (Below.refl _ _).alloc (Nat.le_refl _) _
        have hV : VL2 (V1.alloc (.cells #[] 25)) (fun b => ok b ∧ b < w.heap.size) V1.heap.size (.slice (some ⟨V1.heap.size, 0, none⟩) 0 0) [] := VL2.none _ _ _ _ hS1.size _ (0, 0) rfl (heap_alloc_new _ _) rfl
        refine hK1.out _ _ (hSS.upto hX0 (hbn.mono (Nat.le_trans hX1 hS1.size))) (fun hSS => ?_)
        replace hS1 := hS1.trans (hbn.mono hS1.size)
        clear hK1 hbn
        generalize V1.alloc (.cells #[] 25) = W1 at *
        refine wpAnyH_ready (rs := [5, 9]) (by kernel_rfl) (by simp) (AllReadyH.cons rfl (fun K2 hK2 => ?_) (AllReadyH.cons rfl (fun K2 hK2 => ?_) AllReadyH.nil))
        · obtain ⟨sv5, W2, hrun, hV5, hg5, ha5⟩ := append_vals hV (HVR.out _ (Value.slice (some ⟨V1.heap.size, 0, none⟩) 0 0) (hSB.trans (hS1.mono hX1)) (fun k hk => Nat.le_trans hX1 (hV.own k hk).1)) rfl HNO.out hS1.size (by simp; omega) _
          refine step_append_any (by rfl) _ _ _ (by rfl) _ _ (by rfl) (by rfl) hrun ?_
          have hbn : Below V1.heap.size W1 W2 := (Below.refl _ _).grown hg5 hS1.size (fun k hk => (hV.own k hk).1)
          replace hV := hV5
          rw [List.nil_append] at hV
          refine hK2.out _ _ (hSS.upto hX0 (hbn.mono hX1)) (fun hSS => ?_)
          replace hS1 := hS1.trans hbn
          clear hK2 hbn hV5 hg5 ha5 hrun
          obtain ⟨g, c13, P13, rfl, hXg, hgl, hso13, hvc, hin, cs, hblk⟩ := vl2_row3 hV (by intro e; have := HI.out; rw [e] at this; simp at this)
          clear hV
          refine wpAnyH_take (i := 8) (v := ?_) rfl (by kernel_rfl) (by kernel_rfl) (by kernel_rfl) (fun _ _ _ h => h) (Or.inl ⟨by rfl, ?_⟩) hSS ?_
          rotate_left
          · intro wz hSz
            go_simp
            try with_reducible rfl
          simp only [List.getElem_toArray, List.getElem_cons_zero, List.getElem_cons_succ, Act.put, List.setIfInBounds_toArray, List.set_cons_zero, List.set_cons_succ]
          refine wpAnyH_ready (rs := [9]) (by kernel_rfl) (by simp) (AllReadyH.cons rfl (fun K3 hK3 => ?_) AllReadyH.nil)
          refine step_plain (by rfl) ?_
          simp only [List.getElem_toArray, List.getElem_cons_zero, List.getElem_cons_succ]
          go_simp
          have hbn : Below W2.heap.size W2 (W2.alloc (.cells #[.int .i64 0, .bool false, .int .i64 0, .int .i64 0, .string { data := #[] }, .slice none 0 0, .slice none 0 0] 25)) := (Below.refl _ _).alloc (Nat.le_refl _) _
          have hT := heap_alloc_new W2 (.cells #[.int .i64 0, .bool false, .int .i64 0, .int .i64 0, .string { data := #[] }, .slice none 0 0, .slice none 0 0] 25)
          have hT0 : V1.heap.size ≤ W2.heap.size := hS1.size
          have hgne : g ≠ W2.heap.size := by omega
          replace hvc := hvc.below hbn
          replace hin := fun j hj => (hin j hj).stays hbn
          replace hblk := (hbn.block _ hgl).trans hblk
          refine hK3.out _ _ (hSS.upto hX0 (hbn.mono (Nat.le_trans hX1 hS1.size))) (fun hSS => ?_)
          replace hS1 := hS1.trans (hbn.mono hS1.size)
          clear hK3 hbn
          generalize W2.alloc (.cells #[.int .i64 0, .bool false, .int .i64 0, .int .i64 0, .string { data := #[] }, .slice none 0 0, .slice none 0 0] 25) = W3 at *
          have hbS : Below V1.heap.size W3 (setBox W3 W2.heap.size (V.mk v.k false 0 0 ByteArray.empty v.l v.keys) ⟨some ⟨g, 0, none⟩, c13, p.ka, p.kc⟩) := setBox_below (Below.refl _ _) hT0 _ _
          have hT12 := setBox_same (show _ = some zbox from hT) (V.mk v.k false 0 0 ByteArray.empty v.l v.keys) ⟨some ⟨g, 0, none⟩, c13, p.ka, p.kc⟩
          have hoth := fun k hk => setBox_other W3 W2.heap.size (V.mk v.k false 0 0 ByteArray.empty v.l v.keys) ⟨some ⟨g, 0, none⟩, c13, p.ka, p.kc⟩ k hk
          have hvc2 : VCells (setBox W3 W2.heap.size (V.mk v.k false 0 0 ByteArray.empty v.l v.keys) ⟨some ⟨g, 0, none⟩, c13, p.ka, p.kc⟩) (fun b => b = g) (some ⟨g, 0, none⟩) v.l P13 := hvc.agree (fun b hb _ => by subst hb; exact hoth _ hgne)
          have hin2 : ∀ j (hj : j < v.l.length), VIn (setBox W3 W2.heap.size (V.mk v.k false 0 0 ByteArray.empty v.l v.keys) ⟨some ⟨g, 0, none⟩, c13, p.ka, p.kc⟩) (fun b => (ok b ∧ b < w.heap.size) ∧ b ≠ g) v.l[j] (P13 j) := fun j hj => (hin j hj).agree (fun b hb _ => hoth _ (by have := hb.1.2; omega))
          have hblk2 := (hoth _ hgne).trans hblk
          refine wpAnyH_ready (rs := [10]) (by kernel_rfl) (by simp) (AllReadyH.cons rfl (fun K4 hK4 => ?_) AllReadyH.nil)
          refine step_setbox (by rfl) _ _ (by rfl) (by rfl) (B := W2.heap.size) (v := V.mk v.k false 0 0 ByteArray.empty v.l v.keys) (p := ⟨some ⟨g, 0, none⟩, c13, p.ka, p.kc⟩) (by rfl) (by rw [ov_val]; rfl) hT ?_
          refine hK4.out _ _ (hSS.upto hX0 (hbS.mono hX1)) (fun hSS => ?_)
          replace hS1 := hS1.trans hbS
          clear hK4 hbS hT hoth hvc hin hblk
          generalize setBox W3 W2.heap.size (V.mk v.k false 0 0 ByteArray.empty v.l v.keys) ⟨some ⟨g, 0, none⟩, c13, p.ka, p.kc⟩ = WU at *
          generalize W2.heap.size = B12 at *
          refine wpAnyH_done (by kernel_rfl) ?_ _
          go_wp2_with fail
          go_meet
          exact ⟨B12, g, c13, P13, rfl, hSS, hS1, hT0, hXg, hgne, hso13, hT12, hvc2, hin2, _, hblk2⟩
        · refine step_plain (by rfl) ?_
          simp only [List.getElem_toArray, List.getElem_cons_zero, List.getElem_cons_succ]
          go_simp
          have hbn : Below W1.heap.size W1 (W1.alloc (.cells #[.int .i64 0, .bool false, .int .i64 0, .int .i64 0, .string { data := #[] }, .slice none 0 0, .slice none 0 0] 25)) := (Below.refl _ _).alloc (Nat.le_refl _) _
          have hT := heap_alloc_new W1 (.cells #[.int .i64 0, .bool false, .int .i64 0, .int .i64 0, .string { data := #[] }, .slice none 0 0, .slice none 0 0] 25)
          have hT0 : V1.heap.size ≤ W1.heap.size := hS1.size
          have hne : (Value.slice (some ⟨V1.heap.size, 0, none⟩) 0 0).ownBlock ≠ some W1.heap.size := fun e => by have := (hV.own _ e).2; omega
          replace hV := hV.below hbn
          refine hK2.out _ _ (hSS.upto hX0 (hbn.mono (Nat.le_trans hX1 hS1.size))) (fun hSS => ?_)
          replace hS1 := hS1.trans (hbn.mono hS1.size)
          clear hK2 hbn
          generalize W1.alloc (.cells #[.int .i64 0, .bool false, .int .i64 0, .int .i64 0, .string { data := #[] }, .slice none 0 0, .slice none 0 0] 25) = W2 at *
          refine wpAnyH_ready (rs := [5]) (by kernel_rfl) (by simp) (AllReadyH.cons rfl (fun K3 hK3 => ?_) AllReadyH.nil)
          obtain ⟨sv5, W3, hrun, hV5, hg5, ha5⟩ := append_vals hV (HVR.out _ (Value.slice (some ⟨V1.heap.size, 0, none⟩) 0 0) (hSB.trans (hS1.mono hX1)) (fun k hk => Nat.le_trans hX1 (hV.own k hk).1)) rfl HNO.out hS1.size (by simp; omega) _
          refine step_append_any (by rfl) _ _ _ (by rfl) _ _ (by rfl) (by rfl) hrun ?_
          have hbn : Below V1.heap.size W2 W3 := (Below.refl _ _).grown hg5 hS1.size (fun k hk => (hV.own k hk).1)
          have hne3 : sv5.ownBlock ≠ some W1.heap.size := fun e => by
            have hlt := (Array.getElem?_eq_some_iff.1 hT).1
            rcases ha5 with ha | ha
            · exact hne (ha ▸ e)
            · rw [ha] at e; injection e with e; omega
          replace hT := (hg5.block _ (Array.getElem?_eq_some_iff.1 hT).1 (fun e => hne e.symm)).trans hT
          replace hne := hne3
          clear hne3
          replace hV := hV5
          rw [List.nil_append] at hV
          refine hK3.out _ _ (hSS.upto hX0 (hbn.mono hX1)) (fun hSS => ?_)
          replace hS1 := hS1.trans hbn
          clear hK3 hbn hV5 hg5 ha5 hrun
          obtain ⟨g, c13, P13, rfl, hXg, hgl, hso13, hvc, hin, cs, hblk⟩ := vl2_row3 hV (by intro e; have := HI.out; rw [e] at this; simp at this)
          have hgne : g ≠ W1.heap.size := fun e => hne (by rw [e]; rfl)
          clear hne
          clear hV
          refine wpAnyH_take (i := 8) (v := ?_) rfl (by kernel_rfl) (by kernel_rfl) (by kernel_rfl) (fun _ _ _ h => h) (Or.inl ⟨by rfl, ?_⟩) hSS ?_
          rotate_left
          · intro wz hSz
            go_simp
            try with_reducible rfl
          simp only [List.getElem_toArray, List.getElem_cons_zero, List.getElem_cons_succ, Act.put, List.setIfInBounds_toArray, List.set_cons_zero, List.set_cons_succ]
          have hbS : Below V1.heap.size W3 (setBox W3 W1.heap.size (V.mk v.k false 0 0 ByteArray.empty v.l v.keys) ⟨some ⟨g, 0, none⟩, c13, p.ka, p.kc⟩) := setBox_below (Below.refl _ _) hT0 _ _
          have hT12 := setBox_same (show _ = some zbox from hT) (V.mk v.k false 0 0 ByteArray.empty v.l v.keys) ⟨some ⟨g, 0, none⟩, c13, p.ka, p.kc⟩
          have hoth := fun k hk => setBox_other W3 W1.heap.size (V.mk v.k false 0 0 ByteArray.empty v.l v.keys) ⟨some ⟨g, 0, none⟩, c13, p.ka, p.kc⟩ k hk
          have hvc2 : VCells (setBox W3 W1.heap.size (V.mk v.k false 0 0 ByteArray.empty v.l v.keys) ⟨some ⟨g, 0, none⟩, c13, p.ka, p.kc⟩) (fun b => b = g) (some ⟨g, 0, none⟩) v.l P13 := hvc.agree (fun b hb _ => by subst hb; exact hoth _ hgne)
          have hin2 : ∀ j (hj : j < v.l.length), VIn (setBox W3 W1.heap.size (V.mk v.k false 0 0 ByteArray.empty v.l v.keys) ⟨some ⟨g, 0, none⟩, c13, p.ka, p.kc⟩) (fun b => (ok b ∧ b < w.heap.size) ∧ b ≠ g) v.l[j] (P13 j) := fun j hj => (hin j hj).agree (fun b hb _ => hoth _ (by have := hb.1.2; omega))
          have hblk2 := (hoth _ hgne).trans hblk
          refine wpAnyH_ready (rs := [10]) (by kernel_rfl) (by simp) (AllReadyH.cons rfl (fun K4 hK4 => ?_) AllReadyH.nil)
          refine step_setbox (by rfl) _ _ (by rfl) (by rfl) (B := W1.heap.size) (v := V.mk v.k false 0 0 ByteArray.empty v.l v.keys) (p := ⟨some ⟨g, 0, none⟩, c13, p.ka, p.kc⟩) (by rfl) (by rw [ov_val]; rfl) hT ?_
          refine hK4.out _ _ (hSS.upto hX0 (hbS.mono hX1)) (fun hSS => ?_)
          replace hS1 := hS1.trans hbS
          clear hK4 hbS hT hoth hvc hin hblk
          generalize setBox W3 W1.heap.size (V.mk v.k false 0 0 ByteArray.empty v.l v.keys) ⟨some ⟨g, 0, none⟩, c13, p.ka, p.kc⟩ = WU at *
          generalize W1.heap.size = B12 at *
          refine wpAnyH_done (by kernel_rfl) ?_ _
          go_wp2_with fail
          go_meet
          exact ⟨B12, g, c13, P13, rfl, hSS, hS1, hT0, hXg, hgne, hso13, hT12, hvc2, hin2, _, hblk2⟩
      · refine step_plain (by rfl) ?_
        simp only [List.getElem_toArray, List.getElem_cons_zero, List.getElem_cons_succ]
        go_simp
        have hbn : Below V1.heap.size V1 (V1.alloc (.cells #[.int .i64 0, .bool false, .int .i64 0, .int .i64 0, .string { data := #[] }, .slice none 0 0, .slice none 0 0] 25)) := (Below.refl _ _).alloc (Nat.le_refl _) _
        have hT := heap_alloc_new V1 (.cells #[.int .i64 0, .bool false, .int .i64 0, .int .i64 0, .string { data := #[] }, .slice none 0 0, .slice none 0 0] 25)
        have hT0 : V1.heap.size ≤ V1.heap.size := hS1.size
        refine hK1.out _ _ (hSS.upto hX0 (hbn.mono (Nat.le_trans hX1 hS1.size))) (fun hSS => ?_)
        replace hS1 := hS1.trans (hbn.mono hS1.size)
        clear hK1 hbn
        generalize V1.alloc (.cells #[.int .i64 0, .bool false, .int .i64 0, .int .i64 0, .string { data := #[] }, .slice none 0 0, .slice none 0 0] 25) = W1 at *
        refine wpAnyH_ready (rs := [2]) (by kernel_rfl) (by simp) (AllReadyH.cons rfl (fun K2 hK2 => ?_) AllReadyH.nil)
        refine step_plain (by rfl) ?_
        simp only [List.getElem_toArray, List.getElem_cons_zero, List.getElem_cons_succ]
        go_simp
        have hbn : Below W1.heap.size W1 (W1.alloc (.cells #[] 25)) := (Below.refl _ _).alloc (Nat.le_refl _) _
        have hV : VL2 (W1.alloc (.cells #[] 25)) (fun b => ok b ∧ b < w.heap.size) V1.heap.size (.slice (some ⟨W1.heap.size, 0, none⟩) 0 0) [] := VL2.none _ _ _ _ hS1.size _ (0, 0) rfl (heap_alloc_new _ _) rfl
        have hne : (Value.slice (some ⟨W1.heap.size, 0, none⟩) 0 0).ownBlock ≠ some V1.heap.size := fun e => by have := (Array.getElem?_eq_some_iff.1 hT).1; simp [Value.ownBlock] at e; omega
        replace hT := (hbn.block _ (Array.getElem?_eq_some_iff.1 hT).1).trans hT
        refine hK2.out _ _ (hSS.upto hX0 (hbn.mono (Nat.le_trans hX1 hS1.size))) (fun hSS => ?_)
        replace hS1 := hS1.trans (hbn.mono hS1.size)
        clear hK2 hbn
        generalize W1.alloc (.cells #[] 25) = W2 at *
        refine wpAnyH_ready (rs := [5]) (by kernel_rfl) (by simp) (AllReadyH.cons rfl (fun K3 hK3 => ?_) AllReadyH.nil)
        obtain ⟨sv5, W3, hrun, hV5, hg5, ha5⟩ := append_vals hV (HVR.out _ (Value.slice (some ⟨W1.heap.size, 0, none⟩) 0 0) (hSB.trans (hS1.mono hX1)) (fun k hk => Nat.le_trans hX1 (hV.own k hk).1)) rfl HNO.out hS1.size (by simp; omega) _
        refine step_append_any (by rfl) _ _ _ (by rfl) _ _ (by rfl) (by rfl) hrun ?_
        have hbn : Below V1.heap.size W2 W3 := (Below.refl _ _).grown hg5 hS1.size (fun k hk => (hV.own k hk).1)
        have hne3 : sv5.ownBlock ≠ some V1.heap.size := fun e => by
          have hlt := (Array.getElem?_eq_some_iff.1 hT).1
          rcases ha5 with ha | ha
          · exact hne (ha ▸ e)
          · rw [ha] at e; injection e with e; omega
        replace hT := (hg5.block _ (Array.getElem?_eq_some_iff.1 hT).1 (fun e => hne e.symm)).trans hT
        replace hne := hne3
        clear hne3
        replace hV := hV5
        rw [List.nil_append] at hV
        refine hK3.out _ _ (hSS.upto hX0 (hbn.mono hX1)) (fun hSS => ?_)
        replace hS1 := hS1.trans hbn
        clear hK3 hbn hV5 hg5 ha5 hrun
        obtain ⟨g, c13, P13, rfl, hXg, hgl, hso13, hvc, hin, cs, hblk⟩ := vl2_row3 hV (by intro e; have := HI.out; rw [e] at this; simp at this)
        have hgne : g ≠ V1.heap.size := fun e => hne (by rw [e]; rfl)
        clear hne
        clear hV
        refine wpAnyH_take (i := 8) (v := ?_) rfl (by kernel_rfl) (by kernel_rfl) (by kernel_rfl) (fun _ _ _ h => h) (Or.inl ⟨by rfl, ?_⟩) hSS ?_
        rotate_left
        · intro wz hSz
          go_simp
          try with_reducible rfl
        simp only [List.getElem_toArray, List.getElem_cons_zero, List.getElem_cons_succ, Act.put, List.setIfInBounds_toArray, List.set_cons_zero, List.set_cons_succ]
        have hbS : Below V1.heap.size W3 (setBox W3 V1.heap.size (V.mk v.k false 0 0 ByteArray.empty v.l v.keys) ⟨some ⟨g, 0, none⟩, c13, p.ka, p.kc⟩) := setBox_below (Below.refl _ _) hT0 _ _
        have hT12 := setBox_same (show _ = some zbox from hT) (V.mk v.k false 0 0 ByteArray.empty v.l v.keys) ⟨some ⟨g, 0, none⟩, c13, p.ka, p.kc⟩
        have hoth := fun k hk => setBox_other W3 V1.heap.size (V.mk v.k false 0 0 ByteArray.empty v.l v.keys) ⟨some ⟨g, 0, none⟩, c13, p.ka, p.kc⟩ k hk
        have hvc2 : VCells (setBox W3 V1.heap.size (V.mk v.k false 0 0 ByteArray.empty v.l v.keys) ⟨some ⟨g, 0, none⟩, c13, p.ka, p.kc⟩) (fun b => b = g) (some ⟨g, 0, none⟩) v.l P13 := hvc.agree (fun b hb _ => by subst hb; exact hoth _ hgne)
        have hin2 : ∀ j (hj : j < v.l.length), VIn (setBox W3 V1.heap.size (V.mk v.k false 0 0 ByteArray.empty v.l v.keys) ⟨some ⟨g, 0, none⟩, c13, p.ka, p.kc⟩) (fun b => (ok b ∧ b < w.heap.size) ∧ b ≠ g) v.l[j] (P13 j) := fun j hj => (hin j hj).agree (fun b hb _ => hoth _ (by have := hb.1.2; omega))
        have hblk2 := (hoth _ hgne).trans hblk
        refine wpAnyH_ready (rs := [10]) (by kernel_rfl) (by simp) (AllReadyH.cons rfl (fun K4 hK4 => ?_) AllReadyH.nil)
        refine step_setbox (by rfl) _ _ (by rfl) (by rfl) (B := V1.heap.size) (v := V.mk v.k false 0 0 ByteArray.empty v.l v.keys) (p := ⟨some ⟨g, 0, none⟩, c13, p.ka, p.kc⟩) (by rfl) (by rw [ov_val]; rfl) hT ?_
        refine hK4.out _ _ (hSS.upto hX0 (hbS.mono hX1)) (fun hSS => ?_)
        replace hS1 := hS1.trans hbS
        clear hK4 hbS hT hoth hvc hin hblk
        generalize setBox W3 V1.heap.size (V.mk v.k false 0 0 ByteArray.empty v.l v.keys) ⟨some ⟨g, 0, none⟩, c13, p.ka, p.kc⟩ = WU at *
        generalize V1.heap.size = B12 at *
        refine wpAnyH_done (by kernel_rfl) ?_ _
        go_wp2_with fail
        go_meet
        exact ⟨B12, g, c13, P13, rfl, hSS, hS1, hT0, hXg, hgne, hso13, hT12, hvc2, hin2, _, hblk2⟩
    case rest =>
      obtain ⟨B12, g, c13, P13, rfl, hSSU, hSU, hB12, hXg, hgne, hso13, hT12, hvc, hin, hblk⟩ := hcut
      have hT10' := (hSU.block _ (Array.getElem?_eq_some_iff.1 hT10).1).trans hT10
      have hY3 : VIn wc (fun b => okB ok w.heap.size W0.heap.size b ∧ b ≠ g) Y yp := ((hY2.mono (ok' := fun b => okB ok w.heap.size W0.heap.size b ∧ b < V1.heap.size) (fun b h1 h2 => ⟨h1, h2⟩)).stays hSU).mono (fun b hb _ => ⟨hb.1, by omega⟩)
      have hin3 : ∀ j (hj : j < v.l.length), VIn wc (fun b => okB ok w.heap.size W0.heap.size b ∧ b ≠ g) v.l[j] (P13 j) := fun j hj => (hin j hj).mono (fun b hb _ => ⟨Or.inl hb.1, hb.2⟩)
      have hi := HI.out
      have HTH : Hid (wc.there g (i' * 7) 7) := vcells_there hvc hblk hi
      have hrow := vrow_set hvc (Or.inr (by omega)) hin3 hblk hi hY3
      obtain ⟨OV, hOV⟩ : ∃ OV, V.mk v.k false 0 0 ByteArray.empty v.l v.keys = OV := ⟨_, rfl⟩
      rw [hOV] at hT12
      have hval : OV.val ⟨some ⟨g, 0, none⟩, c13, p.ka, p.kc⟩ = (v.withIn i' Y).val ⟨some ⟨g, 0, none⟩, c13, p.ka, p.kc⟩ := by rw [← hOV]; simp [V.val, V.withIn]
      have HVAL : Hid (OV.val ⟨some ⟨g, 0, none⟩, c13, p.ka, p.kc⟩ = (v.withIn i' Y).val ⟨some ⟨g, 0, none⟩, c13, p.ka, p.kc⟩) := hval
      have hio : i' < OV.l.length := by rw [← hOV]; exact hi
      have lB12 := (Array.getElem?_eq_some_iff.1 hT12).1
      have lN := (Array.getElem?_eq_some_iff.1 hSSU.2.2.2).1
      have HF : Hid (∀ WV, wc.setCells g (i' * 7) (Y.cells yp) = WV → WV.heap[B12]? = some (OV.box ⟨some ⟨g, 0, none⟩, c13, p.ka, p.kc⟩) ∧ WV.heap[w.heap.size + 2]? = some (V.null.box nilp) ∧ (setBox WV (w.heap.size + 2) OV ⟨some ⟨g, 0, none⟩, c13, p.ka, p.kc⟩).heap[w.heap.size + 2]? = some (OV.box ⟨some ⟨g, 0, none⟩, c13, p.ka, p.kc⟩) ∧ Below w.heap.size w (setBox WV (w.heap.size + 2) OV ⟨some ⟨g, 0, none⟩, c13, p.ka, p.kc⟩) ∧ VIn (setBox WV (w.heap.size + 2) OV ⟨some ⟨g, 0, none⟩, c13, p.ka, p.kc⟩) (fun b => (ok b ∧ b < w.heap.size) ∨ w.heap.size ≤ b) (v.withIn i' Y) ⟨some ⟨g, 0, none⟩, c13, p.ka, p.kc⟩) := fun WV hWV => by
        subst hWV
        have hBS : Below V1.heap.size V1 (wc.setCells g (i' * 7) (Y.cells yp)) := below_cells hXg (Y.cells yp) (i' * 7) wc hSU
        have hBW : Below w.heap.size w (wc.setCells g (i' * 7) (Y.cells yp)) := hWB.trans ((hSB.trans (hBS.mono hX1)).mono hWB.size)
        have e1 := (World.heap_setCells_other wc g (i' * 7) (Y.cells yp) lB12 (fun e => hgne e.symm)).trans hT12
        have e2 := (World.heap_setCells_other wc g (i' * 7) (Y.cells yp) lN (by omega)).trans hSSU.2.2.2
        have hf := HFIN.out _ (some ⟨g, 0, none⟩) c13 Y hBW hso13 hrow
        refine ⟨e1, e2, setBox_any e2 OV _, setBox_below hBW (by omega) OV _, ?_⟩
        exact (hf.setBox (B := w.heap.size + 2) (fun b hb => by rcases hb with ⟨-, h⟩ | h <;> omega) OV ⟨some ⟨g, 0, none⟩, c13, p.ka, p.kc⟩).mono (fun b hb _ => by rcases hb with h | h; exact Or.inl h; exact Or.inr (by omega))
      obtain ⟨k0, k1, k2, k3, k4, k5, k6⟩ := box_cells hT12
      obtain ⟨j0, j1, j2, j3, j4, j5, j6⟩ := box_cells hT10'
      clear hT10 hT10' hY2 hY3 hin hin3 hvc hblk hrow hOV hval lB12 lN hSSU hSS hSU hSB hWB HFIN HVR HNO hT12 hso13 hXg hgne hB12 HI HLA hi
      go_wp2_with (first | (refine wpList_store_mid rfl 25 _ _ rfl g (i' * 7) #[.int .i64 Y.k, .bool Y.b, .int .i64 Y.n, .int .i64 Y.m, .string Y.s, .slice yp.la Y.l.length yp.lc, .slice yp.ka Y.keys.length yp.kc] (by rfl) (by rfl) HTH.out sizeV (by simp [Value.oneCell']) ?_; generalize hWV0 : World.setCells wc g (i' * 7) _ = WV; have HW := HF.out WV hWV0; clear k0 k1 k2 k3 k4 k5 k6 j0 j1 j2 j3 j4 j5 j6 hWV0; obtain ⟨m0, m1, m2, m3, m4, m5, m6⟩ := box_cells HW.1; have HW2 : Hid _ := HW.2; clear HW) | (refine wpList_setbox rfl _ _ rfl rfl OV ⟨some ⟨g, 0, none⟩, c13, p.ka, p.kc⟩ (by rfl) (by rfl) HW2.out.1 ?_; generalize setBox _ (w.heap.size + 2) OV ⟨some ⟨g, 0, none⟩, c13, p.ka, p.kc⟩ = WZ at *))
      obtain ⟨-, h13, hB3, hVF⟩ := HW2.out
      obtain ⟨n0, n1, n2, n3, n4, n5, n6⟩ := box_cells h13
      refine bodyPost_ret (v := .tuple #[OV.val ⟨some ⟨g, 0, none⟩, c13, p.ka, p.kc⟩, .int .i64 0]) (by simp [results, Try.results26, go_sem, n0, n1, n2, n3, n4, n5, n6, V.val]) rfl ⟨⟨some ⟨g, 0, none⟩, c13, p.ka, p.kc⟩, ?_, hVF, hB3⟩
      rw [HVAL.out]
end Go.Proofs.Ytigdcnoggjcddaa

