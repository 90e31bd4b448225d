/- A value with another one where steps lead, as the document tells it: With, where what stands below answers an error. Conditions: clean values of at most 1048576 values and letters. -/
import Derived.Test.YtigdcnoggjcddaaVRWithB
import Derived.Test.YtigdcnoggjcddaaVWithC
namespace Go.Proofs.Ytigdcnoggjcddaa
open Go.RowKit Go.Maps Go.WideMaps

set_option maxRecDepth 100000 in
theorem sizeSU : ∀ W, (sizeOf (Try.prog.elem 40)).run Try.prog W = .ok 2 W := fun W => by
  have e : Try.prog.elem 40 = 43 := by kernel_rfl
  rw [e]; simp [go_sem]
set_option maxRecDepth 100000 in
theorem cutU_l (a : Option Addr) (n cap : Nat) (W : World) : (Instr.slice 40 (.slice a (n + 1) cap) (some (.int .i64 1)) none none).run Try.prog W = .ok (.slice (cutN a cap 1 2) n (cap - 1)) W := by
  rw [run_slice_l W 40 a (n + 1) cap Try.underlying40 .i64 1 (by omega) (by omega), sizeSU]
  simp [Result.andThen, sliced, cutN]
set_option maxRecDepth 100000 in
theorem VAt.upto {W W' : World} {b off j X : Nat} {v : V} {p : VP} (h : VAt W b off j v p) (hX : b < X) (hb : Below X W W') : VAt W' b off j v p := by
  obtain ⟨a0, a1, a2, a3, a4, a5, a6⟩ := h
  exact ⟨(hb.cell (p := ⟨b, _, none⟩) hX).trans a0, (hb.cell (p := ⟨b, _, none⟩) hX).trans a1, (hb.cell (p := ⟨b, _, none⟩) hX).trans a2, (hb.cell (p := ⟨b, _, none⟩) hX).trans a3, (hb.cell (p := ⟨b, _, none⟩) hX).trans a4, (hb.cell (p := ⟨b, _, none⟩) hX).trans a5, (hb.cell (p := ⟨b, _, none⟩) hX).trans a6⟩
/-- What With reads again, where it goes on below: also what stands there, and the answer's box. -/
def RC (w W : World) (v : V) (p : VP) (x : V) (xp : VP) (bl off : Nat) (s : St) (cb co i : Nat) (c : V) (cp : VP) : Prop := RB w W v p x xp bl off s ∧ cb < w.heap.size ∧ VAt W cb co i c cp ∧ W.heap[w.heap.size + 2]? = some (V.null.box nilp)
set_option maxRecDepth 100000 in
theorem RC.upto {w W W' : World} {v : V} {p : VP} {x : V} {xp : VP} {bl off : Nat} {s : St} {cb co i : Nat} {c : V} {cp : VP} {X : Nat} (h : RC w W v p x xp bl off s cb co i c cp) (hX : w.heap.size + 3 ≤ X) (hb : Below X W W') : RC w W' v p x xp bl off s cb co i c cp :=
  ⟨h.1.upto hX hb, h.2.1, h.2.2.1.upto (by have := h.2.1; omega) hb, (hb.block _ (by omega)).trans h.2.2.2⟩
set_option maxRecDepth 100000 in
theorem RC.drew {w W : World} {v : V} {p : VP} {x : V} {xp : VP} {bl off : Nat} {s : St} {cb co i : Nat} {c : V} {cp : VP} (h : RC w W v p x xp bl off s cb co i c cp) : RC w W.drew v p x xp bl off s cb co i c cp := h
set_option maxRecDepth 100000 in
set_option maxHeartbeats 6400000 in
theorem rwith_below {w0 : World} {ok : Nat → Prop} {v x : V} {p xp : VP} (hv : VIn w0 ok v p) (w : World) (hb0 : Below w0.heap.size w0 w) (hbk : v.bulk ≤ 1048576) (hcl : v.cl) (ao : Option Addr) (s : St) (r : List St) (c : Nat) (hl : StRow w ao (s :: r)) (hso : SliceOk ao (s :: r).length c) (hn : r.length ≤ 1048575) (h0 : (v.follow s).2 = 0)
    (IH : ∀ (W : World) (cp : VP) (ao' : Option Addr) (c' : Nat), Below w0.heap.size w0 W → VIn w0 ok (v.follow s).1 cp → StRow W ao' r → SliceOk ao' r.length c' → Calls Try.prog 26 #[(v.follow s).1.val cp, x.val xp, .slice ao' r.length c'] W fun e w' => ∃ yp, e = .returned (.tuple #[((v.follow s).1.withR x r).1.val yp, .int .i64 ((v.follow s).1.withR x r).2]) ∧ Below W.heap.size W w') (hE : ((v.follow s).1.withR x r).2 ≠ 0) :
    Calls Try.prog 26 #[v.val p, x.val xp, .slice ao (r.length + 1) c] w fun e w' => e = .returned (.tuple #[V.null.val nilp, .int .i64 ((v.follow s).1.withR x r).2]) ∧ Below w.heap.size w w' := by
  have hst := hl
  obtain ⟨-, hl2⟩ := hl
  obtain ⟨bl, off, rfl, hcc⟩ := hl2 (by simp)
  have hc0 := hcc 0 (by simp)
  have hbl : bl < w.heap.size := World.block_lt_of_cell? _ _ hc0.1
  obtain ⟨b1, b2, b3, hbb⟩ := W3.boxes w v p x xp
  have hsz : (W3 w v p x xp).heap.size = w.heap.size + 3 := by unfold W3; simp
  obtain ⟨i, e1, hi, e2⟩ := child_of hcl s h0
  obtain ⟨P, hcv, hin⟩ := hv.parts
  obtain ⟨cb, co, e3, -, hat⟩ := hcv (by intro e; rw [e] at hi; simp at hi)
  have hat0 := hat i hi
  rw [← e2] at hat0
  have hcbl : cb < w.heap.size := Nat.lt_of_lt_of_le (World.block_lt_of_cell? _ _ hat0.1) hb0.size
  have hvc : VIn w0 ok (v.follow s).1 (P i) := by rw [e2]; exact hin i hi
  have CP : Hid (∀ W, Below (W3 w v p x xp).heap.size (W3 w v p x xp) W → Calls Try.prog 52 #[v.val p, .agg #[.string s.key, .int .i64 s.at_]] W fun e w' => e = .returned (.tuple #[.int .i64 (i : Nat), .int .i64 0]) ∧ Below W.heap.size W w') := fun W hW => by
    have := place_any hv W (hb0.trans ((hbb.trans (hW.mono hbb.size)).mono hb0.size)) hbk hcl s
    rw [e1, h0] at this
    exact this
  have hRC : RC w (W3 w v p x xp) v p x xp bl off s cb co i (v.follow s).1 (P i) := ⟨⟨hbl, b1, b2, by simpa using (hbb.cell (p := ⟨bl, off + 0 * 2, none⟩) hbl).trans hc0.1, by simpa using (hbb.cell (p := ⟨bl, off + 0 * 2 + 1, none⟩) hbl).trans hc0.2⟩, hcbl, (hat0.upto (Nat.lt_of_lt_of_le (World.block_lt_of_cell? _ _ hat0.1) (Nat.le_refl _)) hb0).upto hcbl hbb, b3⟩
  have CI : Hid (∀ W, Below (W3 w v p x xp).heap.size (W3 w v p x xp) W → Calls Try.prog 26 #[(v.follow s).1.val (P i), x.val xp, .slice (cutN (some ⟨bl, off, none⟩) c 1 2) r.length (c - 1)] W fun e w' => ∃ yp, e = .returned (.tuple #[((v.follow s).1.withR x r).1.val yp, .int .i64 ((v.follow s).1.withR x r).2]) ∧ Below W.heap.size W w') := fun W hW => by
    have hW2 := hbb.trans (hW.mono hbb.size)
    have hlen := hso.2.1
    simp only [List.length_cons] at hlen
    refine IH W (P i) _ _ (hb0.trans (hW2.mono hb0.size)) hvc ⟨fun t ht => hst.1 t (by simp [ht]), fun hne => ?_⟩ ⟨fun h => ?_, by omega, by have := hso.2.2; omega⟩
    · have hp := List.length_pos_iff.2 hne
      refine ⟨bl, off + 1 * 2, by unfold cutN; rw [if_neg (by omega)]; simp [Addr.add], fun j hj => ?_⟩
      have h5 := hcc (j + 1) (by simp; omega)
      simp only [List.getElem_cons_succ] at h5
      rw [show off + 1 * 2 + j * 2 = off + (j + 1) * 2 by omega]
      exact ⟨(hW2.cell (p := ⟨bl, _, none⟩) hbl).trans h5.1, (hW2.cell (p := ⟨bl, _, none⟩) hbl).trans h5.2⟩
    · unfold cutN at h
      split at h <;> simp at h
  have HI : Hid (i < v.l.length) := hi
  have HLA : Hid (p.la = some ⟨cb, co, none⟩) := e3
  have hsl := cutU_l (some ⟨bl, off, none⟩) r.length c
  clear hv IH hb0 hbk hcl hl2 hcc hc0 hbl b1 b2 b3 hbb e1 hi e2 hcv hin hat e3 hat0 hcbl hvc hst hso h0
  generalize (v.follow s).1 = X at *
  generalize X.withR x r = R at *
  obtain ⟨Y, EE⟩ := R
  generalize P i = cp at *
  unfold V.val at CP CI
  dsimp only at *
  show Calls Try.prog 26 #[.agg #[.int .i64 v.k, .bool v.b, .int .i64 v.n, .int .i64 v.m, .string v.s, .slice p.la v.l.length p.lc, .slice p.ka v.keys.length p.kc], .agg #[.int .i64 x.k, .bool x.b, .int .i64 x.n, .int .i64 x.m, .string x.s, .slice xp.la x.l.length xp.lc, .slice xp.ka x.keys.length xp.kc], .slice (some ⟨bl, off, none⟩) (r.length + 1) c] w _
  go_enter Try.func26, Try.ntmps26
  go_wp2_with fail
  generalize hW0 : ((w.alloc (.cells #[.int .i64 v.k, .bool v.b, .int .i64 v.n, .int .i64 v.m, .string v.s, .slice p.la v.l.length p.lc, .slice p.ka v.keys.length p.kc] 25)).alloc (.cells #[.int .i64 x.k, .bool x.b, .int .i64 x.n, .int .i64 x.m, .string x.s, .slice xp.la x.l.length xp.lc, .slice xp.ka x.keys.length xp.kc] 25)).alloc _ = W0
  have hW : W3 w v p x xp = W0 := hW0
  rw [hW] at CP CI hRC hsz
  have hWB : Below w.heap.size w W0 := by rw [← hW]; exact (W3.boxes w v p x xp).2.2.2
  clear hW hW0
  have hX0 : w.heap.size + 3 ≤ W0.heap.size := by omega
  have hSB : Below W0.heap.size W0 W0.drew := (Below.refl _ _).drew
  refine wp_region_held_drew (S := fun W => RC w W v p x xp bl off s cb co i X cp) (by kernel_rfl) hRC.drew (fun hSS => ?_)
  refine wpAnyH_take (i := 0) (v := ?_) rfl (by kernel_rfl) (by kernel_rfl) (by kernel_rfl) (fun _ _ _ h => h) (Or.inl ⟨by rfl, ?_⟩) hSS ?_
  rotate_left
  · intro wz hSz
    obtain ⟨⟨k0, k1, k2, k3, k4, k5, k6⟩, ⟨j0, j1, j2, j3, j4, j5, j6⟩, p0, p1⟩ := hSz.1.cells
    go_simp
    try with_reducible rfl
  simp only [List.getElem_toArray, List.getElem_cons_zero, Act.put, List.setIfInBounds_toArray, List.set_cons_zero, List.set_cons_succ]
  refine wpAnyH_take (i := 1) (v := ?_) rfl (by kernel_rfl) (by kernel_rfl) (by kernel_rfl) (fun _ _ _ h => h) (Or.inl ⟨by rfl, ?_⟩) hSS ?_
  rotate_left
  · intro wz hSz
    go_simp
    try with_reducible rfl
  simp only [List.getElem_toArray, List.getElem_cons_zero, List.getElem_cons_succ, Act.put, List.setIfInBounds_toArray, List.set_cons_zero, List.set_cons_succ]
  refine wpAnyH_take (i := 2) (v := ?_) rfl (by kernel_rfl) (by kernel_rfl) (by kernel_rfl) (fun _ _ _ h => h) (Or.inl ⟨by rfl, ?_⟩) hSS ?_
  rotate_left
  · intro wz hSz
    go_simp
    try with_reducible rfl
  simp only [List.getElem_toArray, List.getElem_cons_zero, List.getElem_cons_succ, Act.put, List.setIfInBounds_toArray, List.set_cons_zero, List.set_cons_succ]
  refine wpAnyH_take (i := 3) (v := ?_) rfl (by kernel_rfl) (by kernel_rfl) (by kernel_rfl) (fun _ _ _ h => h) (Or.inl ⟨by rfl, ?_⟩) hSS ?_
  rotate_left
  · intro wz hSz
    obtain ⟨⟨k0, k1, k2, k3, k4, k5, k6⟩, ⟨j0, j1, j2, j3, j4, j5, j6⟩, p0, p1⟩ := hSz.1.cells
    go_simp
    try with_reducible rfl
  simp only [List.getElem_toArray, List.getElem_cons_zero, List.getElem_cons_succ, Act.put, List.setIfInBounds_toArray, List.set_cons_zero, List.set_cons_succ]
  refine wpAnyH_ready (rs := [4]) (by kernel_rfl) (by simp) (AllReadyH.cons rfl (fun K4 hK4 => ?_) AllReadyH.nil)
  refine step_plain (by rfl) ?_
  simp only [List.getElem_toArray, List.getElem_cons_zero, List.getElem_cons_succ]
  go_simp
  go_at_call 52
  refine (CP.out _ hSB).mono ?_
  rintro e w1 ⟨rfl, hb1⟩
  go_simp
  refine hK4.out _ _ (hSS.upto hX0 (hb1.mono hSB.size)) (fun hSS => ?_)
  replace hSB := hSB.trans (hb1.mono hSB.size)
  clear hK4 hb1 CP hRC
  refine wpAnyH_take (i := 5) (v := ?_) rfl (by kernel_rfl) (by kernel_rfl) (by kernel_rfl) (fun _ _ _ h => h) (Or.inl ⟨by rfl, ?_⟩) hSS ?_
  rotate_left
  · intro wz hSz
    go_simp
    try with_reducible rfl
  simp only [List.getElem_toArray, List.getElem_cons_zero, List.getElem_cons_succ, Act.put, List.setIfInBounds_toArray, List.set_cons_zero, List.set_cons_succ]
  refine wpAnyH_take (i := 6) (v := ?_) rfl (by kernel_rfl) (by kernel_rfl) (by kernel_rfl) (fun _ _ _ h => h) (Or.inl ⟨by rfl, ?_⟩) hSS ?_
  rotate_left
  · intro wz hSz
    go_simp
    try with_reducible rfl
  simp only [List.getElem_toArray, List.getElem_cons_zero, List.getElem_cons_succ, Act.put, List.setIfInBounds_toArray, List.set_cons_zero, List.set_cons_succ]
  refine wpAnyH_take (i := 7) (v := ?_) rfl (by kernel_rfl) (by kernel_rfl) (by kernel_rfl) (fun _ _ _ h => h) (Or.inl ⟨by rfl, ?_⟩) hSS ?_
  rotate_left
  · intro wz hSz
    go_simp
    try with_reducible rfl
  simp only [List.getElem_toArray, List.getElem_cons_zero, List.getElem_cons_succ, Act.put, List.setIfInBounds_toArray, List.set_cons_zero, List.set_cons_succ]
  refine wpAnyH_take (i := 8) (v := ?_) rfl (by kernel_rfl) (by kernel_rfl) (by kernel_rfl) (fun _ _ _ h => h) (Or.inl ⟨by rfl, ?_⟩) hSS ?_
  rotate_left
  · intro wz hSz
    go_simp
    try with_reducible rfl
  simp only [List.getElem_toArray, List.getElem_cons_zero, List.getElem_cons_succ, Act.put, List.setIfInBounds_toArray, List.set_cons_zero, List.set_cons_succ]
  refine wpAnyH_take (i := 9) (v := ?_) rfl (by kernel_rfl) (by kernel_rfl) (by kernel_rfl) (fun _ _ _ h => h) (Or.inl ⟨by rfl, ?_⟩) hSS ?_
  rotate_left
  · intro wz hSz
    go_simp
    try with_reducible rfl
  simp only [List.getElem_toArray, List.getElem_cons_zero, List.getElem_cons_succ, Act.put, List.setIfInBounds_toArray, List.set_cons_zero, List.set_cons_succ]
  refine wpAnyH_done (by kernel_rfl) ?_ _
  go_wp2_with fail
  refine wp_region_held_drew (S := fun W => RC w W v p x xp bl off s cb co i X cp) (by kernel_rfl) hSS.drew (fun hSS => ?_)
  replace hSB := hSB.drew
  refine wpAnyH_take (i := 0) (v := ?_) rfl (by kernel_rfl) (by kernel_rfl) (by kernel_rfl) (fun _ _ _ h => h) (Or.inl ⟨by rfl, ?_⟩) hSS ?_
  rotate_left
  · intro wz hSz
    go_simp
    try with_reducible rfl
  simp only [List.getElem_toArray, List.getElem_cons_zero, Act.put, List.setIfInBounds_toArray, List.set_cons_zero, List.set_cons_succ]
  refine wpAnyH_take (i := 1) (v := ?_) rfl (by kernel_rfl) (by kernel_rfl) (by kernel_rfl) (fun _ _ _ h => h) (Or.inl ⟨by rfl, ?_⟩) hSS ?_
  rotate_left
  · intro wz hSz
    obtain ⟨⟨k0, k1, k2, k3, k4, k5, k6⟩, ⟨j0, j1, j2, j3, j4, j5, j6⟩, p0, p1⟩ := hSz.1.cells; rw [HLA.out] at k5
    go_simp
    try with_reducible rfl
  simp only [List.getElem_toArray, List.getElem_cons_zero, List.getElem_cons_succ, Act.put, List.setIfInBounds_toArray, List.set_cons_zero, List.set_cons_succ]
  refine wpAnyH_take (i := 2) (v := ?_) rfl (by kernel_rfl) (by kernel_rfl) (by kernel_rfl) (fun _ _ _ h => h) (Or.inl ⟨by rfl, ?_⟩) hSS ?_
  rotate_left
  · intro wz hSz
    go_simp
    try with_reducible rfl
  simp only [List.getElem_toArray, List.getElem_cons_zero, List.getElem_cons_succ, Act.put, List.setIfInBounds_toArray, List.set_cons_zero, List.set_cons_succ]
  refine wpAnyH_take (i := 3) (v := ?_) rfl (by kernel_rfl) (by kernel_rfl) (by kernel_rfl) (fun _ _ _ h => h) (Or.inl ⟨by rfl, ?_⟩) hSS ?_
  rotate_left
  · intro wz hSz
    have hi := HI.out
    go_simp
    try with_reducible rfl
  simp only [List.getElem_toArray, List.getElem_cons_zero, List.getElem_cons_succ, Act.put, List.setIfInBounds_toArray, List.set_cons_zero, List.set_cons_succ]
  refine wpAnyH_take (i := 4) (v := ?_) rfl (by kernel_rfl) (by kernel_rfl) (by kernel_rfl) (fun _ _ _ h => h) (Or.inl ⟨by rfl, ?_⟩) hSS ?_
  rotate_left
  · intro wz hSz
    obtain ⟨c0, c1, c2, c3, c4, c5, c6⟩ := hSz.2.2.1
    go_simp
    try with_reducible rfl
  simp only [List.getElem_toArray, List.getElem_cons_zero, List.getElem_cons_succ, Act.put, List.setIfInBounds_toArray, List.set_cons_zero, List.set_cons_succ]
  refine wpAnyH_take (i := 5) (v := ?_) rfl (by kernel_rfl) (by kernel_rfl) (by kernel_rfl) (fun _ _ _ h => h) (Or.inl ⟨by rfl, ?_⟩) hSS ?_
  rotate_left
  · intro wz hSz
    obtain ⟨⟨k0, k1, k2, k3, k4, k5, k6⟩, ⟨j0, j1, j2, j3, j4, j5, j6⟩, p0, p1⟩ := hSz.1.cells
    go_simp
    try with_reducible rfl
  simp only [List.getElem_toArray, List.getElem_cons_zero, List.getElem_cons_succ, Act.put, List.setIfInBounds_toArray, List.set_cons_zero, List.set_cons_succ]
  refine wpAnyH_take (i := 6) (v := ?_) rfl (by kernel_rfl) (by kernel_rfl) (by kernel_rfl) (fun _ _ _ h => h) (Or.inl ⟨by rfl, ?_⟩) hSS ?_
  rotate_left
  · intro wz hSz
    go_simp
    try with_reducible rfl
  simp only [List.getElem_toArray, List.getElem_cons_zero, List.getElem_cons_succ, Act.put, List.setIfInBounds_toArray, List.set_cons_zero, List.set_cons_succ]
  refine wpAnyH_take (i := 7) (v := ?_) rfl (by kernel_rfl) (by kernel_rfl) (by kernel_rfl) (fun _ _ _ h => h) (Or.inl ⟨by rfl, ?_⟩) hSS ?_
  rotate_left
  · intro wz hSz
    go_simp
    try with_reducible rfl
  simp only [List.getElem_toArray, List.getElem_cons_zero, List.getElem_cons_succ, Act.put, List.setIfInBounds_toArray, List.set_cons_zero, List.set_cons_succ]
  generalize w1.drew = V0 at *
  refine wpAnyH_ready (rs := [8, 12]) (by kernel_rfl) (by simp) (AllReadyH.cons rfl (fun K1 hK1 => ?_) (AllReadyH.cons rfl (fun K1 hK1 => ?_) AllReadyH.nil))
  · refine step_plain (by rfl) ?_
    simp only [List.getElem_toArray, List.getElem_cons_zero, List.getElem_cons_succ]
    go_simp
    go_at_call 26
    refine (CI.out _ hSB).mono ?_
    rintro e W1 ⟨yp, rfl, hbn⟩
    go_simp
    refine hK1.out _ _ (hSS.upto hX0 (hbn.mono hSB.size)) (fun hSS => ?_)
    replace hSB := hSB.trans (hbn.mono hSB.size)
    clear hK1 hbn CI
    refine wpAnyH_take (i := 9) (v := ?_) rfl (by kernel_rfl) (by kernel_rfl) (by kernel_rfl) (fun _ _ _ h => h) (Or.inl ⟨by rfl, ?_⟩) hSS ?_
    rotate_left
    · intro wz hSz
      go_simp
      try with_reducible rfl
    simp only [List.getElem_toArray, List.getElem_cons_zero, List.getElem_cons_succ, Act.put, List.setIfInBounds_toArray, List.set_cons_zero, List.set_cons_succ]
    refine wpAnyH_take (i := 10) (v := ?_) rfl (by kernel_rfl) (by kernel_rfl) (by kernel_rfl) (fun _ _ _ h => h) (Or.inl ⟨by rfl, ?_⟩) hSS ?_
    rotate_left
    · intro wz hSz
      go_simp
      try with_reducible rfl
    simp only [List.getElem_toArray, List.getElem_cons_zero, List.getElem_cons_succ, Act.put, List.setIfInBounds_toArray, List.set_cons_zero, List.set_cons_succ]
    refine wpAnyH_take (i := 11) (v := ?_) rfl (by kernel_rfl) (by kernel_rfl) (by kernel_rfl) (fun _ _ _ h => h) (Or.inl ⟨by rfl, ?_⟩) hSS ?_
    rotate_left
    · intro wz hSz
      go_simp
      try with_reducible rfl
    simp only [List.getElem_toArray, List.getElem_cons_zero, List.getElem_cons_succ, Act.put, List.setIfInBounds_toArray, List.set_cons_zero, List.set_cons_succ]
    refine wpAnyH_ready (rs := [12]) (by kernel_rfl) (by simp) (AllReadyH.cons rfl (fun K2 hK2 => ?_) AllReadyH.nil)
    refine step_plain (by rfl) ?_
    simp only [List.getElem_toArray, List.getElem_cons_zero, List.getElem_cons_succ]
    go_simp
    have hbn : Below W1.heap.size W1 (W1.alloc (.cells #[.int .i64 0, .bool false, .int .i64 0, .int .i64 0, .string { data := #[] }, .slice none 0 0, .slice none 0 0] 25)) := (Below.refl _ _).alloc (Nat.le_refl _) _
    have hT := heap_alloc_new W1 (.cells #[.int .i64 0, .bool false, .int .i64 0, .int .i64 0, .string { data := #[] }, .slice none 0 0, .slice none 0 0] 25)
    have hT0 : W0.heap.size ≤ W1.heap.size := hSB.size
    refine hK2.out _ _ (hSS.upto hX0 (hbn.mono hSB.size)) (fun hSS => ?_)
    replace hSB := hSB.trans (hbn.mono hSB.size)
    clear hK2 hbn
    generalize W1.alloc (.cells #[.int .i64 0, .bool false, .int .i64 0, .int .i64 0, .string { data := #[] }, .slice none 0 0, .slice none 0 0] 25) = W2 at *
    have hbS : Below W0.heap.size W2 (setBox W2 W1.heap.size Y yp) := setBox_below (Below.refl _ _) hT0 Y yp
    refine wpAnyH_ready (rs := [13]) (by kernel_rfl) (by simp) (AllReadyH.cons rfl (fun K3 hK3 => ?_) AllReadyH.nil)
    refine step_setbox (by rfl) _ _ (by rfl) (by rfl) (B := W1.heap.size) (v := Y) (p := yp) (by rfl) (by rfl) hT ?_
    refine hK3.out _ _ (hSS.upto hX0 hbS) (fun hSS => ?_)
    replace hSB := hSB.trans hbS
    clear hK3 hbS hT hT0
    generalize setBox W2 W1.heap.size Y yp = WT at *
    refine wpAnyH_take (i := 14) (v := ?_) rfl (by kernel_rfl) (by kernel_rfl) (by kernel_rfl) (fun _ _ _ h => h) (Or.inl ⟨by rfl, ?_⟩) hSS ?_
    rotate_left
    · intro wz hSz
      go_simp
      try with_reducible rfl
    simp only [List.getElem_toArray, List.getElem_cons_zero, List.getElem_cons_succ, Act.put, List.setIfInBounds_toArray, List.set_cons_zero, List.set_cons_succ]
    refine wpAnyH_done (by kernel_rfl) ?_ _
    have HX2 : Hid (WT.heap[w.heap.size + 2]? = some (V.null.box nilp)) := hSS.2.2.2
    have HZ : Hid ((setBox WT (w.heap.size + 2) V.null nilp).heap[w.heap.size + 2]? = some (V.null.box nilp) ∧ Below w.heap.size w (setBox WT (w.heap.size + 2) V.null nilp)) := ⟨setBox_any hSS.2.2.2 V.null nilp, setBox_below (hWB.trans (hSB.mono hWB.size)) (by omega) V.null nilp⟩
    clear hSS hSB hWB HI HLA
    have hE' : (EE == 0) = false := by simpa using hE
    go_wp2_with (refine wpList_setbox rfl _ _ rfl rfl V.null nilp (by rfl) (by rw [null_val]; rfl) HX2.out ?_; generalize setBox WT (w.heap.size + 2) V.null nilp = WZ at *)
    obtain ⟨h13, hB3⟩ := HZ.out
    obtain ⟨k0, k1, k2, k3, k4, k5, k6⟩ := box_cells h13
    exact bodyPost_ret (v := .tuple #[V.null.val nilp, .int .i64 EE]) (by simp [results, Try.results26, go_sem, k0, k1, k2, k3, k4, k5, k6, V.val]) rfl ⟨rfl, hB3⟩
  · refine step_plain (by rfl) ?_
    simp only [List.getElem_toArray, List.getElem_cons_zero, List.getElem_cons_succ]
    go_simp
    have hbn : Below V0.heap.size V0 (V0.alloc (.cells #[.int .i64 0, .bool false, .int .i64 0, .int .i64 0, .string { data := #[] }, .slice none 0 0, .slice none 0 0] 25)) := (Below.refl _ _).alloc (Nat.le_refl _) _
    have hT := heap_alloc_new V0 (.cells #[.int .i64 0, .bool false, .int .i64 0, .int .i64 0, .string { data := #[] }, .slice none 0 0, .slice none 0 0] 25)
    have hT0 : W0.heap.size ≤ V0.heap.size := hSB.size
    refine hK1.out _ _ (hSS.upto hX0 (hbn.mono hSB.size)) (fun hSS => ?_)
    replace hSB := hSB.trans (hbn.mono hSB.size)
    clear hK1 hbn
    generalize V0.alloc (.cells #[.int .i64 0, .bool false, .int .i64 0, .int .i64 0, .string { data := #[] }, .slice none 0 0, .slice none 0 0] 25) = W1 at *
    refine wpAnyH_ready (rs := [8]) (by kernel_rfl) (by simp) (AllReadyH.cons rfl (fun K2 hK2 => ?_) AllReadyH.nil)
    refine step_plain (by rfl) ?_
    simp only [List.getElem_toArray, List.getElem_cons_zero, List.getElem_cons_succ]
    go_simp
    go_at_call 26
    refine (CI.out _ hSB).mono ?_
    rintro e W2 ⟨yp, rfl, hbn⟩
    replace hT := (hbn.block _ (Array.getElem?_eq_some_iff.1 hT).1).trans hT
    go_simp
    refine hK2.out _ _ (hSS.upto hX0 (hbn.mono hSB.size)) (fun hSS => ?_)
    replace hSB := hSB.trans (hbn.mono hSB.size)
    clear hK2 hbn CI
    refine wpAnyH_take (i := 9) (v := ?_) rfl (by kernel_rfl) (by kernel_rfl) (by kernel_rfl) (fun _ _ _ h => h) (Or.inl ⟨by rfl, ?_⟩) hSS ?_
    rotate_left
    · intro wz hSz
      go_simp
      try with_reducible rfl
    simp only [List.getElem_toArray, List.getElem_cons_zero, List.getElem_cons_succ, Act.put, List.setIfInBounds_toArray, List.set_cons_zero, List.set_cons_succ]
    refine wpAnyH_take (i := 10) (v := ?_) rfl (by kernel_rfl) (by kernel_rfl) (by kernel_rfl) (fun _ _ _ h => h) (Or.inl ⟨by rfl, ?_⟩) hSS ?_
    rotate_left
    · intro wz hSz
      go_simp
      try with_reducible rfl
    simp only [List.getElem_toArray, List.getElem_cons_zero, List.getElem_cons_succ, Act.put, List.setIfInBounds_toArray, List.set_cons_zero, List.set_cons_succ]
    refine wpAnyH_take (i := 11) (v := ?_) rfl (by kernel_rfl) (by kernel_rfl) (by kernel_rfl) (fun _ _ _ h => h) (Or.inl ⟨by rfl, ?_⟩) hSS ?_
    rotate_left
    · intro wz hSz
      go_simp
      try with_reducible rfl
    simp only [List.getElem_toArray, List.getElem_cons_zero, List.getElem_cons_succ, Act.put, List.setIfInBounds_toArray, List.set_cons_zero, List.set_cons_succ]
    have hbS : Below W0.heap.size W2 (setBox W2 V0.heap.size Y yp) := setBox_below (Below.refl _ _) hT0 Y yp
    refine wpAnyH_ready (rs := [13]) (by kernel_rfl) (by simp) (AllReadyH.cons rfl (fun K3 hK3 => ?_) AllReadyH.nil)
    refine step_setbox (by rfl) _ _ (by rfl) (by rfl) (B := V0.heap.size) (v := Y) (p := yp) (by rfl) (by rfl) hT ?_
    refine hK3.out _ _ (hSS.upto hX0 hbS) (fun hSS => ?_)
    replace hSB := hSB.trans hbS
    clear hK3 hbS hT hT0
    generalize setBox W2 V0.heap.size Y yp = WT at *
    refine wpAnyH_take (i := 14) (v := ?_) rfl (by kernel_rfl) (by kernel_rfl) (by kernel_rfl) (fun _ _ _ h => h) (Or.inl ⟨by rfl, ?_⟩) hSS ?_
    rotate_left
    · intro wz hSz
      go_simp
      try with_reducible rfl
    simp only [List.getElem_toArray, List.getElem_cons_zero, List.getElem_cons_succ, Act.put, List.setIfInBounds_toArray, List.set_cons_zero, List.set_cons_succ]
    refine wpAnyH_done (by kernel_rfl) ?_ _
    have HX2 : Hid (WT.heap[w.heap.size + 2]? = some (V.null.box nilp)) := hSS.2.2.2
    have HZ : Hid ((setBox WT (w.heap.size + 2) V.null nilp).heap[w.heap.size + 2]? = some (V.null.box nilp) ∧ Below w.heap.size w (setBox WT (w.heap.size + 2) V.null nilp)) := ⟨setBox_any hSS.2.2.2 V.null nilp, setBox_below (hWB.trans (hSB.mono hWB.size)) (by omega) V.null nilp⟩
    clear hSS hSB hWB HI HLA
    have hE' : (EE == 0) = false := by simpa using hE
    go_wp2_with (refine wpList_setbox rfl _ _ rfl rfl V.null nilp (by rfl) (by rw [null_val]; rfl) HX2.out ?_; generalize setBox WT (w.heap.size + 2) V.null nilp = WZ at *)
    obtain ⟨h13, hB3⟩ := HZ.out
    obtain ⟨k0, k1, k2, k3, k4, k5, k6⟩ := box_cells h13
    exact bodyPost_ret (v := .tuple #[V.null.val nilp, .int .i64 EE]) (by simp [results, Try.results26, go_sem, k0, k1, k2, k3, k4, k5, k6, V.val]) rfl ⟨rfl, hB3⟩
end Go.Proofs.Ytigdcnoggjcddaa

