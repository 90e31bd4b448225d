/- A value with another one where steps lead, as the document tells it: With, of a Map's new key. Conditions: clean values of at most 1048576 values and letters, the Map with the new key among them. -/
import Derived.Test.YtigdcnoggjcddaaVNew
import Derived.Test.YtigdcnoggjcddaaVClean
namespace Go.Proofs.Ytigdcnoggjcddaa
open Go.RowKit Go.Maps Go.WideMaps

set_option maxRecDepth 100000 in
theorem new_kind {v : V} {s : St} (h0 : (v.follow s).2 = 8) : v.k = 7 := by
  have hb : s.byKey = true := by
    cases hb : s.byKey
    · exfalso
      unfold V.follow at h0
      rw [if_neg (by rw [hb]; simp)] at h0
      split at h0
      · split at h0 <;> cases h0
      · cases h0
    · rfl
  by_cases hk : v.k = 7
  · exact hk
  · unfold V.follow at h0
    rw [if_pos hb, if_neg hk] at h0; cases h0
set_option maxRecDepth 100000 in
set_option maxHeartbeats 12800000 in
theorem rwith_new {w0 : World} {ok : Nat → Prop} {v x : V} {p xp : VP} (hv : VIn w0 ok v p) (hx : VIn w0 ok x xp) (w : World) (hb0 : Below w0.heap.size w0 w) (hbk : v.bulk ≤ 1048576) (hcl : v.cl) (ao : Option Addr) (s : St) (c : Nat) (hl : StRow w ao [s]) (h0 : (v.follow s).2 = 8)
    (hks : s.key.size ≤ maxLen) (hbm : (V.mk 7 false 0 0 ByteArray.empty (v.l ++ [x]) (v.keys ++ [s.key])).bulk ≤ 1048576) :
    Calls Try.prog 26 #[v.val p, x.val xp, .slice ao 1 c] w fun e w' => ∃ p', e = .returned (.tuple #[(V.mk 7 false 0 0 ByteArray.empty (v.l ++ [x]) (v.keys ++ [s.key])).clean.val p', .int .i64 0]) ∧ VIn w' (fun b => w.heap.size ≤ b) (V.mk 7 false 0 0 ByteArray.empty (v.l ++ [x]) (v.keys ++ [s.key])).clean p' ∧ Below w.heap.size w w' := by
  obtain ⟨-, hl2⟩ := hl
  obtain ⟨bl, off, rfl, hcc⟩ := hl2 (by simp)
  have hc0 := hcc 0 (by simp)
  have hbl : bl < w.heap.size := World.block_lt_of_cell? _ _ hc0.1
  obtain ⟨b1, b2, b3, hbb⟩ := W3.boxes w v p x xp
  have l3 := (Array.getElem?_eq_some_iff.1 b3).1
  have hsz : (W3 w v p x xp).heap.size = w.heap.size + 3 := by unfold W3; simp
  have CP : Hid (∀ W, Below (W3 w v p x xp).heap.size (W3 w v p x xp) W → Calls Try.prog 52 #[v.val p, .agg #[.string s.key, .int .i64 s.at_]] W fun e w' => e = .returned (.tuple #[.int .i64 (v.placeK s), .int .i64 (v.follow s).2]) ∧ Below W.heap.size W w') := fun W hW => place_any hv W (hb0.trans ((hbb.trans (hW.mono hbb.size)).mono hb0.size)) hbk hcl s
  have hRB : RB w (W3 w v p x xp) v p x xp bl off s := ⟨hbl, b1, b2, by simpa using (hbb.cell (p := ⟨bl, off + 0 * 2, none⟩) hbl).trans hc0.1, by simpa using (hbb.cell (p := ⟨bl, off + 0 * 2 + 1, none⟩) hbl).trans hc0.2⟩
  have hno : (p.la = none → v.l.length = 0 ∧ p.lc = 0) ∧ (p.ka = none → v.keys.length = 0 ∧ p.kc = 0) := by
    cases hv using VIn.ind with
    | mk k b n m s l q p P hk hn hm hs hl hq hkeys hc hin ih => exact ⟨hl.1, hq.1⟩
  have hsr : SRow w0 ok p.ka v.keys := by
    cases hv using VIn.ind with
    | mk k b n m s l q p P hk hn hm hs hl hq hkeys hc hin ih => exact hkeys
  have HNK : Hid (∀ W, Below (W3 w v p x xp).heap.size (W3 w v p x xp) W → ∀ dv d5 dq d15, NK (W3 w v p x xp) ok w.heap.size p.la p.ka v.l v.keys x xp s.key false false false false [] [] W dv d5 dq d15) := fun W hW dv d5 dq d15 => by
    have hs0 := hb0.size
    have hB := hb0.trans ((hbb.trans (hW.mono hbb.size)).mono hb0.size)
    exact ⟨by omega, hW, hks, (hv.row.mono (ok' := fun b => ok b ∧ b < w.heap.size) (fun b h1 h2 => ⟨h1, by omega⟩)).below hB, (hsr.mono (ok' := fun b => ok b ∧ b < w.heap.size) (fun b h1 h2 => ⟨h1, by omega⟩)).below hB, (hx.mono (ok' := fun b => ok b ∧ b < w.heap.size) (fun b h1 h2 => ⟨h1, by omega⟩)).stays hB,
      fun e => by simp at e, fun e => by simp at e, fun e => by simp at e, fun e => by simp at e, fun e => by simp at e, fun e => by simp at e, fun e => by simp at e, fun e => by simp at e, fun e => by simp at e⟩
  have HZL : Hid (∀ W n Y yp, Below (W3 w v p x xp).heap.size (W3 w v p x xp) W → RB w W v p x xp bl off s → (W3 w v p x xp).heap.size ≤ n → VIn W (fun b => n ≤ b) Y yp → W.heap[w.heap.size + 2]? = some zbox ∧ (setBox W (w.heap.size + 2) Y yp).heap[w.heap.size + 2]? = some (Y.box yp) ∧ Below w.heap.size w (setBox W (w.heap.size + 2) Y yp) ∧ RB w (setBox W (w.heap.size + 2) Y yp) v p x xp bl off s ∧ VIn (setBox W (w.heap.size + 2) Y yp) (fun b => w.heap.size ≤ b) Y yp) := fun W n Y yp hW hR hn hr => by
    have e1 := (hW.block _ l3).trans b3
    refine ⟨e1, setBox_any e1 _ _, setBox_below (hbb.trans (hW.mono hbb.size)) (by omega) _ _, hR.set _ _, ?_⟩
    exact (hr.setBox (B := w.heap.size + 2) (fun b hb => by omega) Y yp).mono (fun b hb _ => by omega)
  have hll : v.l.length ≤ 1048576 := by
    obtain ⟨k, b, n, m, t, l, q⟩ := v
    have := len_le_bulkL l; simp only [V.bulk] at hbk; simp only; omega
  have hlq : v.keys.length ≤ 1048576 := by
    have e := (cl_map hcl (new_kind h0)).2.1
    omega
  have CCL : Hid (∀ W a c a' c', VIn W (fun _ => True) (V.mk 7 false 0 0 ByteArray.empty (v.l ++ [x]) (v.keys ++ [s.key])) ⟨a, c, a', c'⟩ → Calls Try.prog 10 #[.agg #[.int .i64 7, .bool false, .int .i64 0, .int .i64 0, .string ByteArray.empty, .slice a (v.l ++ [x]).length c, .slice a' (v.keys ++ [s.key]).length c']] W fun e w' => ∃ p', e = .returned ((V.mk 7 false 0 0 ByteArray.empty (v.l ++ [x]) (v.keys ++ [s.key])).clean.val p') ∧ VIn w' (fun b => W.heap.size ≤ b) (V.mk 7 false 0 0 ByteArray.empty (v.l ++ [x]) (v.keys ++ [s.key])).clean p' ∧ Below W.heap.size W w') := fun W a c a' c' h => clean_any h W (Below.refl _ _) hbm
  have HNO : Hid ((p.la = none → v.l.length = 0 ∧ p.lc = 0) ∧ (p.ka = none → v.keys.length = 0 ∧ p.kc = 0) ∧ v.l.length ≤ 1048576 ∧ v.keys.length ≤ 1048576) := ⟨hno.1, hno.2, hll, hlq⟩
  clear hv hx hb0 hbk hcl hl2 hcc hc0 hbl b1 b2 b3 hbb l3 hno hsr hks hbm hll hlq
  obtain ⟨CM, hCM⟩ : ∃ CM, (V.mk 7 false 0 0 ByteArray.empty (v.l ++ [x]) (v.keys ++ [s.key])).clean = CM := ⟨_, rfl⟩
  rw [hCM] at CCL ⊢
  clear hCM
  obtain ⟨LX, hLX⟩ : ∃ LX, v.l ++ [x] = LX := ⟨_, rfl⟩
  obtain ⟨QX, hQX⟩ : ∃ QX, v.keys ++ [s.key] = QX := ⟨_, rfl⟩
  rw [hLX, hQX] at CCL
  have HLX : Hid (v.l ++ [x] = LX ∧ v.keys ++ [s.key] = QX) := ⟨hLX, hQX⟩
  clear hLX hQX
  unfold V.val at CP
  show Calls Try.prog 26 #[.agg #[.int .i64 v.k, .bool v.b, .int .i64 v.n, .int .i64 v.m, .string v.s, .slice p.la v.l.length p.lc, .slice p.ka v.keys.length p.kc], .agg #[.int .i64 x.k, .bool x.b, .int .i64 x.n, .int .i64 x.m, .string x.s, .slice xp.la x.l.length xp.lc, .slice xp.ka x.keys.length xp.kc], .slice (some ⟨bl, off, none⟩) 1 c] w _
  rw [h0] at CP
  generalize v.placeK s = PK at *
  clear h0
  go_enter Try.func26, Try.ntmps26
  go_wp2_with fail
  generalize hW0 : ((w.alloc (.cells #[.int .i64 v.k, .bool v.b, .int .i64 v.n, .int .i64 v.m, .string v.s, .slice p.la v.l.length p.lc, .slice p.ka v.keys.length p.kc] 25)).alloc (.cells #[.int .i64 x.k, .bool x.b, .int .i64 x.n, .int .i64 x.m, .string x.s, .slice xp.la x.l.length xp.lc, .slice xp.ka x.keys.length xp.kc] 25)).alloc _ = W0
  have hW : W3 w v p x xp = W0 := hW0
  rw [hW] at CP hRB HNK HZL hsz
  clear hW hW0
  have hX0 : w.heap.size + 3 ≤ W0.heap.size := by omega
  have hSB : Below W0.heap.size W0 W0.drew := (Below.refl _ _).drew
  refine wp_region_held_drew (S := fun W => RB w W v p x xp bl off s) (by kernel_rfl) hRB.drew (fun hSS => ?_)
  refine wpAnyH_take (i := 0) (v := ?_) rfl (by kernel_rfl) (by kernel_rfl) (by kernel_rfl) (fun _ _ _ h => h) (Or.inl ⟨by rfl, ?_⟩) hSS ?_
  rotate_left
  · intro wz hSz
    obtain ⟨⟨k0, k1, k2, k3, k4, k5, k6⟩, ⟨j0, j1, j2, j3, j4, j5, j6⟩, p0, p1⟩ := hSz.cells
    go_simp
    try with_reducible rfl
  simp only [List.getElem_toArray, List.getElem_cons_zero, Act.put, List.setIfInBounds_toArray, List.set_cons_zero, List.set_cons_succ]
  refine wpAnyH_take (i := 1) (v := ?_) rfl (by kernel_rfl) (by kernel_rfl) (by kernel_rfl) (fun _ _ _ h => h) (Or.inl ⟨by rfl, ?_⟩) hSS ?_
  rotate_left
  · intro wz hSz
    go_simp
    try with_reducible rfl
  simp only [List.getElem_toArray, List.getElem_cons_zero, List.getElem_cons_succ, Act.put, List.setIfInBounds_toArray, List.set_cons_zero, List.set_cons_succ]
  refine wpAnyH_take (i := 2) (v := ?_) rfl (by kernel_rfl) (by kernel_rfl) (by kernel_rfl) (fun _ _ _ h => h) (Or.inl ⟨by rfl, ?_⟩) hSS ?_
  rotate_left
  · intro wz hSz
    go_simp
    try with_reducible rfl
  simp only [List.getElem_toArray, List.getElem_cons_zero, List.getElem_cons_succ, Act.put, List.setIfInBounds_toArray, List.set_cons_zero, List.set_cons_succ]
  refine wpAnyH_take (i := 3) (v := ?_) rfl (by kernel_rfl) (by kernel_rfl) (by kernel_rfl) (fun _ _ _ h => h) (Or.inl ⟨by rfl, ?_⟩) hSS ?_
  rotate_left
  · intro wz hSz
    obtain ⟨⟨k0, k1, k2, k3, k4, k5, k6⟩, ⟨j0, j1, j2, j3, j4, j5, j6⟩, p0, p1⟩ := hSz.cells
    go_simp
    try with_reducible rfl
  simp only [List.getElem_toArray, List.getElem_cons_zero, List.getElem_cons_succ, Act.put, List.setIfInBounds_toArray, List.set_cons_zero, List.set_cons_succ]
  refine wpAnyH_ready (rs := [4]) (by kernel_rfl) (by simp) (AllReadyH.cons rfl (fun K4 hK4 => ?_) AllReadyH.nil)
  refine step_plain (by rfl) ?_
  simp only [List.getElem_toArray, List.getElem_cons_zero, List.getElem_cons_succ]
  go_simp
  go_at_call 52
  refine (CP.out _ hSB).mono ?_
  rintro e w1 ⟨rfl, hb1⟩
  go_simp
  refine hK4.out _ _ (hSS.upto hX0 (hb1.mono hSB.size)) (fun hSS => ?_)
  replace hSB := hSB.trans (hb1.mono hSB.size)
  clear hK4 hb1 CP hRB
  refine wpAnyH_take (i := 5) (v := ?_) rfl (by kernel_rfl) (by kernel_rfl) (by kernel_rfl) (fun _ _ _ h => h) (Or.inl ⟨by rfl, ?_⟩) hSS ?_
  rotate_left
  · intro wz hSz
    go_simp
    try with_reducible rfl
  simp only [List.getElem_toArray, List.getElem_cons_zero, List.getElem_cons_succ, Act.put, List.setIfInBounds_toArray, List.set_cons_zero, List.set_cons_succ]
  refine wpAnyH_take (i := 6) (v := ?_) rfl (by kernel_rfl) (by kernel_rfl) (by kernel_rfl) (fun _ _ _ h => h) (Or.inl ⟨by rfl, ?_⟩) hSS ?_
  rotate_left
  · intro wz hSz
    go_simp
    try with_reducible rfl
  simp only [List.getElem_toArray, List.getElem_cons_zero, List.getElem_cons_succ, Act.put, List.setIfInBounds_toArray, List.set_cons_zero, List.set_cons_succ]
  refine wpAnyH_take (i := 7) (v := ?_) rfl (by kernel_rfl) (by kernel_rfl) (by kernel_rfl) (fun _ _ _ h => h) (Or.inl ⟨by rfl, ?_⟩) hSS ?_
  rotate_left
  · intro wz hSz
    go_simp
    try with_reducible rfl
  simp only [List.getElem_toArray, List.getElem_cons_zero, List.getElem_cons_succ, Act.put, List.setIfInBounds_toArray, List.set_cons_zero, List.set_cons_succ]
  refine wpAnyH_take (i := 8) (v := ?_) rfl (by kernel_rfl) (by kernel_rfl) (by kernel_rfl) (fun _ _ _ h => h) (Or.inl ⟨by rfl, ?_⟩) hSS ?_
  rotate_left
  · intro wz hSz
    go_simp
    try with_reducible rfl
  simp only [List.getElem_toArray, List.getElem_cons_zero, List.getElem_cons_succ, Act.put, List.setIfInBounds_toArray, List.set_cons_zero, List.set_cons_succ]
  refine wpAnyH_take (i := 9) (v := ?_) rfl (by kernel_rfl) (by kernel_rfl) (by kernel_rfl) (fun _ _ _ h => h) (Or.inl ⟨by rfl, ?_⟩) hSS ?_
  rotate_left
  · intro wz hSz
    go_simp
    try with_reducible rfl
  simp only [List.getElem_toArray, List.getElem_cons_zero, List.getElem_cons_succ, Act.put, List.setIfInBounds_toArray, List.set_cons_zero, List.set_cons_succ]
  refine wpAnyH_done (by kernel_rfl) ?_ _
  go_wp2_with fail
  refine wp_region_held_drew (S := fun W => RB w W v p x xp bl off s) (by kernel_rfl) hSS.drew (fun hSS => ?_)
  refine wpAnyH_take (i := 0) (v := ?_) rfl (by kernel_rfl) (by kernel_rfl) (by kernel_rfl) (fun _ _ _ h => h) (Or.inl ⟨by rfl, ?_⟩) hSS ?_
  rotate_left
  · intro wz hSz
    go_simp
    try with_reducible rfl
  simp only [List.getElem_toArray, List.getElem_cons_zero, Act.put, List.setIfInBounds_toArray, List.set_cons_zero, List.set_cons_succ]
  refine wpAnyH_take (i := 1) (v := ?_) rfl (by kernel_rfl) (by kernel_rfl) (by kernel_rfl) (fun _ _ _ h => h) (Or.inl ⟨by rfl, ?_⟩) hSS ?_
  rotate_left
  · intro wz hSz
    go_simp
    try with_reducible rfl
  simp only [List.getElem_toArray, List.getElem_cons_zero, List.getElem_cons_succ, Act.put, List.setIfInBounds_toArray, List.set_cons_zero, List.set_cons_succ]
  refine wpAnyH_take (i := 2) (v := .bool false) rfl (by kernel_rfl) (by kernel_rfl) (by kernel_rfl) (fun _ _ _ h => h) (Or.inl ⟨by rfl, ?_⟩) hSS ?_
  · intro wz hSz
    go_simp
  simp only [List.getElem_toArray, List.getElem_cons_zero, List.getElem_cons_succ, Act.put, List.setIfInBounds_toArray, List.set_cons_zero, List.set_cons_succ]
  refine wpAnyH_take (i := 3) (v := ?_) rfl (by kernel_rfl) (by kernel_rfl) (by kernel_rfl) (fun _ _ _ h => h) (Or.inl ⟨by rfl, ?_⟩) hSS ?_
  rotate_left
  · intro wz hSz
    go_simp
    try with_reducible rfl
  simp only [List.getElem_toArray, List.getElem_cons_zero, List.getElem_cons_succ, Act.put, List.setIfInBounds_toArray, List.set_cons_zero, List.set_cons_succ]
  refine wpAnyH_take (i := 4) (v := ?_) rfl (by kernel_rfl) (by kernel_rfl) (by kernel_rfl) (fun _ _ _ h => h) (Or.inl ⟨by rfl, ?_⟩) hSS ?_
  rotate_left
  · intro wz hSz
    go_simp
    try with_reducible rfl
  simp only [List.getElem_toArray, List.getElem_cons_zero, List.getElem_cons_succ, Act.put, List.setIfInBounds_toArray, List.set_cons_zero, List.set_cons_succ]
  refine wpAnyH_take (i := 5) (v := .bool false) rfl (by kernel_rfl) (by kernel_rfl) (by kernel_rfl) (fun _ _ _ h => h) (Or.inl ⟨by rfl, ?_⟩) hSS ?_
  · intro wz hSz
    go_simp
  simp only [List.getElem_toArray, List.getElem_cons_zero, List.getElem_cons_succ, Act.put, List.setIfInBounds_toArray, List.set_cons_zero, List.set_cons_succ]
  refine wpAnyH_take (i := 6) (v := ?_) rfl (by kernel_rfl) (by kernel_rfl) (by kernel_rfl) (fun _ _ _ h => h) (Or.inl ⟨by rfl, ?_⟩) hSS ?_
  rotate_left
  · intro wz hSz
    go_simp
    try with_reducible rfl
  simp only [List.getElem_toArray, List.getElem_cons_zero, List.getElem_cons_succ, Act.put, List.setIfInBounds_toArray, List.set_cons_zero, List.set_cons_succ]
  refine wpAnyH_take (i := 7) (v := undef) rfl (by kernel_rfl) (by kernel_rfl) (by kernel_rfl) (fun _ _ _ h => h) (Or.inr ⟨by rfl, rfl⟩) hSS ?_
  simp only [List.getElem_toArray, List.getElem_cons_zero, List.getElem_cons_succ, Act.put, List.setIfInBounds_toArray, List.set_cons_zero, List.set_cons_succ]
  refine wpAnyH_take (i := 8) (v := undef) rfl (by kernel_rfl) (by kernel_rfl) (by kernel_rfl) (fun _ _ _ h => h) (Or.inr ⟨by rfl, rfl⟩) hSS ?_
  simp only [List.getElem_toArray, List.getElem_cons_zero, List.getElem_cons_succ, Act.put, List.setIfInBounds_toArray, List.set_cons_zero, List.set_cons_succ]
  refine wpAnyH_take (i := 9) (v := undef) rfl (by kernel_rfl) (by kernel_rfl) (by kernel_rfl) (fun _ _ _ h => h) (Or.inr ⟨by rfl, rfl⟩) hSS ?_
  simp only [List.getElem_toArray, List.getElem_cons_zero, List.getElem_cons_succ, Act.put, List.setIfInBounds_toArray, List.set_cons_zero, List.set_cons_succ]
  refine wpAnyH_take (i := 10) (v := undef) rfl (by kernel_rfl) (by kernel_rfl) (by kernel_rfl) (fun _ _ _ h => h) (Or.inr ⟨by rfl, rfl⟩) hSS ?_
  simp only [List.getElem_toArray, List.getElem_cons_zero, List.getElem_cons_succ, Act.put, List.setIfInBounds_toArray, List.set_cons_zero, List.set_cons_succ]
  refine wpAnyH_take (i := 11) (v := undef) rfl (by kernel_rfl) (by kernel_rfl) (by kernel_rfl) (fun _ _ _ h => h) (Or.inr ⟨by rfl, rfl⟩) hSS ?_
  simp only [List.getElem_toArray, List.getElem_cons_zero, List.getElem_cons_succ, Act.put, List.setIfInBounds_toArray, List.set_cons_zero, List.set_cons_succ]
  refine wpAnyH_take (i := 12) (v := undef) rfl (by kernel_rfl) (by kernel_rfl) (by kernel_rfl) (fun _ _ _ h => h) (Or.inr ⟨by rfl, rfl⟩) hSS ?_
  simp only [List.getElem_toArray, List.getElem_cons_zero, List.getElem_cons_succ, Act.put, List.setIfInBounds_toArray, List.set_cons_zero, List.set_cons_succ]
  refine wpAnyH_take (i := 13) (v := undef) rfl (by kernel_rfl) (by kernel_rfl) (by kernel_rfl) (fun _ _ _ h => h) (Or.inr ⟨by rfl, rfl⟩) hSS ?_
  simp only [List.getElem_toArray, List.getElem_cons_zero, List.getElem_cons_succ, Act.put, List.setIfInBounds_toArray, List.set_cons_zero, List.set_cons_succ]
  refine wpAnyH_take (i := 14) (v := undef) rfl (by kernel_rfl) (by kernel_rfl) (by kernel_rfl) (fun _ _ _ h => h) (Or.inr ⟨by rfl, rfl⟩) hSS ?_
  simp only [List.getElem_toArray, List.getElem_cons_zero, List.getElem_cons_succ, Act.put, List.setIfInBounds_toArray, List.set_cons_zero, List.set_cons_succ]
  refine wpAnyH_take (i := 15) (v := undef) rfl (by kernel_rfl) (by kernel_rfl) (by kernel_rfl) (fun _ _ _ h => h) (Or.inr ⟨by rfl, rfl⟩) hSS ?_
  simp only [List.getElem_toArray, List.getElem_cons_zero, List.getElem_cons_succ, Act.put, List.setIfInBounds_toArray, List.set_cons_zero, List.set_cons_succ]
  refine wpAnyH_take (i := 16) (v := undef) rfl (by kernel_rfl) (by kernel_rfl) (by kernel_rfl) (fun _ _ _ h => h) (Or.inr ⟨by rfl, rfl⟩) hSS ?_
  simp only [List.getElem_toArray, List.getElem_cons_zero, List.getElem_cons_succ, Act.put, List.setIfInBounds_toArray, List.set_cons_zero, List.set_cons_succ]
  refine wpAnyH_take (i := 17) (v := undef) rfl (by kernel_rfl) (by kernel_rfl) (by kernel_rfl) (fun _ _ _ h => h) (Or.inr ⟨by rfl, rfl⟩) hSS ?_
  simp only [List.getElem_toArray, List.getElem_cons_zero, List.getElem_cons_succ, Act.put, List.setIfInBounds_toArray, List.set_cons_zero, List.set_cons_succ]
  refine wpAnyH_take (i := 18) (v := undef) rfl (by kernel_rfl) (by kernel_rfl) (by kernel_rfl) (fun _ _ _ h => h) (Or.inr ⟨by rfl, rfl⟩) hSS ?_
  simp only [List.getElem_toArray, List.getElem_cons_zero, List.getElem_cons_succ, Act.put, List.setIfInBounds_toArray, List.set_cons_zero, List.set_cons_succ]
  refine wpAnyH_take (i := 19) (v := undef) rfl (by kernel_rfl) (by kernel_rfl) (by kernel_rfl) (fun _ _ _ h => h) (Or.inr ⟨by rfl, rfl⟩) hSS ?_
  simp only [List.getElem_toArray, List.getElem_cons_zero, List.getElem_cons_succ, Act.put, List.setIfInBounds_toArray, List.set_cons_zero, List.set_cons_succ]
  refine wpAnyH_take (i := 20) (v := .bool false) rfl (by kernel_rfl) (by kernel_rfl) (by kernel_rfl) (fun _ _ _ h => h) (Or.inl ⟨by rfl, ?_⟩) hSS ?_
  · intro wz hSz
    go_simp
  simp only [List.getElem_toArray, List.getElem_cons_zero, List.getElem_cons_succ, Act.put, List.setIfInBounds_toArray, List.set_cons_zero, List.set_cons_succ]
  refine wpAnyH_take (i := 21) (v := .bool false) rfl (by kernel_rfl) (by kernel_rfl) (by kernel_rfl) (fun _ _ _ h => h) (Or.inl ⟨by rfl, ?_⟩) hSS ?_
  · intro wz hSz
    go_simp
  simp only [List.getElem_toArray, List.getElem_cons_zero, List.getElem_cons_succ, Act.put, List.setIfInBounds_toArray, List.set_cons_zero, List.set_cons_succ]
  refine wpAnyH_done (by kernel_rfl) ?_ _
  replace hSB := hSB.drew
  go_wp2_with fail
  refine wp_region_held_drew (S := fun W => RB w W v p x xp bl off s) (by kernel_rfl) hSS.drew (fun hSS => ?_)
  replace hSB := hSB.drew
  refine wpAnyH_take (i := 1) (v := ?_) rfl (by kernel_rfl) (by kernel_rfl) (by kernel_rfl) (fun _ _ _ h => h) (Or.inl ⟨by rfl, ?_⟩) hSS ?_
  rotate_left
  · intro wz hSz
    go_simp
    try with_reducible rfl
  simp only [List.getElem_toArray, List.getElem_cons_zero, List.getElem_cons_succ, Act.put, List.setIfInBounds_toArray, List.set_cons_zero, List.set_cons_succ]
  refine wpAnyH_take (i := 2) (v := ?_) rfl (by kernel_rfl) (by kernel_rfl) (by kernel_rfl) (fun _ _ _ h => h) (Or.inl ⟨by rfl, ?_⟩) hSS ?_
  rotate_left
  · intro wz hSz
    obtain ⟨⟨k0, k1, k2, k3, k4, k5, k6⟩, ⟨j0, j1, j2, j3, j4, j5, j6⟩, p0, p1⟩ := hSz.cells
    go_simp
    try with_reducible rfl
  simp only [List.getElem_toArray, List.getElem_cons_zero, List.getElem_cons_succ, Act.put, List.setIfInBounds_toArray, List.set_cons_zero, List.set_cons_succ]
  refine wpAnyH_take (i := 4) (v := ?_) rfl (by kernel_rfl) (by kernel_rfl) (by kernel_rfl) (fun _ _ _ h => h) (Or.inl ⟨by rfl, ?_⟩) hSS ?_
  rotate_left
  · intro wz hSz
    obtain ⟨⟨k0, k1, k2, k3, k4, k5, k6⟩, ⟨j0, j1, j2, j3, j4, j5, j6⟩, p0, p1⟩ := hSz.cells
    go_simp
    try with_reducible rfl
  simp only [List.getElem_toArray, List.getElem_cons_zero, List.getElem_cons_succ, Act.put, List.setIfInBounds_toArray, List.set_cons_zero, List.set_cons_succ]
  refine wpAnyH_take (i := 8) (v := ?_) rfl (by kernel_rfl) (by kernel_rfl) (by kernel_rfl) (fun _ _ _ h => h) (Or.inl ⟨by rfl, ?_⟩) hSS ?_
  rotate_left
  · intro wz hSz
    go_simp
    try with_reducible rfl
  simp only [List.getElem_toArray, List.getElem_cons_zero, List.getElem_cons_succ, Act.put, List.setIfInBounds_toArray, List.set_cons_zero, List.set_cons_succ]
  refine wpAnyH_take (i := 9) (v := ?_) rfl (by kernel_rfl) (by kernel_rfl) (by kernel_rfl) (fun _ _ _ h => h) (Or.inl ⟨by rfl, ?_⟩) hSS ?_
  rotate_left
  · intro wz hSz
    obtain ⟨⟨k0, k1, k2, k3, k4, k5, k6⟩, ⟨j0, j1, j2, j3, j4, j5, j6⟩, p0, p1⟩ := hSz.cells
    go_simp
    try with_reducible rfl
  simp only [List.getElem_toArray, List.getElem_cons_zero, List.getElem_cons_succ, Act.put, List.setIfInBounds_toArray, List.set_cons_zero, List.set_cons_succ]
  refine wpAnyH_take (i := 11) (v := ?_) rfl (by kernel_rfl) (by kernel_rfl) (by kernel_rfl) (fun _ _ _ h => h) (Or.inl ⟨by rfl, ?_⟩) hSS ?_
  rotate_left
  · intro wz hSz
    go_simp
    try with_reducible rfl
  simp only [List.getElem_toArray, List.getElem_cons_zero, List.getElem_cons_succ, Act.put, List.setIfInBounds_toArray, List.set_cons_zero, List.set_cons_succ]
  refine wpAnyH_take (i := 12) (v := ?_) rfl (by kernel_rfl) (by kernel_rfl) (by kernel_rfl) (fun _ _ _ h => h) (Or.inl ⟨by rfl, ?_⟩) hSS ?_
  rotate_left
  · intro wz hSz
    go_simp
    try with_reducible rfl
  simp only [List.getElem_toArray, List.getElem_cons_zero, List.getElem_cons_succ, Act.put, List.setIfInBounds_toArray, List.set_cons_zero, List.set_cons_succ]
  refine wpAnyH_take (i := 13) (v := ?_) rfl (by kernel_rfl) (by kernel_rfl) (by kernel_rfl) (fun _ _ _ h => h) (Or.inl ⟨by rfl, ?_⟩) hSS ?_
  rotate_left
  · intro wz hSz
    go_simp
    try with_reducible rfl
  simp only [List.getElem_toArray, List.getElem_cons_zero, List.getElem_cons_succ, Act.put, List.setIfInBounds_toArray, List.set_cons_zero, List.set_cons_succ]
  refine wpAnyH_take (i := 14) (v := ?_) rfl (by kernel_rfl) (by kernel_rfl) (by kernel_rfl) (fun _ _ _ h => h) (Or.inl ⟨by rfl, ?_⟩) hSS ?_
  rotate_left
  · intro wz hSz
    obtain ⟨⟨k0, k1, k2, k3, k4, k5, k6⟩, ⟨j0, j1, j2, j3, j4, j5, j6⟩, p0, p1⟩ := hSz.cells
    go_simp
    try with_reducible rfl
  simp only [List.getElem_toArray, List.getElem_cons_zero, List.getElem_cons_succ, Act.put, List.setIfInBounds_toArray, List.set_cons_zero, List.set_cons_succ]
  generalize w1.drew.drew = V0 at *
  apply share (INV := (fun W u0 u3 u6 b5 q7 q10 q16 b15 => RB w W v p x xp bl off s ∧ NK W0 ok w.heap.size p.la p.ka v.l v.keys x xp s.key true true true true LX QX W u6 b5 q16 b15))
  case' main => intro K_0_3_5_6_7_10_15_16
  apply share (INV := (fun W u0 u3 u6 b5 q7 q10 q16 b15 => RB w W v p x xp bl off s ∧ NK W0 ok w.heap.size p.la p.ka v.l v.keys x xp s.key true true true true LX v.keys W u6 b5 q10 b15))
  case' main => intro K_0_3_5_6_7_10_15
  apply share (INV := (fun W u0 u3 u6 b5 q7 q10 q16 b15 => RB w W v p x xp bl off s ∧ NK W0 ok w.heap.size p.la p.ka v.l v.keys x xp s.key true true true true LX [] W u6 b5 q7 b15))
  case' main => intro K_0_3_5_6_7_15
  apply share (INV := (fun W u0 u3 u6 b5 q7 q10 q16 b15 => RB w W v p x xp bl off s ∧ NK W0 ok w.heap.size p.la p.ka v.l v.keys x xp s.key true true true false LX v.keys W u6 b5 q10 b15))
  case' main => intro K_0_3_5_6_7_10
  apply share (INV := (fun W u0 u3 u6 b5 q7 q10 q16 b15 => RB w W v p x xp bl off s ∧ NK W0 ok w.heap.size p.la p.ka v.l v.keys x xp s.key true true true true v.l [] W u3 b5 q7 b15))
  case' main => intro K_0_3_5_7_15
  apply share (INV := (fun W u0 u3 u6 b5 q7 q10 q16 b15 => RB w W v p x xp bl off s ∧ NK W0 ok w.heap.size p.la p.ka v.l v.keys x xp s.key true true false true LX [] W u6 b5 q7 b15))
  case' main => intro K_0_3_5_6_15
  apply share (INV := (fun W u0 u3 u6 b5 q7 q10 q16 b15 => RB w W v p x xp bl off s ∧ NK W0 ok w.heap.size p.la p.ka v.l v.keys x xp s.key true true true false LX [] W u6 b5 q7 b15))
  case' main => intro K_0_3_5_6_7
  apply share (INV := (fun W u0 u3 u6 b5 q7 q10 q16 b15 => RB w W v p x xp bl off s ∧ NK W0 ok w.heap.size p.la p.ka v.l v.keys x xp s.key true true true true [] [] W u0 b5 q7 b15))
  case' main => intro K_0_5_7_15
  apply share (INV := (fun W u0 u3 u6 b5 q7 q10 q16 b15 => RB w W v p x xp bl off s ∧ NK W0 ok w.heap.size p.la p.ka v.l v.keys x xp s.key true false true true v.l [] W u3 b5 q7 b15))
  case' main => intro K_0_3_7_15
  apply share (INV := (fun W u0 u3 u6 b5 q7 q10 q16 b15 => RB w W v p x xp bl off s ∧ NK W0 ok w.heap.size p.la p.ka v.l v.keys x xp s.key true true false true v.l [] W u3 b5 q7 b15))
  case' main => intro K_0_3_5_15
  apply share (INV := (fun W u0 u3 u6 b5 q7 q10 q16 b15 => RB w W v p x xp bl off s ∧ NK W0 ok w.heap.size p.la p.ka v.l v.keys x xp s.key true true true false v.l [] W u3 b5 q7 b15))
  case' main => intro K_0_3_5_7
  apply share (INV := (fun W u0 u3 u6 b5 q7 q10 q16 b15 => RB w W v p x xp bl off s ∧ NK W0 ok w.heap.size p.la p.ka v.l v.keys x xp s.key true true false false LX [] W u6 b5 q7 b15))
  case' main => intro K_0_3_5_6
  apply share (INV := (fun W u0 u3 u6 b5 q7 q10 q16 b15 => RB w W v p x xp bl off s ∧ NK W0 ok w.heap.size p.la p.ka v.l v.keys x xp s.key false true true true [] [] W u0 b5 q7 b15))
  case' main => intro K_5_7_15
  apply share (INV := (fun W u0 u3 u6 b5 q7 q10 q16 b15 => RB w W v p x xp bl off s ∧ NK W0 ok w.heap.size p.la p.ka v.l v.keys x xp s.key true false true true [] [] W u0 b5 q7 b15))
  case' main => intro K_0_7_15
  apply share (INV := (fun W u0 u3 u6 b5 q7 q10 q16 b15 => RB w W v p x xp bl off s ∧ NK W0 ok w.heap.size p.la p.ka v.l v.keys x xp s.key true true false true [] [] W u0 b5 q7 b15))
  case' main => intro K_0_5_15
  apply share (INV := (fun W u0 u3 u6 b5 q7 q10 q16 b15 => RB w W v p x xp bl off s ∧ NK W0 ok w.heap.size p.la p.ka v.l v.keys x xp s.key true true true false [] [] W u0 b5 q7 b15))
  case' main => intro K_0_5_7
  apply share (INV := (fun W u0 u3 u6 b5 q7 q10 q16 b15 => RB w W v p x xp bl off s ∧ NK W0 ok w.heap.size p.la p.ka v.l v.keys x xp s.key true false false true v.l [] W u3 b5 q7 b15))
  case' main => intro K_0_3_15
  apply share (INV := (fun W u0 u3 u6 b5 q7 q10 q16 b15 => RB w W v p x xp bl off s ∧ NK W0 ok w.heap.size p.la p.ka v.l v.keys x xp s.key true false true false v.l [] W u3 b5 q7 b15))
  case' main => intro K_0_3_7
  apply share (INV := (fun W u0 u3 u6 b5 q7 q10 q16 b15 => RB w W v p x xp bl off s ∧ NK W0 ok w.heap.size p.la p.ka v.l v.keys x xp s.key true true false false v.l [] W u3 b5 q7 b15))
  case' main => intro K_0_3_5
  apply share (INV := (fun W u0 u3 u6 b5 q7 q10 q16 b15 => RB w W v p x xp bl off s ∧ NK W0 ok w.heap.size p.la p.ka v.l v.keys x xp s.key false false true true [] [] W u0 b5 q7 b15))
  case' main => intro K_7_15
  apply share (INV := (fun W u0 u3 u6 b5 q7 q10 q16 b15 => RB w W v p x xp bl off s ∧ NK W0 ok w.heap.size p.la p.ka v.l v.keys x xp s.key false true false true [] [] W u0 b5 q7 b15))
  case' main => intro K_5_15
  apply share (INV := (fun W u0 u3 u6 b5 q7 q10 q16 b15 => RB w W v p x xp bl off s ∧ NK W0 ok w.heap.size p.la p.ka v.l v.keys x xp s.key false true true false [] [] W u0 b5 q7 b15))
  case' main => intro K_5_7
  apply share (INV := (fun W u0 u3 u6 b5 q7 q10 q16 b15 => RB w W v p x xp bl off s ∧ NK W0 ok w.heap.size p.la p.ka v.l v.keys x xp s.key true false false true [] [] W u0 b5 q7 b15))
  case' main => intro K_0_15
  apply share (INV := (fun W u0 u3 u6 b5 q7 q10 q16 b15 => RB w W v p x xp bl off s ∧ NK W0 ok w.heap.size p.la p.ka v.l v.keys x xp s.key true false true false [] [] W u0 b5 q7 b15))
  case' main => intro K_0_7
  apply share (INV := (fun W u0 u3 u6 b5 q7 q10 q16 b15 => RB w W v p x xp bl off s ∧ NK W0 ok w.heap.size p.la p.ka v.l v.keys x xp s.key true true false false [] [] W u0 b5 q7 b15))
  case' main => intro K_0_5
  apply share (INV := (fun W u0 u3 u6 b5 q7 q10 q16 b15 => RB w W v p x xp bl off s ∧ NK W0 ok w.heap.size p.la p.ka v.l v.keys x xp s.key true false false false v.l [] W u3 b5 q7 b15))
  case' main => intro K_0_3
  apply share (INV := (fun W u0 u3 u6 b5 q7 q10 q16 b15 => RB w W v p x xp bl off s ∧ NK W0 ok w.heap.size p.la p.ka v.l v.keys x xp s.key false false false true [] [] W u0 b5 q7 b15))
  case' main => intro K_15
  apply share (INV := (fun W u0 u3 u6 b5 q7 q10 q16 b15 => RB w W v p x xp bl off s ∧ NK W0 ok w.heap.size p.la p.ka v.l v.keys x xp s.key false false true false [] [] W u0 b5 q7 b15))
  case' main => intro K_7
  apply share (INV := (fun W u0 u3 u6 b5 q7 q10 q16 b15 => RB w W v p x xp bl off s ∧ NK W0 ok w.heap.size p.la p.ka v.l v.keys x xp s.key false true false false [] [] W u0 b5 q7 b15))
  case' main => intro K_5
  apply share (INV := (fun W u0 u3 u6 b5 q7 q10 q16 b15 => RB w W v p x xp bl off s ∧ NK W0 ok w.heap.size p.la p.ka v.l v.keys x xp s.key true false false false [] [] W u0 b5 q7 b15))
  case' main => intro K_0
  obtain ⟨u0, -⟩ : ∃ x : Value, x = .bool true := ⟨_, rfl⟩
  obtain ⟨u3, -⟩ : ∃ x : Value, x = .bool true := ⟨_, rfl⟩
  obtain ⟨u6, -⟩ : ∃ x : Value, x = .bool true := ⟨_, rfl⟩
  obtain ⟨b5, -⟩ : ∃ x : Nat, x = 0 := ⟨_, rfl⟩
  obtain ⟨q7, -⟩ : ∃ x : Value, x = .bool true := ⟨_, rfl⟩
  obtain ⟨q10, -⟩ : ∃ x : Value, x = .bool true := ⟨_, rfl⟩
  obtain ⟨q16, -⟩ : ∃ x : Value, x = .bool true := ⟨_, rfl⟩
  obtain ⟨b15, -⟩ : ∃ x : Nat, x = 0 := ⟨_, rfl⟩
  have hN := HNK.out V0 hSB u0 b5 q7 b15
  refine wpAnyH_ready (rs := [0, 5, 7, 15]) (by kernel_rfl) (by simp) (AllReadyH.cons rfl (fun K1 hK1 => ?_) (AllReadyH.cons rfl (fun K1 hK1 => ?_) (AllReadyH.cons rfl (fun K1 hK1 => ?_) (AllReadyH.cons rfl (fun K1 hK1 => ?_) AllReadyH.nil))))
  · refine step_plain (by rfl) ?_
    simp only [List.getElem_toArray, List.getElem_cons_zero]
    go_simp
    have hN2 := hN.a0
    refine hK1.out _ _ (hSS.upto hX0 ((Below.refl _ _).alloc hN.size _)) (fun hSS2 => ?_)
    clear hK1
    generalize V0.alloc (.cells #[] 25) = W2 at *
    generalize hsvN : (Value.slice (some ⟨V0.heap.size, 0, none⟩) 0 0) = svN at *
    clear hsvN
    exact K_0 _ svN u3 u6 b5 q7 q10 q16 b15 ⟨hSS2, hN2⟩
  · refine step_plain (by rfl) ?_
    simp only [List.getElem_toArray, List.getElem_cons_zero, List.getElem_cons_succ]
    go_simp
    have hN2 := hN.a5
    refine hK1.out _ _ (hSS.upto hX0 ((Below.refl _ _).alloc hN.size _)) (fun hSS2 => ?_)
    clear hK1
    generalize V0.alloc (.cells #[.int .i64 x.k, .bool x.b, .int .i64 x.n, .int .i64 x.m, .string x.s, .slice xp.la x.l.length xp.lc, .slice xp.ka x.keys.length xp.kc] 25) = W2 at *
    generalize V0.heap.size = B at *
    exact K_5 _ u0 u3 u6 B q7 q10 q16 b15 ⟨hSS2, hN2⟩
  · refine step_plain (by rfl) ?_
    simp only [List.getElem_toArray, List.getElem_cons_zero, List.getElem_cons_succ]
    go_simp
    have hN2 := hN.a7
    refine hK1.out _ _ (hSS.upto hX0 ((Below.refl _ _).alloc hN.size _)) (fun hSS2 => ?_)
    clear hK1
    generalize V0.alloc (.cells #[] 9) = W2 at *
    generalize hsvN : (Value.slice (some ⟨V0.heap.size, 0, none⟩) 0 0) = svN at *
    clear hsvN
    exact K_7 _ u0 u3 u6 b5 svN q10 q16 b15 ⟨hSS2, hN2⟩
  · refine step_plain (by rfl) ?_
    simp only [List.getElem_toArray, List.getElem_cons_zero, List.getElem_cons_succ]
    go_simp
    have hN2 := hN.a15
    refine hK1.out _ _ (hSS.upto hX0 ((Below.refl _ _).alloc hN.size _)) (fun hSS2 => ?_)
    clear hK1
    generalize V0.alloc (.cells #[.string s.key] 9) = W2 at *
    generalize V0.heap.size = B at *
    exact K_15 _ u0 u3 u6 b5 q7 q10 q16 B ⟨hSS2, hN2⟩
  case key =>
    intro W u0 u3 u6 b5 q7 q10 q16 b15 hI
    obtain ⟨hSS, hN⟩ := hI
    refine wpAnyH_ready (rs := [3, 5, 7, 15]) (by kernel_rfl) (by simp) (AllReadyH.cons rfl (fun K1 hK1 => ?_) (AllReadyH.cons rfl (fun K1 hK1 => ?_) (AllReadyH.cons rfl (fun K1 hK1 => ?_) (AllReadyH.cons rfl (fun K1 hK1 => ?_) AllReadyH.nil))))
    · obtain ⟨sN, W2, hrun, hN2, hbn⟩ := hN.p3 HNO.out.1 HNO.out.2.2.1 _
      refine step_append_any (by rfl) _ _ _ (by rfl) _ _ (by rfl) (by rfl) hrun ?_
      refine hK1.out _ _ (hSS.upto hX0 (hbn.mono (Nat.le_refl _))) (fun hSS2 => ?_)
      clear hK1 hN hrun hbn
      exact K_0_3 _ u0 sN u6 b5 q7 q10 q16 b15 ⟨hSS2, hN2⟩
    · refine step_plain (by rfl) ?_
      simp only [List.getElem_toArray, List.getElem_cons_zero, List.getElem_cons_succ]
      go_simp
      have hN2 := hN.a5
      refine hK1.out _ _ (hSS.upto hX0 ((Below.refl _ _).alloc hN.size _)) (fun hSS2 => ?_)
      clear hK1 hN
      generalize W.alloc (.cells #[.int .i64 x.k, .bool x.b, .int .i64 x.n, .int .i64 x.m, .string x.s, .slice xp.la x.l.length xp.lc, .slice xp.ka x.keys.length xp.kc] 25) = W2 at *
      generalize W.heap.size = B at *
      exact K_0_5 _ u0 u3 u6 B q7 q10 q16 b15 ⟨hSS2, hN2⟩
    · refine step_plain (by rfl) ?_
      simp only [List.getElem_toArray, List.getElem_cons_zero, List.getElem_cons_succ]
      go_simp
      have hN2 := hN.a7
      refine hK1.out _ _ (hSS.upto hX0 ((Below.refl _ _).alloc hN.size _)) (fun hSS2 => ?_)
      clear hK1 hN
      generalize W.alloc (.cells #[] 9) = W2 at *
      generalize hsvN : (Value.slice (some ⟨W.heap.size, 0, none⟩) 0 0) = svN at *
      clear hsvN
      exact K_0_7 _ u0 u3 u6 b5 svN q10 q16 b15 ⟨hSS2, hN2⟩
    · refine step_plain (by rfl) ?_
      simp only [List.getElem_toArray, List.getElem_cons_zero, List.getElem_cons_succ]
      go_simp
      have hN2 := hN.a15
      refine hK1.out _ _ (hSS.upto hX0 ((Below.refl _ _).alloc hN.size _)) (fun hSS2 => ?_)
      clear hK1 hN
      generalize W.alloc (.cells #[.string s.key] 9) = W2 at *
      generalize W.heap.size = B at *
      exact K_0_15 _ u0 u3 u6 b5 q7 q10 q16 B ⟨hSS2, hN2⟩
  case key =>
    intro W u0 u3 u6 b5 q7 q10 q16 b15 hI
    obtain ⟨hSS, hN⟩ := hI
    refine wpAnyH_ready (rs := [0, 7, 15]) (by kernel_rfl) (by simp) (AllReadyH.cons rfl (fun K1 hK1 => ?_) (AllReadyH.cons rfl (fun K1 hK1 => ?_) (AllReadyH.cons rfl (fun K1 hK1 => ?_) AllReadyH.nil)))
    · refine step_plain (by rfl) ?_
      simp only [List.getElem_toArray, List.getElem_cons_zero]
      go_simp
      have hN2 := hN.a0
      refine hK1.out _ _ (hSS.upto hX0 ((Below.refl _ _).alloc hN.size _)) (fun hSS2 => ?_)
      clear hK1 hN
      generalize W.alloc (.cells #[] 25) = W2 at *
      generalize hsvN : (Value.slice (some ⟨W.heap.size, 0, none⟩) 0 0) = svN at *
      clear hsvN
      exact K_0_5 _ svN u3 u6 b5 q7 q10 q16 b15 ⟨hSS2, hN2⟩
    · refine step_plain (by rfl) ?_
      simp only [List.getElem_toArray, List.getElem_cons_zero, List.getElem_cons_succ]
      go_simp
      have hN2 := hN.a7
      refine hK1.out _ _ (hSS.upto hX0 ((Below.refl _ _).alloc hN.size _)) (fun hSS2 => ?_)
      clear hK1 hN
      generalize W.alloc (.cells #[] 9) = W2 at *
      generalize hsvN : (Value.slice (some ⟨W.heap.size, 0, none⟩) 0 0) = svN at *
      clear hsvN
      exact K_5_7 _ u0 u3 u6 b5 svN q10 q16 b15 ⟨hSS2, hN2⟩
    · refine step_plain (by rfl) ?_
      simp only [List.getElem_toArray, List.getElem_cons_zero, List.getElem_cons_succ]
      go_simp
      have hN2 := hN.a15
      refine hK1.out _ _ (hSS.upto hX0 ((Below.refl _ _).alloc hN.size _)) (fun hSS2 => ?_)
      clear hK1 hN
      generalize W.alloc (.cells #[.string s.key] 9) = W2 at *
      generalize W.heap.size = B at *
      exact K_5_15 _ u0 u3 u6 b5 q7 q10 q16 B ⟨hSS2, hN2⟩
  case key =>
    intro W u0 u3 u6 b5 q7 q10 q16 b15 hI
    obtain ⟨hSS, hN⟩ := hI
    refine wpAnyH_ready (rs := [0, 5, 15]) (by kernel_rfl) (by simp) (AllReadyH.cons rfl (fun K1 hK1 => ?_) (AllReadyH.cons rfl (fun K1 hK1 => ?_) (AllReadyH.cons rfl (fun K1 hK1 => ?_) AllReadyH.nil)))
    · refine step_plain (by rfl) ?_
      simp only [List.getElem_toArray, List.getElem_cons_zero]
      go_simp
      have hN2 := hN.a0
      refine hK1.out _ _ (hSS.upto hX0 ((Below.refl _ _).alloc hN.size _)) (fun hSS2 => ?_)
      clear hK1 hN
      generalize W.alloc (.cells #[] 25) = W2 at *
      generalize hsvN : (Value.slice (some ⟨W.heap.size, 0, none⟩) 0 0) = svN at *
      clear hsvN
      exact K_0_7 _ svN u3 u6 b5 q7 q10 q16 b15 ⟨hSS2, hN2⟩
    · refine step_plain (by rfl) ?_
      simp only [List.getElem_toArray, List.getElem_cons_zero, List.getElem_cons_succ]
      go_simp
      have hN2 := hN.a5
      refine hK1.out _ _ (hSS.upto hX0 ((Below.refl _ _).alloc hN.size _)) (fun hSS2 => ?_)
      clear hK1 hN
      generalize W.alloc (.cells #[.int .i64 x.k, .bool x.b, .int .i64 x.n, .int .i64 x.m, .string x.s, .slice xp.la x.l.length xp.lc, .slice xp.ka x.keys.length xp.kc] 25) = W2 at *
      generalize W.heap.size = B at *
      exact K_5_7 _ u0 u3 u6 B q7 q10 q16 b15 ⟨hSS2, hN2⟩
    · refine step_plain (by rfl) ?_
      simp only [List.getElem_toArray, List.getElem_cons_zero, List.getElem_cons_succ]
      go_simp
      have hN2 := hN.a15
      refine hK1.out _ _ (hSS.upto hX0 ((Below.refl _ _).alloc hN.size _)) (fun hSS2 => ?_)
      clear hK1 hN
      generalize W.alloc (.cells #[.string s.key] 9) = W2 at *
      generalize W.heap.size = B at *
      exact K_7_15 _ u0 u3 u6 b5 q7 q10 q16 B ⟨hSS2, hN2⟩
  case key =>
    intro W u0 u3 u6 b5 q7 q10 q16 b15 hI
    obtain ⟨hSS, hN⟩ := hI
    refine wpAnyH_ready (rs := [0, 5, 7]) (by kernel_rfl) (by simp) (AllReadyH.cons rfl (fun K1 hK1 => ?_) (AllReadyH.cons rfl (fun K1 hK1 => ?_) (AllReadyH.cons rfl (fun K1 hK1 => ?_) AllReadyH.nil)))
    · refine step_plain (by rfl) ?_
      simp only [List.getElem_toArray, List.getElem_cons_zero]
      go_simp
      have hN2 := hN.a0
      refine hK1.out _ _ (hSS.upto hX0 ((Below.refl _ _).alloc hN.size _)) (fun hSS2 => ?_)
      clear hK1 hN
      generalize W.alloc (.cells #[] 25) = W2 at *
      generalize hsvN : (Value.slice (some ⟨W.heap.size, 0, none⟩) 0 0) = svN at *
      clear hsvN
      exact K_0_15 _ svN u3 u6 b5 q7 q10 q16 b15 ⟨hSS2, hN2⟩
    · refine step_plain (by rfl) ?_
      simp only [List.getElem_toArray, List.getElem_cons_zero, List.getElem_cons_succ]
      go_simp
      have hN2 := hN.a5
      refine hK1.out _ _ (hSS.upto hX0 ((Below.refl _ _).alloc hN.size _)) (fun hSS2 => ?_)
      clear hK1 hN
      generalize W.alloc (.cells #[.int .i64 x.k, .bool x.b, .int .i64 x.n, .int .i64 x.m, .string x.s, .slice xp.la x.l.length xp.lc, .slice xp.ka x.keys.length xp.kc] 25) = W2 at *
      generalize W.heap.size = B at *
      exact K_5_15 _ u0 u3 u6 B q7 q10 q16 b15 ⟨hSS2, hN2⟩
    · refine step_plain (by rfl) ?_
      simp only [List.getElem_toArray, List.getElem_cons_zero, List.getElem_cons_succ]
      go_simp
      have hN2 := hN.a7
      refine hK1.out _ _ (hSS.upto hX0 ((Below.refl _ _).alloc hN.size _)) (fun hSS2 => ?_)
      clear hK1 hN
      generalize W.alloc (.cells #[] 9) = W2 at *
      generalize hsvN : (Value.slice (some ⟨W.heap.size, 0, none⟩) 0 0) = svN at *
      clear hsvN
      exact K_7_15 _ u0 u3 u6 b5 svN q10 q16 b15 ⟨hSS2, hN2⟩
  case key =>
    intro W u0 u3 u6 b5 q7 q10 q16 b15 hI
    obtain ⟨hSS, hN⟩ := hI
    refine wpAnyH_ready (rs := [5, 7, 15]) (by kernel_rfl) (by simp) (AllReadyH.cons rfl (fun K1 hK1 => ?_) (AllReadyH.cons rfl (fun K1 hK1 => ?_) (AllReadyH.cons rfl (fun K1 hK1 => ?_) AllReadyH.nil)))
    · refine step_plain (by rfl) ?_
      simp only [List.getElem_toArray, List.getElem_cons_zero, List.getElem_cons_succ]
      go_simp
      have hN2 := hN.a5
      refine hK1.out _ _ (hSS.upto hX0 ((Below.refl _ _).alloc hN.size _)) (fun hSS2 => ?_)
      clear hK1 hN
      generalize W.alloc (.cells #[.int .i64 x.k, .bool x.b, .int .i64 x.n, .int .i64 x.m, .string x.s, .slice xp.la x.l.length xp.lc, .slice xp.ka x.keys.length xp.kc] 25) = W2 at *
      generalize W.heap.size = B at *
      exact K_0_3_5 _ u0 u3 u6 B q7 q10 q16 b15 ⟨hSS2, hN2⟩
    · refine step_plain (by rfl) ?_
      simp only [List.getElem_toArray, List.getElem_cons_zero, List.getElem_cons_succ]
      go_simp
      have hN2 := hN.a7
      refine hK1.out _ _ (hSS.upto hX0 ((Below.refl _ _).alloc hN.size _)) (fun hSS2 => ?_)
      clear hK1 hN
      generalize W.alloc (.cells #[] 9) = W2 at *
      generalize hsvN : (Value.slice (some ⟨W.heap.size, 0, none⟩) 0 0) = svN at *
      clear hsvN
      exact K_0_3_7 _ u0 u3 u6 b5 svN q10 q16 b15 ⟨hSS2, hN2⟩
    · refine step_plain (by rfl) ?_
      simp only [List.getElem_toArray, List.getElem_cons_zero, List.getElem_cons_succ]
      go_simp
      have hN2 := hN.a15
      refine hK1.out _ _ (hSS.upto hX0 ((Below.refl _ _).alloc hN.size _)) (fun hSS2 => ?_)
      clear hK1 hN
      generalize W.alloc (.cells #[.string s.key] 9) = W2 at *
      generalize W.heap.size = B at *
      exact K_0_3_15 _ u0 u3 u6 b5 q7 q10 q16 B ⟨hSS2, hN2⟩
  case key =>
    intro W u0 u3 u6 b5 q7 q10 q16 b15 hI
    obtain ⟨hSS, hN⟩ := hI
    refine wpAnyH_ready (rs := [3, 7, 15]) (by kernel_rfl) (by simp) (AllReadyH.cons rfl (fun K1 hK1 => ?_) (AllReadyH.cons rfl (fun K1 hK1 => ?_) (AllReadyH.cons rfl (fun K1 hK1 => ?_) AllReadyH.nil)))
    · obtain ⟨sN, W2, hrun, hN2, hbn⟩ := hN.p3 HNO.out.1 HNO.out.2.2.1 _
      refine step_append_any (by rfl) _ _ _ (by rfl) _ _ (by rfl) (by rfl) hrun ?_
      refine hK1.out _ _ (hSS.upto hX0 (hbn.mono (Nat.le_refl _))) (fun hSS2 => ?_)
      clear hK1 hN hrun hbn
      exact K_0_3_5 _ u0 sN u6 b5 q7 q10 q16 b15 ⟨hSS2, hN2⟩
    · refine step_plain (by rfl) ?_
      simp only [List.getElem_toArray, List.getElem_cons_zero, List.getElem_cons_succ]
      go_simp
      have hN2 := hN.a7
      refine hK1.out _ _ (hSS.upto hX0 ((Below.refl _ _).alloc hN.size _)) (fun hSS2 => ?_)
      clear hK1 hN
      generalize W.alloc (.cells #[] 9) = W2 at *
      generalize hsvN : (Value.slice (some ⟨W.heap.size, 0, none⟩) 0 0) = svN at *
      clear hsvN
      exact K_0_5_7 _ u0 u3 u6 b5 svN q10 q16 b15 ⟨hSS2, hN2⟩
    · refine step_plain (by rfl) ?_
      simp only [List.getElem_toArray, List.getElem_cons_zero, List.getElem_cons_succ]
      go_simp
      have hN2 := hN.a15
      refine hK1.out _ _ (hSS.upto hX0 ((Below.refl _ _).alloc hN.size _)) (fun hSS2 => ?_)
      clear hK1 hN
      generalize W.alloc (.cells #[.string s.key] 9) = W2 at *
      generalize W.heap.size = B at *
      exact K_0_5_15 _ u0 u3 u6 b5 q7 q10 q16 B ⟨hSS2, hN2⟩
  case key =>
    intro W u0 u3 u6 b5 q7 q10 q16 b15 hI
    obtain ⟨hSS, hN⟩ := hI
    refine wpAnyH_ready (rs := [3, 5, 15]) (by kernel_rfl) (by simp) (AllReadyH.cons rfl (fun K1 hK1 => ?_) (AllReadyH.cons rfl (fun K1 hK1 => ?_) (AllReadyH.cons rfl (fun K1 hK1 => ?_) AllReadyH.nil)))
    · obtain ⟨sN, W2, hrun, hN2, hbn⟩ := hN.p3 HNO.out.1 HNO.out.2.2.1 _
      refine step_append_any (by rfl) _ _ _ (by rfl) _ _ (by rfl) (by rfl) hrun ?_
      refine hK1.out _ _ (hSS.upto hX0 (hbn.mono (Nat.le_refl _))) (fun hSS2 => ?_)
      clear hK1 hN hrun hbn
      exact K_0_3_7 _ u0 sN u6 b5 q7 q10 q16 b15 ⟨hSS2, hN2⟩
    · refine step_plain (by rfl) ?_
      simp only [List.getElem_toArray, List.getElem_cons_zero, List.getElem_cons_succ]
      go_simp
      have hN2 := hN.a5
      refine hK1.out _ _ (hSS.upto hX0 ((Below.refl _ _).alloc hN.size _)) (fun hSS2 => ?_)
      clear hK1 hN
      generalize W.alloc (.cells #[.int .i64 x.k, .bool x.b, .int .i64 x.n, .int .i64 x.m, .string x.s, .slice xp.la x.l.length xp.lc, .slice xp.ka x.keys.length xp.kc] 25) = W2 at *
      generalize W.heap.size = B at *
      exact K_0_5_7 _ u0 u3 u6 B q7 q10 q16 b15 ⟨hSS2, hN2⟩
    · refine step_plain (by rfl) ?_
      simp only [List.getElem_toArray, List.getElem_cons_zero, List.getElem_cons_succ]
      go_simp
      have hN2 := hN.a15
      refine hK1.out _ _ (hSS.upto hX0 ((Below.refl _ _).alloc hN.size _)) (fun hSS2 => ?_)
      clear hK1 hN
      generalize W.alloc (.cells #[.string s.key] 9) = W2 at *
      generalize W.heap.size = B at *
      exact K_0_7_15 _ u0 u3 u6 b5 q7 q10 q16 B ⟨hSS2, hN2⟩
  case key =>
    intro W u0 u3 u6 b5 q7 q10 q16 b15 hI
    obtain ⟨hSS, hN⟩ := hI
    refine wpAnyH_ready (rs := [3, 5, 7]) (by kernel_rfl) (by simp) (AllReadyH.cons rfl (fun K1 hK1 => ?_) (AllReadyH.cons rfl (fun K1 hK1 => ?_) (AllReadyH.cons rfl (fun K1 hK1 => ?_) AllReadyH.nil)))
    · obtain ⟨sN, W2, hrun, hN2, hbn⟩ := hN.p3 HNO.out.1 HNO.out.2.2.1 _
      refine step_append_any (by rfl) _ _ _ (by rfl) _ _ (by rfl) (by rfl) hrun ?_
      refine hK1.out _ _ (hSS.upto hX0 (hbn.mono (Nat.le_refl _))) (fun hSS2 => ?_)
      clear hK1 hN hrun hbn
      exact K_0_3_15 _ u0 sN u6 b5 q7 q10 q16 b15 ⟨hSS2, hN2⟩
    · refine step_plain (by rfl) ?_
      simp only [List.getElem_toArray, List.getElem_cons_zero, List.getElem_cons_succ]
      go_simp
      have hN2 := hN.a5
      refine hK1.out _ _ (hSS.upto hX0 ((Below.refl _ _).alloc hN.size _)) (fun hSS2 => ?_)
      clear hK1 hN
      generalize W.alloc (.cells #[.int .i64 x.k, .bool x.b, .int .i64 x.n, .int .i64 x.m, .string x.s, .slice xp.la x.l.length xp.lc, .slice xp.ka x.keys.length xp.kc] 25) = W2 at *
      generalize W.heap.size = B at *
      exact K_0_5_15 _ u0 u3 u6 B q7 q10 q16 b15 ⟨hSS2, hN2⟩
    · refine step_plain (by rfl) ?_
      simp only [List.getElem_toArray, List.getElem_cons_zero, List.getElem_cons_succ]
      go_simp
      have hN2 := hN.a7
      refine hK1.out _ _ (hSS.upto hX0 ((Below.refl _ _).alloc hN.size _)) (fun hSS2 => ?_)
      clear hK1 hN
      generalize W.alloc (.cells #[] 9) = W2 at *
      generalize hsvN : (Value.slice (some ⟨W.heap.size, 0, none⟩) 0 0) = svN at *
      clear hsvN
      exact K_0_7_15 _ u0 u3 u6 b5 svN q10 q16 b15 ⟨hSS2, hN2⟩
  case key =>
    intro W u0 u3 u6 b5 q7 q10 q16 b15 hI
    obtain ⟨hSS, hN⟩ := hI
    refine wpAnyH_ready (rs := [0, 15]) (by kernel_rfl) (by simp) (AllReadyH.cons rfl (fun K1 hK1 => ?_) (AllReadyH.cons rfl (fun K1 hK1 => ?_) AllReadyH.nil))
    · refine step_plain (by rfl) ?_
      simp only [List.getElem_toArray, List.getElem_cons_zero]
      go_simp
      have hN2 := hN.a0
      refine hK1.out _ _ (hSS.upto hX0 ((Below.refl _ _).alloc hN.size _)) (fun hSS2 => ?_)
      clear hK1 hN
      generalize W.alloc (.cells #[] 25) = W2 at *
      generalize hsvN : (Value.slice (some ⟨W.heap.size, 0, none⟩) 0 0) = svN at *
      clear hsvN
      exact K_0_5_7 _ svN u3 u6 b5 q7 q10 q16 b15 ⟨hSS2, hN2⟩
    · refine step_plain (by rfl) ?_
      simp only [List.getElem_toArray, List.getElem_cons_zero, List.getElem_cons_succ]
      go_simp
      have hN2 := hN.a15
      refine hK1.out _ _ (hSS.upto hX0 ((Below.refl _ _).alloc hN.size _)) (fun hSS2 => ?_)
      clear hK1 hN
      generalize W.alloc (.cells #[.string s.key] 9) = W2 at *
      generalize W.heap.size = B at *
      exact K_5_7_15 _ u0 u3 u6 b5 q7 q10 q16 B ⟨hSS2, hN2⟩
  case key =>
    intro W u0 u3 u6 b5 q7 q10 q16 b15 hI
    obtain ⟨hSS, hN⟩ := hI
    refine wpAnyH_ready (rs := [0, 7]) (by kernel_rfl) (by simp) (AllReadyH.cons rfl (fun K1 hK1 => ?_) (AllReadyH.cons rfl (fun K1 hK1 => ?_) AllReadyH.nil))
    · refine step_plain (by rfl) ?_
      simp only [List.getElem_toArray, List.getElem_cons_zero]
      go_simp
      have hN2 := hN.a0
      refine hK1.out _ _ (hSS.upto hX0 ((Below.refl _ _).alloc hN.size _)) (fun hSS2 => ?_)
      clear hK1 hN
      generalize W.alloc (.cells #[] 25) = W2 at *
      generalize hsvN : (Value.slice (some ⟨W.heap.size, 0, none⟩) 0 0) = svN at *
      clear hsvN
      exact K_0_5_15 _ svN u3 u6 b5 q7 q10 q16 b15 ⟨hSS2, hN2⟩
    · refine step_plain (by rfl) ?_
      simp only [List.getElem_toArray, List.getElem_cons_zero, List.getElem_cons_succ]
      go_simp
      have hN2 := hN.a7
      refine hK1.out _ _ (hSS.upto hX0 ((Below.refl _ _).alloc hN.size _)) (fun hSS2 => ?_)
      clear hK1 hN
      generalize W.alloc (.cells #[] 9) = W2 at *
      generalize hsvN : (Value.slice (some ⟨W.heap.size, 0, none⟩) 0 0) = svN at *
      clear hsvN
      exact K_5_7_15 _ u0 u3 u6 b5 svN q10 q16 b15 ⟨hSS2, hN2⟩
  case key =>
    intro W u0 u3 u6 b5 q7 q10 q16 b15 hI
    obtain ⟨hSS, hN⟩ := hI
    refine wpAnyH_ready (rs := [0, 5]) (by kernel_rfl) (by simp) (AllReadyH.cons rfl (fun K1 hK1 => ?_) (AllReadyH.cons rfl (fun K1 hK1 => ?_) AllReadyH.nil))
    · refine step_plain (by rfl) ?_
      simp only [List.getElem_toArray, List.getElem_cons_zero]
      go_simp
      have hN2 := hN.a0
      refine hK1.out _ _ (hSS.upto hX0 ((Below.refl _ _).alloc hN.size _)) (fun hSS2 => ?_)
      clear hK1 hN
      generalize W.alloc (.cells #[] 25) = W2 at *
      generalize hsvN : (Value.slice (some ⟨W.heap.size, 0, none⟩) 0 0) = svN at *
      clear hsvN
      exact K_0_7_15 _ svN u3 u6 b5 q7 q10 q16 b15 ⟨hSS2, hN2⟩
    · refine step_plain (by rfl) ?_
      simp only [List.getElem_toArray, List.getElem_cons_zero, List.getElem_cons_succ]
      go_simp
      have hN2 := hN.a5
      refine hK1.out _ _ (hSS.upto hX0 ((Below.refl _ _).alloc hN.size _)) (fun hSS2 => ?_)
      clear hK1 hN
      generalize W.alloc (.cells #[.int .i64 x.k, .bool x.b, .int .i64 x.n, .int .i64 x.m, .string x.s, .slice xp.la x.l.length xp.lc, .slice xp.ka x.keys.length xp.kc] 25) = W2 at *
      generalize W.heap.size = B at *
      exact K_5_7_15 _ u0 u3 u6 B q7 q10 q16 b15 ⟨hSS2, hN2⟩
  case key =>
    intro W u0 u3 u6 b5 q7 q10 q16 b15 hI
    obtain ⟨hSS, hN⟩ := hI
    refine wpAnyH_ready (rs := [6, 7, 15]) (by kernel_rfl) (by simp) (AllReadyH.cons rfl (fun K1 hK1 => ?_) (AllReadyH.cons rfl (fun K1 hK1 => ?_) (AllReadyH.cons rfl (fun K1 hK1 => ?_) AllReadyH.nil)))
    · obtain ⟨sN, W2, hrun, hN2, hbn⟩ := hN.p6 HNO.out.2.2.1 _
      refine step_append_any (by rfl) _ _ _ (by rfl) _ _ (by rfl) (by rfl) hrun ?_
      refine hK1.out _ _ (hSS.upto hX0 (hbn.mono (Nat.le_refl _))) (fun hSS2 => ?_)
      clear hK1 hN hrun hbn
      rw [HLX.out.1] at hN2
      exact K_0_3_5_6 _ u0 u3 sN b5 q7 q10 q16 b15 ⟨hSS2, hN2⟩
    · refine step_plain (by rfl) ?_
      simp only [List.getElem_toArray, List.getElem_cons_zero, List.getElem_cons_succ]
      go_simp
      have hN2 := hN.a7
      refine hK1.out _ _ (hSS.upto hX0 ((Below.refl _ _).alloc hN.size _)) (fun hSS2 => ?_)
      clear hK1 hN
      generalize W.alloc (.cells #[] 9) = W2 at *
      generalize hsvN : (Value.slice (some ⟨W.heap.size, 0, none⟩) 0 0) = svN at *
      clear hsvN
      exact K_0_3_5_7 _ u0 u3 u6 b5 svN q10 q16 b15 ⟨hSS2, hN2⟩
    · refine step_plain (by rfl) ?_
      simp only [List.getElem_toArray, List.getElem_cons_zero, List.getElem_cons_succ]
      go_simp
      have hN2 := hN.a15
      refine hK1.out _ _ (hSS.upto hX0 ((Below.refl _ _).alloc hN.size _)) (fun hSS2 => ?_)
      clear hK1 hN
      generalize W.alloc (.cells #[.string s.key] 9) = W2 at *
      generalize W.heap.size = B at *
      exact K_0_3_5_15 _ u0 u3 u6 b5 q7 q10 q16 B ⟨hSS2, hN2⟩
  case key =>
    intro W u0 u3 u6 b5 q7 q10 q16 b15 hI
    obtain ⟨hSS, hN⟩ := hI
    refine wpAnyH_ready (rs := [5, 15]) (by kernel_rfl) (by simp) (AllReadyH.cons rfl (fun K1 hK1 => ?_) (AllReadyH.cons rfl (fun K1 hK1 => ?_) AllReadyH.nil))
    · refine step_plain (by rfl) ?_
      simp only [List.getElem_toArray, List.getElem_cons_zero, List.getElem_cons_succ]
      go_simp
      have hN2 := hN.a5
      refine hK1.out _ _ (hSS.upto hX0 ((Below.refl _ _).alloc hN.size _)) (fun hSS2 => ?_)
      clear hK1 hN
      generalize W.alloc (.cells #[.int .i64 x.k, .bool x.b, .int .i64 x.n, .int .i64 x.m, .string x.s, .slice xp.la x.l.length xp.lc, .slice xp.ka x.keys.length xp.kc] 25) = W2 at *
      generalize W.heap.size = B at *
      exact K_0_3_5_7 _ u0 u3 u6 B q7 q10 q16 b15 ⟨hSS2, hN2⟩
    · refine step_plain (by rfl) ?_
      simp only [List.getElem_toArray, List.getElem_cons_zero, List.getElem_cons_succ]
      go_simp
      have hN2 := hN.a15
      refine hK1.out _ _ (hSS.upto hX0 ((Below.refl _ _).alloc hN.size _)) (fun hSS2 => ?_)
      clear hK1 hN
      generalize W.alloc (.cells #[.string s.key] 9) = W2 at *
      generalize W.heap.size = B at *
      exact K_0_3_7_15 _ u0 u3 u6 b5 q7 q10 q16 B ⟨hSS2, hN2⟩
  case key =>
    intro W u0 u3 u6 b5 q7 q10 q16 b15 hI
    obtain ⟨hSS, hN⟩ := hI
    refine wpAnyH_ready (rs := [5, 7]) (by kernel_rfl) (by simp) (AllReadyH.cons rfl (fun K1 hK1 => ?_) (AllReadyH.cons rfl (fun K1 hK1 => ?_) AllReadyH.nil))
    · refine step_plain (by rfl) ?_
      simp only [List.getElem_toArray, List.getElem_cons_zero, List.getElem_cons_succ]
      go_simp
      have hN2 := hN.a5
      refine hK1.out _ _ (hSS.upto hX0 ((Below.refl _ _).alloc hN.size _)) (fun hSS2 => ?_)
      clear hK1 hN
      generalize W.alloc (.cells #[.int .i64 x.k, .bool x.b, .int .i64 x.n, .int .i64 x.m, .string x.s, .slice xp.la x.l.length xp.lc, .slice xp.ka x.keys.length xp.kc] 25) = W2 at *
      generalize W.heap.size = B at *
      exact K_0_3_5_15 _ u0 u3 u6 B q7 q10 q16 b15 ⟨hSS2, hN2⟩
    · refine step_plain (by rfl) ?_
      simp only [List.getElem_toArray, List.getElem_cons_zero, List.getElem_cons_succ]
      go_simp
      have hN2 := hN.a7
      refine hK1.out _ _ (hSS.upto hX0 ((Below.refl _ _).alloc hN.size _)) (fun hSS2 => ?_)
      clear hK1 hN
      generalize W.alloc (.cells #[] 9) = W2 at *
      generalize hsvN : (Value.slice (some ⟨W.heap.size, 0, none⟩) 0 0) = svN at *
      clear hsvN
      exact K_0_3_7_15 _ u0 u3 u6 b5 svN q10 q16 b15 ⟨hSS2, hN2⟩
  case key =>
    intro W u0 u3 u6 b5 q7 q10 q16 b15 hI
    obtain ⟨hSS, hN⟩ := hI
    refine wpAnyH_ready (rs := [3, 15]) (by kernel_rfl) (by simp) (AllReadyH.cons rfl (fun K1 hK1 => ?_) (AllReadyH.cons rfl (fun K1 hK1 => ?_) AllReadyH.nil))
    · obtain ⟨sN, W2, hrun, hN2, hbn⟩ := hN.p3 HNO.out.1 HNO.out.2.2.1 _
      refine step_append_any (by rfl) _ _ _ (by rfl) _ _ (by rfl) (by rfl) hrun ?_
      refine hK1.out _ _ (hSS.upto hX0 (hbn.mono (Nat.le_refl _))) (fun hSS2 => ?_)
      clear hK1 hN hrun hbn
      exact K_0_3_5_7 _ u0 sN u6 b5 q7 q10 q16 b15 ⟨hSS2, hN2⟩
    · refine step_plain (by rfl) ?_
      simp only [List.getElem_toArray, List.getElem_cons_zero, List.getElem_cons_succ]
      go_simp
      have hN2 := hN.a15
      refine hK1.out _ _ (hSS.upto hX0 ((Below.refl _ _).alloc hN.size _)) (fun hSS2 => ?_)
      clear hK1 hN
      generalize W.alloc (.cells #[.string s.key] 9) = W2 at *
      generalize W.heap.size = B at *
      exact K_0_5_7_15 _ u0 u3 u6 b5 q7 q10 q16 B ⟨hSS2, hN2⟩
  case key =>
    intro W u0 u3 u6 b5 q7 q10 q16 b15 hI
    obtain ⟨hSS, hN⟩ := hI
    refine wpAnyH_ready (rs := [3, 7]) (by kernel_rfl) (by simp) (AllReadyH.cons rfl (fun K1 hK1 => ?_) (AllReadyH.cons rfl (fun K1 hK1 => ?_) AllReadyH.nil))
    · obtain ⟨sN, W2, hrun, hN2, hbn⟩ := hN.p3 HNO.out.1 HNO.out.2.2.1 _
      refine step_append_any (by rfl) _ _ _ (by rfl) _ _ (by rfl) (by rfl) hrun ?_
      refine hK1.out _ _ (hSS.upto hX0 (hbn.mono (Nat.le_refl _))) (fun hSS2 => ?_)
      clear hK1 hN hrun hbn
      exact K_0_3_5_15 _ u0 sN u6 b5 q7 q10 q16 b15 ⟨hSS2, hN2⟩
    · refine step_plain (by rfl) ?_
      simp only [List.getElem_toArray, List.getElem_cons_zero, List.getElem_cons_succ]
      go_simp
      have hN2 := hN.a7
      refine hK1.out _ _ (hSS.upto hX0 ((Below.refl _ _).alloc hN.size _)) (fun hSS2 => ?_)
      clear hK1 hN
      generalize W.alloc (.cells #[] 9) = W2 at *
      generalize hsvN : (Value.slice (some ⟨W.heap.size, 0, none⟩) 0 0) = svN at *
      clear hsvN
      exact K_0_5_7_15 _ u0 u3 u6 b5 svN q10 q16 b15 ⟨hSS2, hN2⟩
  case key =>
    intro W u0 u3 u6 b5 q7 q10 q16 b15 hI
    obtain ⟨hSS, hN⟩ := hI
    refine wpAnyH_ready (rs := [3, 5]) (by kernel_rfl) (by simp) (AllReadyH.cons rfl (fun K1 hK1 => ?_) (AllReadyH.cons rfl (fun K1 hK1 => ?_) AllReadyH.nil))
    · obtain ⟨sN, W2, hrun, hN2, hbn⟩ := hN.p3 HNO.out.1 HNO.out.2.2.1 _
      refine step_append_any (by rfl) _ _ _ (by rfl) _ _ (by rfl) (by rfl) hrun ?_
      refine hK1.out _ _ (hSS.upto hX0 (hbn.mono (Nat.le_refl _))) (fun hSS2 => ?_)
      clear hK1 hN hrun hbn
      exact K_0_3_7_15 _ u0 sN u6 b5 q7 q10 q16 b15 ⟨hSS2, hN2⟩
    · refine step_plain (by rfl) ?_
      simp only [List.getElem_toArray, List.getElem_cons_zero, List.getElem_cons_succ]
      go_simp
      have hN2 := hN.a5
      refine hK1.out _ _ (hSS.upto hX0 ((Below.refl _ _).alloc hN.size _)) (fun hSS2 => ?_)
      clear hK1 hN
      generalize W.alloc (.cells #[.int .i64 x.k, .bool x.b, .int .i64 x.n, .int .i64 x.m, .string x.s, .slice xp.la x.l.length xp.lc, .slice xp.ka x.keys.length xp.kc] 25) = W2 at *
      generalize W.heap.size = B at *
      exact K_0_5_7_15 _ u0 u3 u6 B q7 q10 q16 b15 ⟨hSS2, hN2⟩
  case key =>
    intro W u0 u3 u6 b5 q7 q10 q16 b15 hI
    obtain ⟨hSS, hN⟩ := hI
    refine wpAnyH_ready (rs := [0]) (by kernel_rfl) (by simp) (AllReadyH.cons rfl (fun K1 hK1 => ?_) AllReadyH.nil)
    refine step_plain (by rfl) ?_
    simp only [List.getElem_toArray, List.getElem_cons_zero]
    go_simp
    have hN2 := hN.a0
    refine hK1.out _ _ (hSS.upto hX0 ((Below.refl _ _).alloc hN.size _)) (fun hSS2 => ?_)
    clear hK1 hN
    generalize W.alloc (.cells #[] 25) = W2 at *
    generalize hsvN : (Value.slice (some ⟨W.heap.size, 0, none⟩) 0 0) = svN at *
    clear hsvN
    exact K_0_5_7_15 _ svN u3 u6 b5 q7 q10 q16 b15 ⟨hSS2, hN2⟩
  case key =>
    intro W u0 u3 u6 b5 q7 q10 q16 b15 hI
    obtain ⟨hSS, hN⟩ := hI
    refine wpAnyH_ready (rs := [7, 15]) (by kernel_rfl) (by simp) (AllReadyH.cons rfl (fun K1 hK1 => ?_) (AllReadyH.cons rfl (fun K1 hK1 => ?_) AllReadyH.nil))
    · refine step_plain (by rfl) ?_
      simp only [List.getElem_toArray, List.getElem_cons_zero, List.getElem_cons_succ]
      go_simp
      have hN2 := hN.a7
      refine hK1.out _ _ (hSS.upto hX0 ((Below.refl _ _).alloc hN.size _)) (fun hSS2 => ?_)
      clear hK1 hN
      generalize W.alloc (.cells #[] 9) = W2 at *
      generalize hsvN : (Value.slice (some ⟨W.heap.size, 0, none⟩) 0 0) = svN at *
      clear hsvN
      exact K_0_3_5_6_7 _ u0 u3 u6 b5 svN q10 q16 b15 ⟨hSS2, hN2⟩
    · refine step_plain (by rfl) ?_
      simp only [List.getElem_toArray, List.getElem_cons_zero, List.getElem_cons_succ]
      go_simp
      have hN2 := hN.a15
      refine hK1.out _ _ (hSS.upto hX0 ((Below.refl _ _).alloc hN.size _)) (fun hSS2 => ?_)
      clear hK1 hN
      generalize W.alloc (.cells #[.string s.key] 9) = W2 at *
      generalize W.heap.size = B at *
      exact K_0_3_5_6_15 _ u0 u3 u6 b5 q7 q10 q16 B ⟨hSS2, hN2⟩
  case key =>
    intro W u0 u3 u6 b5 q7 q10 q16 b15 hI
    obtain ⟨hSS, hN⟩ := hI
    refine wpAnyH_ready (rs := [6, 15]) (by kernel_rfl) (by simp) (AllReadyH.cons rfl (fun K1 hK1 => ?_) (AllReadyH.cons rfl (fun K1 hK1 => ?_) AllReadyH.nil))
    · obtain ⟨sN, W2, hrun, hN2, hbn⟩ := hN.p6 HNO.out.2.2.1 _
      refine step_append_any (by rfl) _ _ _ (by rfl) _ _ (by rfl) (by rfl) hrun ?_
      refine hK1.out _ _ (hSS.upto hX0 (hbn.mono (Nat.le_refl _))) (fun hSS2 => ?_)
      clear hK1 hN hrun hbn
      rw [HLX.out.1] at hN2
      exact K_0_3_5_6_7 _ u0 u3 sN b5 q7 q10 q16 b15 ⟨hSS2, hN2⟩
    · refine step_plain (by rfl) ?_
      simp only [List.getElem_toArray, List.getElem_cons_zero, List.getElem_cons_succ]
      go_simp
      have hN2 := hN.a15
      refine hK1.out _ _ (hSS.upto hX0 ((Below.refl _ _).alloc hN.size _)) (fun hSS2 => ?_)
      clear hK1 hN
      generalize W.alloc (.cells #[.string s.key] 9) = W2 at *
      generalize W.heap.size = B at *
      exact K_0_3_5_7_15 _ u0 u3 u6 b5 q7 q10 q16 B ⟨hSS2, hN2⟩
  case key =>
    intro W u0 u3 u6 b5 q7 q10 q16 b15 hI
    obtain ⟨hSS, hN⟩ := hI
    refine wpAnyH_ready (rs := [6, 7]) (by kernel_rfl) (by simp) (AllReadyH.cons rfl (fun K1 hK1 => ?_) (AllReadyH.cons rfl (fun K1 hK1 => ?_) AllReadyH.nil))
    · obtain ⟨sN, W2, hrun, hN2, hbn⟩ := hN.p6 HNO.out.2.2.1 _
      refine step_append_any (by rfl) _ _ _ (by rfl) _ _ (by rfl) (by rfl) hrun ?_
      refine hK1.out _ _ (hSS.upto hX0 (hbn.mono (Nat.le_refl _))) (fun hSS2 => ?_)
      clear hK1 hN hrun hbn
      rw [HLX.out.1] at hN2
      exact K_0_3_5_6_15 _ u0 u3 sN b5 q7 q10 q16 b15 ⟨hSS2, hN2⟩
    · refine step_plain (by rfl) ?_
      simp only [List.getElem_toArray, List.getElem_cons_zero, List.getElem_cons_succ]
      go_simp
      have hN2 := hN.a7
      refine hK1.out _ _ (hSS.upto hX0 ((Below.refl _ _).alloc hN.size _)) (fun hSS2 => ?_)
      clear hK1 hN
      generalize W.alloc (.cells #[] 9) = W2 at *
      generalize hsvN : (Value.slice (some ⟨W.heap.size, 0, none⟩) 0 0) = svN at *
      clear hsvN
      exact K_0_3_5_7_15 _ u0 u3 u6 b5 svN q10 q16 b15 ⟨hSS2, hN2⟩
  case key =>
    intro W u0 u3 u6 b5 q7 q10 q16 b15 hI
    obtain ⟨hSS, hN⟩ := hI
    refine wpAnyH_ready (rs := [5]) (by kernel_rfl) (by simp) (AllReadyH.cons rfl (fun K1 hK1 => ?_) AllReadyH.nil)
    refine step_plain (by rfl) ?_
    simp only [List.getElem_toArray, List.getElem_cons_zero, List.getElem_cons_succ]
    go_simp
    have hN2 := hN.a5
    refine hK1.out _ _ (hSS.upto hX0 ((Below.refl _ _).alloc hN.size _)) (fun hSS2 => ?_)
    clear hK1 hN
    generalize W.alloc (.cells #[.int .i64 x.k, .bool x.b, .int .i64 x.n, .int .i64 x.m, .string x.s, .slice xp.la x.l.length xp.lc, .slice xp.ka x.keys.length xp.kc] 25) = W2 at *
    generalize W.heap.size = B at *
    exact K_0_3_5_7_15 _ u0 u3 u6 B q7 q10 q16 b15 ⟨hSS2, hN2⟩
  case key =>
    intro W u0 u3 u6 b5 q7 q10 q16 b15 hI
    obtain ⟨hSS, hN⟩ := hI
    refine wpAnyH_ready (rs := [3]) (by kernel_rfl) (by simp) (AllReadyH.cons rfl (fun K1 hK1 => ?_) AllReadyH.nil)
    obtain ⟨sN, W2, hrun, hN2, hbn⟩ := hN.p3 HNO.out.1 HNO.out.2.2.1 _
    refine step_append_any (by rfl) _ _ _ (by rfl) _ _ (by rfl) (by rfl) hrun ?_
    refine hK1.out _ _ (hSS.upto hX0 (hbn.mono (Nat.le_refl _))) (fun hSS2 => ?_)
    clear hK1 hN hrun hbn
    exact K_0_3_5_7_15 _ u0 sN u6 b5 q7 q10 q16 b15 ⟨hSS2, hN2⟩
  case key =>
    intro W u0 u3 u6 b5 q7 q10 q16 b15 hI
    obtain ⟨hSS, hN⟩ := hI
    refine wpAnyH_ready (rs := [10, 15]) (by kernel_rfl) (by simp) (AllReadyH.cons rfl (fun K1 hK1 => ?_) (AllReadyH.cons rfl (fun K1 hK1 => ?_) AllReadyH.nil))
    · obtain ⟨sN, W2, hrun, hN2, hbn⟩ := hN.p10 HNO.out.2.1 HNO.out.2.2.2 _
      refine step_append_any (by rfl) _ _ _ (by rfl) _ _ (by rfl) (by rfl) hrun ?_
      refine hK1.out _ _ (hSS.upto hX0 (hbn.mono (Nat.le_refl _))) (fun hSS2 => ?_)
      clear hK1 hN hrun hbn
      exact K_0_3_5_6_7_10 _ u0 u3 u6 b5 q7 sN q16 b15 ⟨hSS2, hN2⟩
    · refine step_plain (by rfl) ?_
      simp only [List.getElem_toArray, List.getElem_cons_zero, List.getElem_cons_succ]
      go_simp
      have hN2 := hN.a15
      refine hK1.out _ _ (hSS.upto hX0 ((Below.refl _ _).alloc hN.size _)) (fun hSS2 => ?_)
      clear hK1 hN
      generalize W.alloc (.cells #[.string s.key] 9) = W2 at *
      generalize W.heap.size = B at *
      exact K_0_3_5_6_7_15 _ u0 u3 u6 b5 q7 q10 q16 B ⟨hSS2, hN2⟩
  case key =>
    intro W u0 u3 u6 b5 q7 q10 q16 b15 hI
    obtain ⟨hSS, hN⟩ := hI
    refine wpAnyH_ready (rs := [7]) (by kernel_rfl) (by simp) (AllReadyH.cons rfl (fun K1 hK1 => ?_) AllReadyH.nil)
    refine step_plain (by rfl) ?_
    simp only [List.getElem_toArray, List.getElem_cons_zero, List.getElem_cons_succ]
    go_simp
    have hN2 := hN.a7
    refine hK1.out _ _ (hSS.upto hX0 ((Below.refl _ _).alloc hN.size _)) (fun hSS2 => ?_)
    clear hK1 hN
    generalize W.alloc (.cells #[] 9) = W2 at *
    generalize hsvN : (Value.slice (some ⟨W.heap.size, 0, none⟩) 0 0) = svN at *
    clear hsvN
    exact K_0_3_5_6_7_15 _ u0 u3 u6 b5 svN q10 q16 b15 ⟨hSS2, hN2⟩
  case key =>
    intro W u0 u3 u6 b5 q7 q10 q16 b15 hI
    obtain ⟨hSS, hN⟩ := hI
    refine wpAnyH_ready (rs := [6]) (by kernel_rfl) (by simp) (AllReadyH.cons rfl (fun K1 hK1 => ?_) AllReadyH.nil)
    obtain ⟨sN, W2, hrun, hN2, hbn⟩ := hN.p6 HNO.out.2.2.1 _
    refine step_append_any (by rfl) _ _ _ (by rfl) _ _ (by rfl) (by rfl) hrun ?_
    refine hK1.out _ _ (hSS.upto hX0 (hbn.mono (Nat.le_refl _))) (fun hSS2 => ?_)
    clear hK1 hN hrun hbn
    rw [HLX.out.1] at hN2
    exact K_0_3_5_6_7_15 _ u0 u3 sN b5 q7 q10 q16 b15 ⟨hSS2, hN2⟩
  case key =>
    intro W u0 u3 u6 b5 q7 q10 q16 b15 hI
    obtain ⟨hSS, hN⟩ := hI
    refine wpAnyH_ready (rs := [15]) (by kernel_rfl) (by simp) (AllReadyH.cons rfl (fun K1 hK1 => ?_) AllReadyH.nil)
    refine step_plain (by rfl) ?_
    simp only [List.getElem_toArray, List.getElem_cons_zero, List.getElem_cons_succ]
    go_simp
    have hN2 := hN.a15
    refine hK1.out _ _ (hSS.upto hX0 ((Below.refl _ _).alloc hN.size _)) (fun hSS2 => ?_)
    clear hK1 hN
    generalize W.alloc (.cells #[.string s.key] 9) = W2 at *
    generalize W.heap.size = B at *
    exact K_0_3_5_6_7_10_15 _ u0 u3 u6 b5 q7 q10 q16 B ⟨hSS2, hN2⟩
  case key =>
    intro W u0 u3 u6 b5 q7 q10 q16 b15 hI
    obtain ⟨hSS, hN⟩ := hI
    refine wpAnyH_ready (rs := [10]) (by kernel_rfl) (by simp) (AllReadyH.cons rfl (fun K1 hK1 => ?_) AllReadyH.nil)
    obtain ⟨sN, W2, hrun, hN2, hbn⟩ := hN.p10 HNO.out.2.1 HNO.out.2.2.2 _
    refine step_append_any (by rfl) _ _ _ (by rfl) _ _ (by rfl) (by rfl) hrun ?_
    refine hK1.out _ _ (hSS.upto hX0 (hbn.mono (Nat.le_refl _))) (fun hSS2 => ?_)
    clear hK1 hN hrun hbn
    exact K_0_3_5_6_7_10_15 _ u0 u3 u6 b5 q7 sN q16 b15 ⟨hSS2, hN2⟩
  case key =>
    intro W u0 u3 u6 b5 q7 q10 q16 b15 hI
    obtain ⟨hSS, hN⟩ := hI
    refine wpAnyH_ready (rs := [16]) (by kernel_rfl) (by simp) (AllReadyH.cons rfl (fun K1 hK1 => ?_) AllReadyH.nil)
    obtain ⟨sN, W2, hrun, hN2, hbn⟩ := hN.p16 HNO.out.2.2.2 _
    refine step_append_any (by rfl) _ _ _ (by rfl) _ _ (by rfl) (by rfl) hrun ?_
    refine hK1.out _ _ (hSS.upto hX0 (hbn.mono (Nat.le_refl _))) (fun hSS2 => ?_)
    clear hK1 hN hrun hbn
    rw [HLX.out.2] at hN2
    exact K_0_3_5_6_7_10_15_16 _ u0 u3 u6 b5 q7 q10 sN b15 ⟨hSS2, hN2⟩
  case key =>
    intro W u0 u3 u6 b5 q7 q10 q16 b15 hI
    obtain ⟨hSS, hN⟩ := hI
    obtain ⟨a6, c6, a16, c16, rfl, rfl, hvN⟩ := hN.fin
    have hSB := hN.hb
    clear hN
    refine wpAnyH_take (i := 17) (v := ?_) rfl (by kernel_rfl) (by kernel_rfl) (by kernel_rfl) (fun _ _ _ h => h) (Or.inl ⟨by rfl, ?_⟩) hSS ?_
    rotate_left
    · intro wz hSz
      go_simp
      try with_reducible rfl
    simp only [List.getElem_toArray, List.getElem_cons_zero, List.getElem_cons_succ, Act.put, List.setIfInBounds_toArray, List.set_cons_zero, List.set_cons_succ]
    have CC := CCL.out W a6 c6 a16 c16 hvN
    clear hvN
    refine wpAnyH_ready (rs := [18]) (by kernel_rfl) (by simp) (AllReadyH.cons rfl (fun K1 hK1 => ?_) AllReadyH.nil)
    refine step_plain (by rfl) ?_
    simp only [List.getElem_toArray, List.getElem_cons_zero, List.getElem_cons_succ]
    go_simp
    go_at_call 10
    refine CC.mono ?_
    rintro e W2 ⟨yp, rfl, hY, hbn⟩
    go_simp
    refine hK1.out _ _ (hSS.upto hX0 (hbn.mono hSB.size)) (fun hSS => ?_)
    obtain ⟨hz0, h13, hB3, hSZ, hVI⟩ := HZL.out W2 W.heap.size CM yp (hSB.trans (hbn.mono hSB.size)) hSS hSB.size hY
    clear hK1 CC hbn hSB hY
    refine wpAnyH_ready (rs := [19]) (by kernel_rfl) (by simp) (AllReadyH.cons rfl (fun K2 hK2 => ?_) AllReadyH.nil)
    refine step_setbox (by rfl) _ _ (by rfl) (by rfl) (B := w.heap.size + 2) (v := CM) (p := yp) (by rfl) (by rfl) hz0 ?_
    refine hK2.out _ _ hSZ (fun hSS => ?_)
    clear hK2 hSZ hz0
    generalize setBox W2 (w.heap.size + 2) CM yp = WZ at *
    refine wpAnyH_take (i := 20) (v := ?_) rfl (by kernel_rfl) (by kernel_rfl) (by kernel_rfl) (fun _ _ _ h => h) (Or.inl ⟨by rfl, ?_⟩) hSS ?_
    rotate_left
    · intro wz hSz
      go_simp
      try with_reducible rfl
    simp only [List.getElem_toArray, List.getElem_cons_zero, List.getElem_cons_succ, Act.put, List.setIfInBounds_toArray, List.set_cons_zero, List.set_cons_succ]
    refine wpAnyH_done (by kernel_rfl) ?_ _
    have HY : Hid _ := And.intro h13 hB3
    clear h13 hB3 hSS
    go_wp2_with fail
    obtain ⟨h13, hB3⟩ := HY.out
    obtain ⟨k0, k1, k2, k3, k4, k5, k6⟩ := box_cells h13
    exact bodyPost_ret (v := .tuple #[CM.val yp, .int .i64 0]) (by simp [results, Try.results26, go_sem, k0, k1, k2, k3, k4, k5, k6, V.val]) rfl ⟨_, rfl, hVI, hB3⟩
end Go.Proofs.Ytigdcnoggjcddaa

