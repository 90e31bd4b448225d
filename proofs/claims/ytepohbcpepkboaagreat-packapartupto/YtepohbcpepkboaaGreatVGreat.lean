/- The law's Great only reads, and answers an int. Condition: a value of at most 1048576 values and letters. -/
import Derived.Test.YtepohbcpepkboaaGreatVFits
import Derived.Deep.RegionHeld3
import Derived.Deep.CutRange
namespace Go.Proofs.YtepohbcpepkboaaGreat
open Go.RowKit

set_option maxRecDepth 100000 in
/-- The cells of a value's box. -/
theorem vbox_cells {w wr : World} {v : V} {p : VP} (hb : Below (w.heap.size + 1) (w.alloc (v.box p)) wr) : wr.cell? ⟨w.heap.size, 0, none⟩ = some (.int .i64 v.k) ∧ wr.cell? ⟨w.heap.size, 1, none⟩ = some (.bool v.b) ∧ wr.cell? ⟨w.heap.size, 2, none⟩ = some (.int .i64 v.n) ∧ wr.cell? ⟨w.heap.size, 3, none⟩ = some (.int .i64 v.m) ∧ wr.cell? ⟨w.heap.size, 4, none⟩ = some (.string v.s) ∧ wr.cell? ⟨w.heap.size, 5, none⟩ = some (.slice p.la v.l.length p.lc) ∧ wr.cell? ⟨w.heap.size, 6, none⟩ = some (.slice p.ka v.keys.length p.kc) :=
  ⟨vbox_cell hb 0, vbox_cell hb 1, vbox_cell hb 2, vbox_cell hb 3, vbox_cell hb 4, vbox_cell hb 5, vbox_cell hb 6⟩
set_option maxRecDepth 100000 in
set_option maxHeartbeats 3200000 in
theorem great_v {w0 : World} {ok : Nat → Prop} {v : V} {p : VP} (h : VIn w0 ok v p) : ∀ w, Below w0.heap.size w0 w → v.bulk ≤ 1048576 →
    Calls Tryz.prog 7 #[v.val p] w fun e w' => (∃ g : Int, e = .returned (.int .i64 g)) ∧ Below w.heap.size w w' := by
  induction h using VIn.ind with
  | mk k b n m s l q p P hk hn hm hs hl hq hkeys hc hin ih =>
    intro w hb0 hbk
    have HV := VIn.mk k b n m s l q p P hk hn hm hs hl hq hkeys hc hin
    obtain ⟨la, lc, ka, kc⟩ := p
    have CS : Hid (∀ W, Below (w.heap.size + 1) (w.alloc ((V.mk k b n m s l q).box ⟨la, lc, ka, kc⟩)) W → Calls Tryz.prog 21 #[(V.mk k b n m s l q).val ⟨la, lc, ka, kc⟩] W fun e w' => (∃ g : Int, e = .returned (.int .i64 g)) ∧ Below (w.heap.size + 1) (w.alloc ((V.mk k b n m s l q).box ⟨la, lc, ka, kc⟩)) w') := fun W hW => by
      refine (vsize_any HV W (hb0.trans ((below_box hW).mono hb0.size)) hbk).mono ?_
      rintro e w' ⟨rfl, h2⟩
      exact ⟨⟨_, rfl⟩, hW.trans (h2.mono (by have := hW.size; simpa using this))⟩
    have CD : Hid (∀ W, Below (w.heap.size + 1) (w.alloc ((V.mk k b n m s l q).box ⟨la, lc, ka, kc⟩)) W → Calls Tryz.prog 22 #[(V.mk k b n m s l q).val ⟨la, lc, ka, kc⟩] W fun e w' => (∃ g : Int, e = .returned (.int .i64 g)) ∧ Below (w.heap.size + 1) (w.alloc ((V.mk k b n m s l q).box ⟨la, lc, ka, kc⟩)) w') := fun W hW => by
      refine (vdeep_any HV W (hb0.trans ((below_box hW).mono hb0.size)) hbk).mono ?_
      rintro e w' ⟨rfl, h2⟩
      exact ⟨⟨_, rfl⟩, hW.trans (h2.mono (by have := hW.size; simpa using this))⟩
    have hll : l.length ≤ 1048576 := by have := len_le_bulkL l; simp only [V.bulk] at hbk; omega
    have hql : q.length ≤ 1048576 := by have := keys_len q; simp only [V.bulk] at hbk; omega
    have hsl : s.size ≤ 1048576 := by simp only [V.bulk] at hbk; omega
    have hbl : V.bulk.go l ≤ 1048576 := by simp only [V.bulk] at hbk; omega
    have CG : Hid (∀ (W : World) (j : Nat) (hj : j < l.length), Below w0.heap.size w0 W → Calls Tryz.prog 7 #[l[j].val (P j)] W fun e w' => (∃ g : Int, e = .returned (.int .i64 g)) ∧ Below W.heap.size W w') := fun W j hj hW => ih j hj W hW (Nat.le_trans (bulk_mem (List.getElem_mem hj)) hbl)
    have HB : Hid (∀ wr, Below (w.heap.size + 1) (w.alloc ((V.mk k b n m s l q).box ⟨la, lc, ka, kc⟩)) wr → wr.cell? ⟨w.heap.size, 0, none⟩ = some (.int .i64 k) ∧ wr.cell? ⟨w.heap.size, 1, none⟩ = some (.bool b) ∧ wr.cell? ⟨w.heap.size, 2, none⟩ = some (.int .i64 n) ∧ wr.cell? ⟨w.heap.size, 3, none⟩ = some (.int .i64 m) ∧ wr.cell? ⟨w.heap.size, 4, none⟩ = some (.string s) ∧ wr.cell? ⟨w.heap.size, 5, none⟩ = some (.slice la l.length lc) ∧ wr.cell? ⟨w.heap.size, 6, none⟩ = some (.slice ka q.length kc)) := fun wr hb => vbox_cells hb
    clear HV ih hk hn hm hs hl hq hin hbk hbl
    unfold V.val at CS CD
    unfold V.val
    unfold V.box at HB CS CD
    dsimp only [V.k, V.b, V.n, V.m, V.s, V.l, V.keys] at *
    have hb1 : Below (w.heap.size + 1) (w.alloc (.cells #[.int .i64 k, .bool b, .int .i64 n, .int .i64 m, .string s, .slice la l.length lc, .slice ka q.length kc] 25)) (w.alloc (.cells #[.int .i64 k, .bool b, .int .i64 n, .int .i64 m, .string s, .slice la l.length lc, .slice ka q.length kc] 25)) := Below.refl _ _
    obtain ⟨k0, k1, k2, k3, k4, k5, k6⟩ := HB.out _ hb1
    go_enter Tryz.func7, Tryz.ntmps7
    go_upto_region 1 with fail
    have HW : Hid (∀ wr, Below (w.heap.size + 1) (w.alloc (.cells #[.int .i64 k, .bool b, .int .i64 n, .int .i64 m, .string s, .slice la l.length lc, .slice ka q.length kc] 25)) wr → Below w.heap.size w wr) := fun wr h => below_box h
    have HWS : Hid (w.heap.size + 1 ≤ (w.alloc (.cells #[.int .i64 k, .bool b, .int .i64 n, .int .i64 m, .string s, .slice la l.length lc, .slice ka q.length kc] 25)).heap.size) := by show _ ≤ _; simp
    generalize w.alloc (.cells #[.int .i64 k, .bool b, .int .i64 n, .int .i64 m, .string s, .slice la l.length lc, .slice ka q.length kc] 25) = WB at *
    refine wp_region_held_drew (S := fun w' => Below (w.heap.size + 1) WB w') (by kernel_rfl) (Below.drew hb1) (fun hSS => ?_)
    refine wpAnyH_take (i := 0) (v := ?_) rfl (by kernel_rfl) (by kernel_rfl) (by kernel_rfl) (fun _ _ _ h => h) (Or.inl ⟨by rfl, ?_⟩) hSS ?_
    rotate_left
    · intro wz hSz
      go_simp
      try with_reducible rfl
    simp only [List.getElem_toArray, List.getElem_cons_zero, Act.put, List.setIfInBounds_toArray, List.set_cons_zero, List.set_cons_succ]
    refine wpAnyH_take (i := 1) (v := ?_) rfl (by kernel_rfl) (by kernel_rfl) (by kernel_rfl) (fun _ _ _ h => h) (Or.inl ⟨by rfl, ?_⟩) hSS ?_
    rotate_left
    · intro wz hSz
      obtain ⟨z0, z1, z2, z3, z4, z5, z6⟩ := HB.out _ hSz
      go_simp
      try with_reducible rfl
    simp only [List.getElem_toArray, List.getElem_cons_zero, List.getElem_cons_succ, Act.put, List.setIfInBounds_toArray, List.set_cons_zero, List.set_cons_succ]
    refine wpAnyH_take (i := 2) (v := ?_) rfl (by kernel_rfl) (by kernel_rfl) (by kernel_rfl) (fun _ _ _ h => h) (Or.inl ⟨by rfl, ?_⟩) hSS ?_
    rotate_left
    · intro wz hSz
      go_simp
      try with_reducible rfl
    simp only [List.getElem_toArray, List.getElem_cons_zero, List.getElem_cons_succ, Act.put, List.setIfInBounds_toArray, List.set_cons_zero, List.set_cons_succ]
    refine wpAnyH_take (i := 3) (v := ?_) rfl (by kernel_rfl) (by kernel_rfl) (by kernel_rfl) (fun _ _ _ h => h) (Or.inl ⟨by rfl, ?_⟩) hSS ?_
    rotate_left
    · intro wz hSz
      go_simp
      try with_reducible rfl
    simp only [List.getElem_toArray, List.getElem_cons_zero, List.getElem_cons_succ, Act.put, List.setIfInBounds_toArray, List.set_cons_zero, List.set_cons_succ]
    obtain ⟨M4, hM4⟩ : ∃ M : Int, M = max (IntKind.i64.wrap ((l.length : Int) - 70)) 0 := ⟨_, rfl⟩
    refine wpAnyH_take (i := 4) (v := .int .i64 M4) rfl (by kernel_rfl) (by kernel_rfl) (by kernel_rfl) (fun _ _ _ h => h) (Or.inl ⟨by rfl, ?_⟩) hSS ?_
    · intro wz hSz
      subst hM4
      go_simp
      all_goals (first | (with_reducible rfl) | omega)
    clear hM4
    simp only [List.getElem_toArray, List.getElem_cons_zero, List.getElem_cons_succ, Act.put, List.setIfInBounds_toArray, List.set_cons_zero, List.set_cons_succ]
    refine wpAnyH_take (i := 5) (v := ?_) rfl (by kernel_rfl) (by kernel_rfl) (by kernel_rfl) (fun _ _ _ h => h) (Or.inl ⟨by rfl, ?_⟩) hSS ?_
    rotate_left
    · intro wz hSz
      go_simp
      try with_reducible rfl
    simp only [List.getElem_toArray, List.getElem_cons_zero, List.getElem_cons_succ, Act.put, List.setIfInBounds_toArray, List.set_cons_zero, List.set_cons_succ]
    refine wpAnyH_take (i := 6) (v := ?_) rfl (by kernel_rfl) (by kernel_rfl) (by kernel_rfl) (fun _ _ _ h => h) (Or.inl ⟨by rfl, ?_⟩) hSS ?_
    rotate_left
    · intro wz hSz
      obtain ⟨z0, z1, z2, z3, z4, z5, z6⟩ := HB.out _ hSz
      go_simp
      try with_reducible rfl
    simp only [List.getElem_toArray, List.getElem_cons_zero, List.getElem_cons_succ, Act.put, List.setIfInBounds_toArray, List.set_cons_zero, List.set_cons_succ]
    refine wpAnyH_take (i := 7) (v := ?_) rfl (by kernel_rfl) (by kernel_rfl) (by kernel_rfl) (fun _ _ _ h => h) (Or.inl ⟨by rfl, ?_⟩) hSS ?_
    rotate_left
    · intro wz hSz
      go_simp
      try with_reducible rfl
    simp only [List.getElem_toArray, List.getElem_cons_zero, List.getElem_cons_succ, Act.put, List.setIfInBounds_toArray, List.set_cons_zero, List.set_cons_succ]
    refine wpAnyH_take (i := 8) (v := ?_) rfl (by kernel_rfl) (by kernel_rfl) (by kernel_rfl) (fun _ _ _ h => h) (Or.inl ⟨by rfl, ?_⟩) hSS ?_
    rotate_left
    · intro wz hSz
      go_simp
      try with_reducible rfl
    simp only [List.getElem_toArray, List.getElem_cons_zero, List.getElem_cons_succ, Act.put, List.setIfInBounds_toArray, List.set_cons_zero, List.set_cons_succ]
    obtain ⟨M9, hM9⟩ : ∃ M : Int, M = max (IntKind.i64.wrap ((q.length : Int) - 70)) 0 := ⟨_, rfl⟩
    refine wpAnyH_take (i := 9) (v := .int .i64 M9) rfl (by kernel_rfl) (by kernel_rfl) (by kernel_rfl) (fun _ _ _ h => h) (Or.inl ⟨by rfl, ?_⟩) hSS ?_
    · intro wz hSz
      subst hM9
      go_simp
      all_goals (first | (with_reducible rfl) | omega)
    clear hM9
    simp only [List.getElem_toArray, List.getElem_cons_zero, List.getElem_cons_succ, Act.put, List.setIfInBounds_toArray, List.set_cons_zero, List.set_cons_succ]
    refine wpAnyH_take (i := 10) (v := ?_) rfl (by kernel_rfl) (by kernel_rfl) (by kernel_rfl) (fun _ _ _ h => h) (Or.inl ⟨by rfl, ?_⟩) hSS ?_
    rotate_left
    · intro wz hSz
      go_simp
      try with_reducible rfl
    simp only [List.getElem_toArray, List.getElem_cons_zero, List.getElem_cons_succ, Act.put, List.setIfInBounds_toArray, List.set_cons_zero, List.set_cons_succ]
    refine wpAnyH_take (i := 11) (v := ?_) rfl (by kernel_rfl) (by kernel_rfl) (by kernel_rfl) (fun _ _ _ h => h) (Or.inl ⟨by rfl, ?_⟩) hSS ?_
    rotate_left
    · intro wz hSz
      go_simp
      try with_reducible rfl
    simp only [List.getElem_toArray, List.getElem_cons_zero, List.getElem_cons_succ, Act.put, List.setIfInBounds_toArray, List.set_cons_zero, List.set_cons_succ]
    refine wpAnyH_take (i := 12) (v := ?_) rfl (by kernel_rfl) (by kernel_rfl) (by kernel_rfl) (fun _ _ _ h => h) (Or.inl ⟨by rfl, ?_⟩) hSS ?_
    rotate_left
    · intro wz hSz
      obtain ⟨z0, z1, z2, z3, z4, z5, z6⟩ := HB.out _ hSz
      go_simp
      try with_reducible rfl
    simp only [List.getElem_toArray, List.getElem_cons_zero, List.getElem_cons_succ, Act.put, List.setIfInBounds_toArray, List.set_cons_zero, List.set_cons_succ]
    refine wpAnyH_take (i := 13) (v := ?_) rfl (by kernel_rfl) (by kernel_rfl) (by kernel_rfl) (fun _ _ _ h => h) (Or.inl ⟨by rfl, ?_⟩) hSS ?_
    rotate_left
    · intro wz hSz
      go_simp
      try with_reducible rfl
    simp only [List.getElem_toArray, List.getElem_cons_zero, List.getElem_cons_succ, Act.put, List.setIfInBounds_toArray, List.set_cons_zero, List.set_cons_succ]
    refine wpAnyH_take (i := 14) (v := ?_) rfl (by kernel_rfl) (by kernel_rfl) (by kernel_rfl) (fun _ _ _ h => h) (Or.inl ⟨by rfl, ?_⟩) hSS ?_
    rotate_left
    · intro wz hSz
      go_simp
      try with_reducible rfl
    simp only [List.getElem_toArray, List.getElem_cons_zero, List.getElem_cons_succ, Act.put, List.setIfInBounds_toArray, List.set_cons_zero, List.set_cons_succ]
    obtain ⟨M15, hM15⟩ : ∃ M : Int, M = max (IntKind.i64.wrap ((s.size : Int) - 300)) 0 := ⟨_, rfl⟩
    refine wpAnyH_take (i := 15) (v := .int .i64 M15) rfl (by kernel_rfl) (by kernel_rfl) (by kernel_rfl) (fun _ _ _ h => h) (Or.inl ⟨by rfl, ?_⟩) hSS ?_
    · intro wz hSz
      subst hM15
      go_simp
      all_goals (first | (with_reducible rfl) | omega)
    clear hM15
    simp only [List.getElem_toArray, List.getElem_cons_zero, List.getElem_cons_succ, Act.put, List.setIfInBounds_toArray, List.set_cons_zero, List.set_cons_succ]
    refine wpAnyH_take (i := 16) (v := ?_) rfl (by kernel_rfl) (by kernel_rfl) (by kernel_rfl) (fun _ _ _ h => h) (Or.inl ⟨by rfl, ?_⟩) hSS ?_
    rotate_left
    · intro wz hSz
      go_simp
      try with_reducible rfl
    simp only [List.getElem_toArray, List.getElem_cons_zero, List.getElem_cons_succ, Act.put, List.setIfInBounds_toArray, List.set_cons_zero, List.set_cons_succ]
    refine wpAnyH_take (i := 17) (v := ?_) rfl (by kernel_rfl) (by kernel_rfl) (by kernel_rfl) (fun _ _ _ h => h) (Or.inl ⟨by rfl, ?_⟩) hSS ?_
    rotate_left
    · intro wz hSz
      obtain ⟨z0, z1, z2, z3, z4, z5, z6⟩ := HB.out _ hSz
      go_simp
      try with_reducible rfl
    simp only [List.getElem_toArray, List.getElem_cons_zero, List.getElem_cons_succ, Act.put, List.setIfInBounds_toArray, List.set_cons_zero, List.set_cons_succ]
    refine wpAnyH_take (i := 22) (v := ?_) rfl (by kernel_rfl) (by kernel_rfl) (by kernel_rfl) (fun _ _ _ h => h) (Or.inl ⟨by rfl, ?_⟩) hSS ?_
    rotate_left
    · intro wz hSz
      obtain ⟨z0, z1, z2, z3, z4, z5, z6⟩ := HB.out _ hSz
      go_simp
      try with_reducible rfl
    simp only [List.getElem_toArray, List.getElem_cons_zero, List.getElem_cons_succ, Act.put, List.setIfInBounds_toArray, List.set_cons_zero, List.set_cons_succ]
    refine wpAnyH_ready (rs := [18]) (by kernel_rfl) (by simp) ?_
    refine AllReadyH.cons rfl (fun K hK => ?_) AllReadyH.nil
    go_simp
    go_wp2_with (go_at_call 21; refine (CS.out _ hSS).mono ?_; rintro e wX ⟨⟨gX, rfl⟩, hbX⟩)
    refine hK.out _ _ hbX (fun hSS => ?_)
    clear hK K
    refine wpAnyH_take (i := 19) (v := ?_) rfl (by kernel_rfl) (by kernel_rfl) (by kernel_rfl) (fun _ _ _ h => h) (Or.inl ⟨by rfl, ?_⟩) hSS ?_
    rotate_left
    · intro wz hSz
      go_simp
      try with_reducible rfl
    simp only [List.getElem_toArray, List.getElem_cons_zero, List.getElem_cons_succ, Act.put, List.setIfInBounds_toArray, List.set_cons_zero, List.set_cons_succ]
    obtain ⟨M20, hM20⟩ : ∃ M : Int, M = max (IntKind.i64.wrap (gX - 200)) 0 := ⟨_, rfl⟩
    refine wpAnyH_take (i := 20) (v := .int .i64 M20) rfl (by kernel_rfl) (by kernel_rfl) (by kernel_rfl) (fun _ _ _ h => h) (Or.inl ⟨by rfl, ?_⟩) hSS ?_
    · intro wz hSz
      subst hM20
      go_simp
      all_goals (first | (with_reducible rfl) | omega)
    clear hM20
    simp only [List.getElem_toArray, List.getElem_cons_zero, List.getElem_cons_succ, Act.put, List.setIfInBounds_toArray, List.set_cons_zero, List.set_cons_succ]
    refine wpAnyH_take (i := 21) (v := ?_) rfl (by kernel_rfl) (by kernel_rfl) (by kernel_rfl) (fun _ _ _ h => h) (Or.inl ⟨by rfl, ?_⟩) hSS ?_
    rotate_left
    · intro wz hSz
      go_simp
      try with_reducible rfl
    simp only [List.getElem_toArray, List.getElem_cons_zero, List.getElem_cons_succ, Act.put, List.setIfInBounds_toArray, List.set_cons_zero, List.set_cons_succ]
    refine wpAnyH_ready (rs := [23]) (by kernel_rfl) (by simp) ?_
    refine AllReadyH.cons rfl (fun K hK => ?_) AllReadyH.nil
    go_simp
    go_wp2_with (go_at_call 22; refine (CD.out _ hSS).mono ?_; rintro e wY ⟨⟨gY, rfl⟩, hbY⟩)
    refine hK.out _ _ hbY (fun hSS => ?_)
    clear hK K
    refine wpAnyH_take (i := 24) (v := ?_) rfl (by kernel_rfl) (by kernel_rfl) (by kernel_rfl) (fun _ _ _ h => h) (Or.inl ⟨by rfl, ?_⟩) hSS ?_
    rotate_left
    · intro wz hSz
      go_simp
      try with_reducible rfl
    simp only [List.getElem_toArray, List.getElem_cons_zero, List.getElem_cons_succ, Act.put, List.setIfInBounds_toArray, List.set_cons_zero, List.set_cons_succ]
    obtain ⟨M25, hM25⟩ : ∃ M : Int, M = max (IntKind.i64.wrap (gY - 12)) 0 := ⟨_, rfl⟩
    refine wpAnyH_take (i := 25) (v := .int .i64 M25) rfl (by kernel_rfl) (by kernel_rfl) (by kernel_rfl) (fun _ _ _ h => h) (Or.inl ⟨by rfl, ?_⟩) hSS ?_
    · intro wz hSz
      subst hM25
      go_simp
      all_goals (first | (with_reducible rfl) | omega)
    clear hM25
    simp only [List.getElem_toArray, List.getElem_cons_zero, List.getElem_cons_succ, Act.put, List.setIfInBounds_toArray, List.set_cons_zero, List.set_cons_succ]
    refine wpAnyH_take (i := 26) (v := ?_) rfl (by kernel_rfl) (by kernel_rfl) (by kernel_rfl) (fun _ _ _ h => h) (Or.inl ⟨by rfl, ?_⟩) hSS ?_
    rotate_left
    · intro wz hSz
      go_simp
      try with_reducible rfl
    simp only [List.getElem_toArray, List.getElem_cons_zero, List.getElem_cons_succ, Act.put, List.setIfInBounds_toArray, List.set_cons_zero, List.set_cons_succ]
    refine wpAnyH_take (i := 27) (v := ?_) rfl (by kernel_rfl) (by kernel_rfl) (by kernel_rfl) (fun _ _ _ h => h) (Or.inl ⟨by rfl, ?_⟩) hSS ?_
    rotate_left
    · intro wz hSz
      go_simp
      try with_reducible rfl
    simp only [List.getElem_toArray, List.getElem_cons_zero, List.getElem_cons_succ, Act.put, List.setIfInBounds_toArray, List.set_cons_zero, List.set_cons_succ]
    refine wpAnyH_done (by kernel_rfl) ?_ _
    clear CS CD hb1 k0 k1 k2 k3 k4 k5 k6
    go_wp2_with fail
    go_loopw [3, 4] (fun sn si wr => ∃ (j : Nat) (A : Int), j ≤ q.length ∧ si = .int .i64 j ∧ sn = .int .i64 A ∧ Below (w.heap.size + 1) WB wr) (fun _ si _ => q.length - (intOf si).toNat)
    case atStart => exact ⟨0, _, by omega, rfl, rfl, hbY⟩
    case round =>
      obtain ⟨j, A, hj, rfl, rfl, hb⟩ := hrel
      obtain ⟨x0, x1, x2, x3, x4, x5, x6⟩ := HB.out _ hb
      have hbw := hb0.trans ((HW.out _ hb).mono hb0.size)
      by_cases hlt : j < q.length ∧ j < 80
      · obtain ⟨hlt, h80⟩ := hlt
        obtain ⟨kb, ko, rfl, -, hcc⟩ := (hkeys.below hbw).2 (by intro e; subst e; simp at hlt)
        have hkc := hcc j hlt
        generalize q[j] = y at *
        clear HB CG hc hcc hkeys
        go_wp2_with fail
        go_roundw
        case rel => exact ⟨j + 1, _, by omega, by go_num, rfl, hb⟩
        case measure => simp [intOf]; omega
      · clear hkeys
        by_cases hlt2 : j < q.length
        · have h80 : ¬ (j : Int) < 80 := by omega
          clear hlt
          go_wp2_with fail
          go_loopw [3, 5] (fun sn si wr => ∃ (j : Nat) (A : Int), j ≤ l.length ∧ si = .int .i64 j ∧ sn = .int .i64 A ∧ Below (w.heap.size + 1) WB wr) (fun _ si _ => l.length - (intOf si).toNat)
          case atStart => exact ⟨0, _, by omega, rfl, rfl, hb⟩
          case round => 
            clear x0 x1 x2 x3 x4 x5 x6 hb hbw h80 hlt2 hj
            obtain ⟨j2, A2, hj2, rfl, rfl, hb⟩ := hrel
            obtain ⟨x0, x1, x2, x3, x4, x5, x6⟩ := HB.out _ hb
            have hbw := hb0.trans ((HW.out _ hb).mono hb0.size)
            by_cases hlt : j2 < l.length
            · obtain ⟨bl, off, rfl, -, hcc⟩ := hc (by intro e; subst e; simp at hlt)
              obtain ⟨c0, c1, c2, c3, c4, c5, c6⟩ := (hcc j2 hlt).below hbw
              have C := CG.out _ j2 hlt hbw
              have hW2 := HW.out _ hb
              clear hcc hc CG HB
              generalize l[j2] = x at *
              generalize P j2 = xp at *
              unfold V.val at C
              by_cases hA : A2 = 0
              · subst hA
                go_wp2_with fail
                refine C.mono ?_
                rintro e w5 ⟨⟨g5, rfl⟩, hb5⟩
                have hb5' := hb.trans (hb5.mono (by have := hb.size; have := HWS.out; omega))
                clear C
                go_wp2_with fail
                go_roundw
                case rel => exact ⟨j2 + 1, _, by omega, by go_num, rfl, hb5'⟩
                case measure => simp [intOf]; omega
              · have hA' : (A2 == 0) = false := by simpa using hA
                clear C
                go_wp2_with fail
                go_ret
                exact ⟨⟨A2, rfl⟩, hW2⟩
            · have hW2 := HW.out _ hb
              clear CG HB hc
              go_wp2_with fail
              go_ret
              exact ⟨⟨A2, rfl⟩, hW2⟩
        · clear hlt
          go_wp2_with fail
          go_loopw [3, 5] (fun sn si wr => ∃ (j : Nat) (A : Int), j ≤ l.length ∧ si = .int .i64 j ∧ sn = .int .i64 A ∧ Below (w.heap.size + 1) WB wr) (fun _ si _ => l.length - (intOf si).toNat)
          case atStart => exact ⟨0, _, by omega, rfl, rfl, hb⟩
          case round => 
            clear x0 x1 x2 x3 x4 x5 x6 hb hbw hlt2 hj
            obtain ⟨j2, A2, hj2, rfl, rfl, hb⟩ := hrel
            obtain ⟨x0, x1, x2, x3, x4, x5, x6⟩ := HB.out _ hb
            have hbw := hb0.trans ((HW.out _ hb).mono hb0.size)
            by_cases hlt : j2 < l.length
            · obtain ⟨bl, off, rfl, -, hcc⟩ := hc (by intro e; subst e; simp at hlt)
              obtain ⟨c0, c1, c2, c3, c4, c5, c6⟩ := (hcc j2 hlt).below hbw
              have C := CG.out _ j2 hlt hbw
              have hW2 := HW.out _ hb
              clear hcc hc CG HB
              generalize l[j2] = x at *
              generalize P j2 = xp at *
              unfold V.val at C
              by_cases hA : A2 = 0
              · subst hA
                go_wp2_with fail
                refine C.mono ?_
                rintro e w5 ⟨⟨g5, rfl⟩, hb5⟩
                have hb5' := hb.trans (hb5.mono (by have := hb.size; have := HWS.out; omega))
                clear C
                go_wp2_with fail
                go_roundw
                case rel => exact ⟨j2 + 1, _, by omega, by go_num, rfl, hb5'⟩
                case measure => simp [intOf]; omega
              · have hA' : (A2 == 0) = false := by simpa using hA
                clear C
                go_wp2_with fail
                go_ret
                exact ⟨⟨A2, rfl⟩, hW2⟩
            · have hW2 := HW.out _ hb
              clear CG HB hc
              go_wp2_with fail
              go_ret
              exact ⟨⟨A2, rfl⟩, hW2⟩
end Go.Proofs.YtepohbcpepkboaaGreat

