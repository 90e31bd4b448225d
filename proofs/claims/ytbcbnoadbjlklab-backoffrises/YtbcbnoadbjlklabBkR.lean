/- BackoffRises: of any rule, and any number, the law answers true: delays don't fall, and end at the cap; failures in a row are given up behind as many as the rule says. No conditions. -/
import Derived.Test.YtbcbnoadbjlklabBkG
namespace Go.Proofs.Ytbcbnoadbjlklab
open Go.RowKit Go.ChangeShapes Go.WideShapes Go.ChangeAt Go.Joins

set_option maxRecDepth 100000 in
theorem Rul.belowB {w W W' : World} {b c t m : Int} (h : Rul w W b c t m) (hb : Below (w.heap.size + 1) W W') : Rul w W' b c t m :=
  ⟨(hb.block _ (Nat.lt_succ_self _)).trans h.1, h.2.trans (hb.mono (Nat.le_succ _))⟩
set_option maxRecDepth 100000 in
theorem Rul.lt {w W : World} {b c t m : Int} (h : Rul w W b c t m) : w.heap.size < W.heap.size := (Array.getElem?_eq_some_iff.1 h.1).1
set_option maxRecDepth 100000 in
theorem dly_facts {b c t m : Int} (hr : rightB b c t m = true) (k : Int) (hk : 1 ≤ k) : dly b c t m k ≤ dly b c t m (k + 1) ∧ dly b c t m k ≤ c ∧ b ≤ dly b c t m k ∧ dly b c t m 60 = c := by
  obtain ⟨r0, r1, r2, r3, r4, r5, r6⟩ := right_of hr
  have e1 : dly b c t m k = dlyN b c (k - 1).toNat := if_pos ⟨hr, hk⟩
  have e2 : dly b c t m (k + 1) = dlyN b c ((k - 1).toNat + 1) := (if_pos ⟨hr, by omega⟩).trans (by rw [show (k + 1 - 1).toNat = (k - 1).toNat + 1 by omega])
  have e3 : dly b c t m 60 = c := (if_pos ⟨hr, by decide⟩ : _ = dlyN b c 59).trans (dlyN_cap r0 (k := 29) (by have := pow2_29 b r0; omega) (by decide))
  rw [e1, e2, e3]
  generalize (k - 1).toNat = j
  have h1 := pow2_mono b r0 0 j
  have h2 := pow2_pos b r0 j
  simp only [dlyN]
  rw [pow2_step]
  simp only [Nat.zero_add, Int.pow_zero, Int.mul_one] at h1
  generalize b * 2 ^ j = P at *
  refine ⟨?_, ?_, ?_, ?_⟩ <;> first | trivial | omega
set_option maxRecDepth 100000 in
set_option maxHeartbeats 3200000 in
theorem rises_walk (b c t m n : Int) (w : World) (hn : I64 n) : Calls Try.prog 4 #[.agg #[.int .i64 b, .int .i64 c, .int .i64 t, .int .i64 m], .int .i64 n] w fun e w' => e = .returned (.bool true) ∧ Below w.heap.size w w' := by
  have h0 := Rul.start w b c t m
  by_cases hr : rightB b c t m = true
  · have CR : Hid (∀ W, Calls Try.prog 11 #[.agg #[.int .i64 b, .int .i64 c, .int .i64 t, .int .i64 m]] W fun e w' => e = .returned (.bool true) ∧ Below W.heap.size W w') := fun W => by have := right_any b c t m W; rwa [hr] at this
    have CN : Hid (∀ W, Calls Try.prog 10 #[.agg #[.int .i64 b, .int .i64 c, .int .i64 t, .int .i64 m]] W fun e w' => (∃ B, W.heap.size < B ∧ e = .returned (.tuple #[.pointer (some ⟨B, 0, none⟩), .int .i64 0]) ∧ Sta w' B b c t m 0 0) ∧ Below W.heap.size W w') := fun W => by have := bnew_any b c t m W; simpa only [if_pos hr] using this
    obtain ⟨hn0, hn1⟩ := hn
    go_enter Try.func4, Try.ntmps4
    go_wp2_with fail
    refine (CR.out _).mono ?_
    rintro e w1 ⟨rfl, hb⟩
    have h1 := h0.below hb
    clear h0 hb CR
    go_wp2_with fail
    refine (awake15_any _).mono ?_
    rintro e w2 ⟨rfl, hb⟩
    have h2 := h1.below hb
    clear h1 hb
    go_upto_region 3 with fail
    go_cut [5] from 26 to 28 (fun s5 wx => ∃ K : Int, s5 = .int .i64 K ∧ 1 ≤ K ∧ K ≤ 1000000 ∧ wx = w2)
    case first =>
      go_wp2_with fail
      all_goals go_meet
      all_goals exact ⟨_, rfl, by omega, by omega, rfl⟩
    case rest =>
    obtain ⟨K, rfl, hK0, hK1, rfl⟩ := hcut
    obtain ⟨f1, f2, f3, f4⟩ := dly_facts hr K hK0
    have CK : Hid (∀ W, Calls Try.prog 12 #[.agg #[.int .i64 b, .int .i64 c, .int .i64 t, .int .i64 m], .int .i64 K] W fun e w' => e = .returned (.int .i64 (dly b c t m K)) ∧ Below W.heap.size W w') := fun W => delay_any b c t m _ ⟨by omega, by omega⟩ W
    have CK1 : Hid (∀ W, Calls Try.prog 12 #[.agg #[.int .i64 b, .int .i64 c, .int .i64 t, .int .i64 m], .int .i64 (K + 1)] W fun e w' => e = .returned (.int .i64 (dly b c t m (K + 1))) ∧ Below W.heap.size W w') := fun W => delay_any b c t m _ ⟨by omega, by omega⟩ W
    have C60 : Hid (∀ W, Calls Try.prog 12 #[.agg #[.int .i64 b, .int .i64 c, .int .i64 t, .int .i64 m], .int .i64 60] W fun e w' => e = .returned (.int .i64 c) ∧ Below W.heap.size W w') := fun W => by have := delay_any b c t m 60 ⟨by decide, by decide⟩ W; rwa [f4] at this
    have hwK : IntKind.i64.wrap (K + 1) = K + 1 := IntWalk.i64_in _ ⟨by omega, by omega⟩
    generalize dly b c t m K = Dk at *
    generalize dly b c t m (K + 1) = Dk1 at *
    have d1 : decide (Dk1 < Dk) = false := decide_eq_false (by omega)
    have d2 : decide (c < Dk) = false := decide_eq_false (by omega)
    have d3 : decide (Dk < b) = false := decide_eq_false (by omega)
    clear f4
    go_upto_region 4 with fail
    refine wp_region_held_drew (S := fun w' => Rul w w' b c t m) (by kernel_rfl) h2.drew (fun hSS => ?_)
    refine wpAnyH_take (i := 0) (v := ?_) rfl (by kernel_rfl) (by kernel_rfl) (by kernel_rfl) (fun _ _ _ h => h) (Or.inl ⟨by rfl, ?_⟩) hSS ?_
    rotate_left
    · intro wz hSz
      obtain ⟨z0, z1, z2, z3⟩ := hSz.cells
      go_simp
      try with_reducible rfl
    simp only [List.getElem_toArray, List.getElem_cons_zero, Act.put, List.setIfInBounds_toArray, List.set_cons_zero, List.set_cons_succ]
    refine wpAnyH_take (i := 1) (v := ?_) rfl (by kernel_rfl) (by kernel_rfl) (by kernel_rfl) (fun _ _ _ h => h) (Or.inl ⟨by rfl, ?_⟩) hSS ?_
    rotate_left
    · intro wz hSz
      go_simp
      try with_reducible rfl
    simp only [List.getElem_toArray, List.getElem_cons_zero, List.getElem_cons_succ, Act.put, List.setIfInBounds_toArray, List.set_cons_zero, List.set_cons_succ]
    refine wpAnyH_take (i := 3) (v := ?_) rfl (by kernel_rfl) (by kernel_rfl) (by kernel_rfl) (fun _ _ _ h => h) (Or.inl ⟨by rfl, ?_⟩) hSS ?_
    rotate_left
    · intro wz hSz
      obtain ⟨z0, z1, z2, z3⟩ := hSz.cells
      go_simp
      try with_reducible rfl
    simp only [List.getElem_toArray, List.getElem_cons_zero, List.getElem_cons_succ, Act.put, List.setIfInBounds_toArray, List.set_cons_zero, List.set_cons_succ]
    refine wpAnyH_take (i := 4) (v := ?_) rfl (by kernel_rfl) (by kernel_rfl) (by kernel_rfl) (fun _ _ _ h => h) (Or.inl ⟨by rfl, ?_⟩) hSS ?_
    rotate_left
    · intro wz hSz
      go_simp
      try with_reducible rfl
    simp only [List.getElem_toArray, List.getElem_cons_zero, List.getElem_cons_succ, Act.put, List.setIfInBounds_toArray, List.set_cons_zero, List.set_cons_succ]
    refine wpAnyH_take (i := 5) (v := ?_) rfl (by kernel_rfl) (by kernel_rfl) (by kernel_rfl) (fun _ _ _ h => h) (Or.inl ⟨by rfl, ?_⟩) hSS ?_
    rotate_left
    · intro wz hSz
      go_simp
      try with_reducible rfl
    simp only [List.getElem_toArray, List.getElem_cons_zero, List.getElem_cons_succ, Act.put, List.setIfInBounds_toArray, List.set_cons_zero, List.set_cons_succ]
    refine wpAnyH_ready (rs := [2]) (by kernel_rfl) (by simp) (AllReadyH.cons rfl (fun K hK => ?_) AllReadyH.nil)
    go_simp
    go_at_call 12
    refine (CK.out _).mono ?_
    rintro e wk ⟨rfl, hbk⟩
    go_simp
    refine hK.out _ _ (hSS.below hbk) (fun hSS => ?_)
    clear hK hbk
    refine wpAnyH_ready (rs := [6]) (by kernel_rfl) (by simp) (AllReadyH.cons rfl (fun K hK => ?_) AllReadyH.nil)
    go_simp
    go_at_call 12
    refine (CK1.out _).mono ?_
    rintro e wk ⟨rfl, hbk⟩
    go_simp
    refine hK.out _ _ (hSS.below hbk) (fun hSS => ?_)
    clear hK hbk
    refine wpAnyH_take (i := 7) (v := .bool false) rfl (by kernel_rfl) (by kernel_rfl) (by kernel_rfl) (fun _ _ _ h => h) (Or.inl ⟨by rfl, ?_⟩) hSS ?_
    · intro wz hSz
      go_simp
    simp only [List.getElem_toArray, List.getElem_cons_zero, List.getElem_cons_succ, Act.put, List.setIfInBounds_toArray, List.set_cons_zero, List.set_cons_succ]
    refine wpAnyH_take (i := 8) (v := .bool false) rfl (by kernel_rfl) (by kernel_rfl) (by kernel_rfl) (fun _ _ _ h => h) (Or.inl ⟨by rfl, ?_⟩) hSS ?_
    · intro wz hSz
      go_simp
    simp only [List.getElem_toArray, List.getElem_cons_zero, List.getElem_cons_succ, Act.put, List.setIfInBounds_toArray, List.set_cons_zero, List.set_cons_succ]
    refine wpAnyH_take (i := 9) (v := ?_) rfl (by kernel_rfl) (by kernel_rfl) (by kernel_rfl) (fun _ _ _ h => h) (Or.inl ⟨by rfl, ?_⟩) hSS ?_
    rotate_left
    · intro wz hSz
      obtain ⟨z0, z1, z2, z3⟩ := hSz.cells
      go_simp
      try with_reducible rfl
    simp only [List.getElem_toArray, List.getElem_cons_zero, List.getElem_cons_succ, Act.put, List.setIfInBounds_toArray, List.set_cons_zero, List.set_cons_succ]
    refine wpAnyH_take (i := 10) (v := ?_) rfl (by kernel_rfl) (by kernel_rfl) (by kernel_rfl) (fun _ _ _ h => h) (Or.inl ⟨by rfl, ?_⟩) hSS ?_
    rotate_left
    · intro wz hSz
      go_simp
      try with_reducible rfl
    simp only [List.getElem_toArray, List.getElem_cons_zero, List.getElem_cons_succ, Act.put, List.setIfInBounds_toArray, List.set_cons_zero, List.set_cons_succ]
    refine wpAnyH_take (i := 12) (v := ?_) rfl (by kernel_rfl) (by kernel_rfl) (by kernel_rfl) (fun _ _ _ h => h) (Or.inl ⟨by rfl, ?_⟩) hSS ?_
    rotate_left
    · intro wz hSz
      go_simp
      try with_reducible rfl
    simp only [List.getElem_toArray, List.getElem_cons_zero, List.getElem_cons_succ, Act.put, List.setIfInBounds_toArray, List.set_cons_zero, List.set_cons_succ]
    refine wpAnyH_take (i := 13) (v := ?_) rfl (by kernel_rfl) (by kernel_rfl) (by kernel_rfl) (fun _ _ _ h => h) (Or.inl ⟨by rfl, ?_⟩) hSS ?_
    rotate_left
    · intro wz hSz
      obtain ⟨z0, z1, z2, z3⟩ := hSz.cells
      go_simp
      try with_reducible rfl
    simp only [List.getElem_toArray, List.getElem_cons_zero, List.getElem_cons_succ, Act.put, List.setIfInBounds_toArray, List.set_cons_zero, List.set_cons_succ]
    refine wpAnyH_ready (rs := [11]) (by kernel_rfl) (by simp) (AllReadyH.cons rfl (fun K hK => ?_) AllReadyH.nil)
    refine step_wanted (by rfl) ?_
    simp only [List.getElem_toArray, List.getElem_cons_zero, List.getElem_cons_succ]
    go_simp
    go_at_call 12
    refine (CK.out _).mono ?_
    rintro e wk ⟨rfl, hbk⟩
    go_simp
    refine hK.out _ _ (hSS.below hbk) (fun hSS => ?_)
    clear hK hbk
    refine wpAnyH_take (i := 14) (v := .bool false) rfl (by kernel_rfl) (by kernel_rfl) (by kernel_rfl) (fun _ _ _ h => h) (Or.inl ⟨by rfl, ?_⟩) hSS ?_
    · intro wz hSz
      go_simp
    simp only [List.getElem_toArray, List.getElem_cons_zero, List.getElem_cons_succ, Act.put, List.setIfInBounds_toArray, List.set_cons_zero, List.set_cons_succ]
    refine wpAnyH_take (i := 15) (v := .bool false) rfl (by kernel_rfl) (by kernel_rfl) (by kernel_rfl) (fun _ _ _ h => h) (Or.inl ⟨by rfl, ?_⟩) hSS ?_
    · intro wz hSz
      go_simp
    simp only [List.getElem_toArray, List.getElem_cons_zero, List.getElem_cons_succ, Act.put, List.setIfInBounds_toArray, List.set_cons_zero, List.set_cons_succ]
    refine wpAnyH_take (i := 16) (v := .bool false) rfl (by kernel_rfl) (by kernel_rfl) (by kernel_rfl) (fun _ _ _ h => h) (Or.inl ⟨by rfl, ?_⟩) hSS ?_
    · intro wz hSz
      go_simp
    simp only [List.getElem_toArray, List.getElem_cons_zero, List.getElem_cons_succ, Act.put, List.setIfInBounds_toArray, List.set_cons_zero, List.set_cons_succ]
    refine wpAnyH_take (i := 17) (v := ?_) rfl (by kernel_rfl) (by kernel_rfl) (by kernel_rfl) (fun _ _ _ h => h) (Or.inl ⟨by rfl, ?_⟩) hSS ?_
    rotate_left
    · intro wz hSz
      obtain ⟨z0, z1, z2, z3⟩ := hSz.cells
      go_simp
      try with_reducible rfl
    simp only [List.getElem_toArray, List.getElem_cons_zero, List.getElem_cons_succ, Act.put, List.setIfInBounds_toArray, List.set_cons_zero, List.set_cons_succ]
    refine wpAnyH_take (i := 18) (v := ?_) rfl (by kernel_rfl) (by kernel_rfl) (by kernel_rfl) (fun _ _ _ h => h) (Or.inl ⟨by rfl, ?_⟩) hSS ?_
    rotate_left
    · intro wz hSz
      go_simp
      try with_reducible rfl
    simp only [List.getElem_toArray, List.getElem_cons_zero, List.getElem_cons_succ, Act.put, List.setIfInBounds_toArray, List.set_cons_zero, List.set_cons_succ]
    refine wpAnyH_take (i := 20) (v := ?_) rfl (by kernel_rfl) (by kernel_rfl) (by kernel_rfl) (fun _ _ _ h => h) (Or.inl ⟨by rfl, ?_⟩) hSS ?_
    rotate_left
    · intro wz hSz
      go_simp
      try with_reducible rfl
    simp only [List.getElem_toArray, List.getElem_cons_zero, List.getElem_cons_succ, Act.put, List.setIfInBounds_toArray, List.set_cons_zero, List.set_cons_succ]
    refine wpAnyH_take (i := 21) (v := ?_) rfl (by kernel_rfl) (by kernel_rfl) (by kernel_rfl) (fun _ _ _ h => h) (Or.inl ⟨by rfl, ?_⟩) hSS ?_
    rotate_left
    · intro wz hSz
      obtain ⟨z0, z1, z2, z3⟩ := hSz.cells
      go_simp
      try with_reducible rfl
    simp only [List.getElem_toArray, List.getElem_cons_zero, List.getElem_cons_succ, Act.put, List.setIfInBounds_toArray, List.set_cons_zero, List.set_cons_succ]
    refine wpAnyH_ready (rs := [19]) (by kernel_rfl) (by simp) (AllReadyH.cons rfl (fun K hK => ?_) AllReadyH.nil)
    refine step_wanted (by rfl) ?_
    simp only [List.getElem_toArray, List.getElem_cons_zero, List.getElem_cons_succ]
    go_simp
    go_at_call 12
    refine (CK.out _).mono ?_
    rintro e wk ⟨rfl, hbk⟩
    go_simp
    refine hK.out _ _ (hSS.below hbk) (fun hSS => ?_)
    clear hK hbk
    refine wpAnyH_take (i := 22) (v := .bool false) rfl (by kernel_rfl) (by kernel_rfl) (by kernel_rfl) (fun _ _ _ h => h) (Or.inl ⟨by rfl, ?_⟩) hSS ?_
    · intro wz hSz
      go_simp
    simp only [List.getElem_toArray, List.getElem_cons_zero, List.getElem_cons_succ, Act.put, List.setIfInBounds_toArray, List.set_cons_zero, List.set_cons_succ]
    refine wpAnyH_take (i := 23) (v := .bool false) rfl (by kernel_rfl) (by kernel_rfl) (by kernel_rfl) (fun _ _ _ h => h) (Or.inl ⟨by rfl, ?_⟩) hSS ?_
    · intro wz hSz
      go_simp
    simp only [List.getElem_toArray, List.getElem_cons_zero, List.getElem_cons_succ, Act.put, List.setIfInBounds_toArray, List.set_cons_zero, List.set_cons_succ]
    refine wpAnyH_take (i := 24) (v := .bool false) rfl (by kernel_rfl) (by kernel_rfl) (by kernel_rfl) (fun _ _ _ h => h) (Or.inl ⟨by rfl, ?_⟩) hSS ?_
    · intro wz hSz
      go_simp
    simp only [List.getElem_toArray, List.getElem_cons_zero, List.getElem_cons_succ, Act.put, List.setIfInBounds_toArray, List.set_cons_zero, List.set_cons_succ]
    refine wpAnyH_take (i := 25) (v := ?_) rfl (by kernel_rfl) (by kernel_rfl) (by kernel_rfl) (fun _ _ _ h => h) (Or.inl ⟨by rfl, ?_⟩) hSS ?_
    rotate_left
    · intro wz hSz
      obtain ⟨z0, z1, z2, z3⟩ := hSz.cells
      go_simp
      try with_reducible rfl
    simp only [List.getElem_toArray, List.getElem_cons_zero, List.getElem_cons_succ, Act.put, List.setIfInBounds_toArray, List.set_cons_zero, List.set_cons_succ]
    refine wpAnyH_take (i := 27) (v := ?_) rfl (by kernel_rfl) (by kernel_rfl) (by kernel_rfl) (fun _ _ _ h => h) (Or.inl ⟨by rfl, ?_⟩) hSS ?_
    rotate_left
    · intro wz hSz
      go_simp
      try with_reducible rfl
    simp only [List.getElem_toArray, List.getElem_cons_zero, List.getElem_cons_succ, Act.put, List.setIfInBounds_toArray, List.set_cons_zero, List.set_cons_succ]
    refine wpAnyH_take (i := 28) (v := ?_) rfl (by kernel_rfl) (by kernel_rfl) (by kernel_rfl) (fun _ _ _ h => h) (Or.inl ⟨by rfl, ?_⟩) hSS ?_
    rotate_left
    · intro wz hSz
      obtain ⟨z0, z1, z2, z3⟩ := hSz.cells
      go_simp
      try with_reducible rfl
    simp only [List.getElem_toArray, List.getElem_cons_zero, List.getElem_cons_succ, Act.put, List.setIfInBounds_toArray, List.set_cons_zero, List.set_cons_succ]
    refine wpAnyH_ready (rs := [26]) (by kernel_rfl) (by simp) (AllReadyH.cons rfl (fun K hK => ?_) AllReadyH.nil)
    refine step_wanted (by rfl) ?_
    simp only [List.getElem_toArray, List.getElem_cons_zero, List.getElem_cons_succ]
    go_simp
    go_at_call 12
    refine (C60.out _).mono ?_
    rintro e wk ⟨rfl, hbk⟩
    go_simp
    refine hK.out _ _ (hSS.below hbk) (fun hSS => ?_)
    clear hK hbk
    refine wpAnyH_take (i := 29) (v := .bool false) rfl (by kernel_rfl) (by kernel_rfl) (by kernel_rfl) (fun _ _ _ h => h) (Or.inl ⟨by rfl, ?_⟩) hSS ?_
    · intro wz hSz
      go_simp
    simp only [List.getElem_toArray, List.getElem_cons_zero, List.getElem_cons_succ, Act.put, List.setIfInBounds_toArray, List.set_cons_zero, List.set_cons_succ]
    refine wpAnyH_take (i := 30) (v := .bool false) rfl (by kernel_rfl) (by kernel_rfl) (by kernel_rfl) (fun _ _ _ h => h) (Or.inl ⟨by rfl, ?_⟩) hSS ?_
    · intro wz hSz
      go_simp
    simp only [List.getElem_toArray, List.getElem_cons_zero, List.getElem_cons_succ, Act.put, List.setIfInBounds_toArray, List.set_cons_zero, List.set_cons_succ]
    refine wpAnyH_done (by kernel_rfl) ?_ _
    clear CK CK1 C60 d1 d2 d3 f1 f2 f3 hwK h2
    obtain ⟨r0, r1, r2, r3, r4, r5, r6⟩ := right_of hr
    have h3 := hSS
    clear hSS hr
    obtain ⟨z0, z1, z2, z3⟩ := h3.cells
    go_wp2_with fail
    refine (CN.out _).mono ?_
    rintro e w4 ⟨⟨B, hB, rfl, hS⟩, hb⟩
    have h4 := h3.below hb
    have hBB : w.heap.size + 1 ≤ B := by have := h3.lt; omega
    clear CN h3 hb z0 z1 z2 z3 hB
    go_wp2_with fail
    go_loopw [8, 9] (fun sw si wr => ∃ (i : Nat) (X F S : Int), i ≤ 200 ∧ si = .int .i64 (i : Int) ∧ sw = .int .i64 X ∧ Hid (X = min (i : Int) (t - 1)) ∧ 0 ≤ X ∧ X ≤ 200 ∧ Hid (F = min (i : Int) t) ∧ 0 ≤ F ∧ F ≤ 200 ∧ Hid (0 ≤ S ∧ S ≤ 1152921504606846976) ∧ Sta wr B b c t m S F ∧ Rul w wr b c t m) (fun _ si _ => (200 - intOf si).toNat)
    case atStart => exact ⟨0, 0, 0, 0, by omega, rfl, rfl, (by show _ = _; omega), by omega, by omega, (by show _ = _; omega), by omega, by omega, ⟨by omega, by omega⟩, hS, h4⟩
    case round =>
      clear hS h4
      obtain ⟨i, X, F, S, hi, rfl, rfl, hX, hX0, hX1, hF, hF0, hF1, hSr, hS, h4⟩ := hrel
      by_cases hlt : i < 200
      · go_wp2_with fail
        refine (start_any (i : Int) hS (w.heap.size + 1) hBB).mono ?_
        rintro e w5 ⟨⟨x, rfl⟩, hb5, hS5⟩
        have h5 := h4.belowB hb5
        have hcl : clp (i : Int) = i := by simp only [clp, brought]; omega
        have hS6 : Hid (0 ≤ (if t ≤ F then S else clp (i : Int)) ∧ (if t ≤ F then S else clp (i : Int)) ≤ 1152921504606846976) := by
          have := hSr.out
          show _ ∧ _
          split <;> omega
        have hM : Hid (F < t → clp (i : Int) - (if t ≤ F then S else clp (i : Int)) ≤ m) := fun h => by rw [if_neg (by omega)]; omega
        generalize (if t ≤ F then S else clp (i : Int)) = S' at *
        clear h4 hS hb5 hSr hcl
        go_wp2_with fail
        refine (fail_any (i : Int) hS5 (w.heap.size + 1) hBB hF0 (by omega) hS6.out.1 hS6.out.2 hM.out).mono ?_
        rintro e w6 ⟨⟨y, rfl⟩, hb6, hS7⟩
        have h6 := h5.belowB hb6
        have hF' : Hid ((if t ≤ F then F else F + 1) = min ((i + 1 : Nat) : Int) t) := by
          have := hF.out
          show _ = _
          split <;> omega
        have hFb : 0 ≤ (if t ≤ F then F else F + 1) ∧ (if t ≤ F then F else F + 1) ≤ 200 := by have := hF'.out; omega
        generalize (if t ≤ F then F else F + 1) = F' at *
        clear hb6 hS5 h5 hM
        by_cases hok : F + 1 < t
        · have hdk : decide (F + 1 < t) = true := decide_eq_true hok
          rw [hdk]
          have hX' : Hid (X + 1 = min ((i + 1 : Nat) : Int) (t - 1)) := by
            have := hF.out; have := hX.out
            show _ = _
            omega
          clear hX hF hok hdk
          go_wp2_with fail
          go_roundw
          case rel => exact ⟨i + 1, X + 1, F', S', by omega, by go_num, rfl, hX', by omega, by (have := hX'.out; omega), hF', hFb.1, hFb.2, hS6, hS7, h6⟩
          case measure => simp [intOf]; omega
        · have hdk : decide (F + 1 < t) = false := decide_eq_false hok
          rw [hdk]
          have hX' : Hid (X = min ((i + 1 : Nat) : Int) (t - 1)) := by
            have := hF.out; have := hX.out
            show _ = _
            omega
          clear hX hF hok hdk
          go_wp2_with fail
          go_roundw
          case rel => exact ⟨i + 1, X, F', S', by omega, by go_num, rfl, hX', by omega, by omega, hF', hFb.1, hFb.2, hS6, hS7, h6⟩
          case measure => simp [intOf]; omega
      · have e1 : X = t - 1 := by have := hX.out; omega
        have e2 : F = t := by have := hF.out; omega
        subst e1 e2
        have CL : Hid (∀ W, Below wr.heap.size wr W → Calls Try.prog 17 #[.pointer (some ⟨B, 0, none⟩)] W fun e w' => e = .returned (.bool true) ∧ Below W.heap.size W w') := fun W hW => by have := lost_any (hS.below hW); rwa [decide_eq_true (Int.le_refl _)] at this
        clear hS hX hF
        obtain ⟨z0, z1, z2, z3⟩ := h4.cells
        go_wp2_with fail
        refine (CL.out _ (Below.refl _ _)).mono ?_
        rintro e w7 ⟨rfl, hb7⟩
        have h7 := h4.below hb7
        go_wp2_with fail
        go_ret
        exact ⟨rfl, h7.2⟩
  · have CR : Hid (∀ W, Calls Try.prog 11 #[.agg #[.int .i64 b, .int .i64 c, .int .i64 t, .int .i64 m]] W fun e w' => e = .returned (.bool false) ∧ Below W.heap.size W w') := fun W => by have := right_any b c t m W; rwa [Bool.eq_false_iff.2 hr] at this
    have CD : Hid (∀ W, Calls Try.prog 12 #[.agg #[.int .i64 b, .int .i64 c, .int .i64 t, .int .i64 m], .int .i64 n] W fun e w' => e = .returned (.int .i64 0) ∧ Below W.heap.size W w') := fun W => by have := delay_any b c t m n hn W; rwa [show dly b c t m n = 0 from if_neg (fun h => hr h.1)] at this
    clear hr hn
    go_enter Try.func4, Try.ntmps4
    go_wp2_with fail
    refine (CR.out _).mono ?_
    rintro e w1 ⟨rfl, hb⟩
    have h1 := h0.below hb
    clear h0 hb CR
    go_wp2_with fail
    refine (awake15_any _).mono ?_
    rintro e w2 ⟨rfl, hb⟩
    have h2 := h1.below hb
    clear h1 hb
    obtain ⟨z0, z1, z2, z3⟩ := h2.cells
    go_wp2_with fail
    refine (CD.out _).mono ?_
    rintro e w3 ⟨rfl, hb⟩
    have h3 := h2.below hb
    clear h2 hb z0 z1 z2 z3
    go_wp2_with fail
    go_ret
    exact ⟨rfl, h3.2⟩

set_option maxRecDepth 100000 in
theorem backoffRises_lifted (os : Os) (started : os.Started) (H : Type) (tok : TypeId × Value → H) :
    ReturnsInHanded {} Try.checked os 4 .any (Rows.backoffRisesSpec.pre6 tok Try.prog Try.f4 Rows.backoffRisesRow.domain false) (Rows.backoffRisesSpec.post tok Try.prog Try.f4 false true false false) := by
  refine returnsInHanded_of_change (C := Try.checked) own_knob started (by kernel_rfl) Try.func4
    (ChangeSpec.witness6 (enc := tok) (C := Try.checked) false ⟨#[], #[.agg #[.int .i64 0, .int .i64 0, .int .i64 0, .int .i64 0], .int .i64 0], []⟩ 8 (by kernel_rfl) (by kernel_rfl) (by kernel_rfl) (by kernel_rfl)) ?_
  intro W base args ds gs before hval0 hW hcnd _
  have hval : ∀ (j : Nat) t v, Try.f4.params[j]? = some t → args[j]? = some v → Value.okWide Try.prog W .any base t v := hval0
  have hW' := hW
  obtain ⟨p, q, hA0, hV, rfl, hfz, hnd⟩ := hW
  have hA : DataW.TrodAll tok Try.prog W 0 (fun _ => true) true Try.f4.params.toList args.toList ds p := hA0
  rw [Try.params4] at hA hval
  obtain ⟨v0, vs0, d0, ds0, p0, q0, hargs, rfl, rfl, h0, r0⟩ := trodAll_cons hA
  obtain ⟨v1, vs1, d1, ds1, p1, q1, rfl, rfl, rfl, h1, r1⟩ := trodAll_cons r0
  obtain ⟨rfl, rfl, rfl⟩ := trodAll_nil r1
  obtain rfl : args = #[v0, v1] := by cases args; simp_all
  obtain ⟨rfl, rfl⟩ := trodVars_none hV
  have k0 := h0
  have lt0 : ∀ x ∈ p0, x.block < W.heap.size := by obtain ⟨m, hm⟩ := k0; exact DataW.trod_lt m _ _ _ hm
  obtain ⟨rb0, rc0, rt0, rm0, rfl⟩ := rule_arg (hval 0 23 v0 rfl rfl) h0
  obtain ⟨a1, rfl, rfl, rfl, w1⟩ := open_int Try.underlying3 (hval 1 3 v1 rfl rfl) h1
  clear hA0 hval0
  refine (rises_walk rb0 rc0 rt0 rm0 a1 W (i64_of_wf w1)).mono fun e W' ⟨he, bel⟩ => ?_
  subst he
  exact ⟨_, rfl, _, _, _, [], _, [], hW', trodAll_mk1 (shut_bool Try.underlying4 _), (trodAll_cons_mk (Below.trod laid_out (by kernel_rfl) (of_decide_eq_true (by kernel_rfl)) k0 bel lt0) (trodAll_cons_mk (shut_int Try.underlying3 w1) trodAll_mk0)), rfl, bel.frame _, fun h => by cases h⟩

set_option maxRecDepth 100000 in
theorem backoffRises_holds : Rows.BackoffRisesSaid :=
  OpenClaim.holds_of_wide 4 Try.f4 rfl rfl rfl rfl rfl rfl rfl ⟨rfl, rfl, rfl, rfl, rfl⟩ rfl rfl rfl rfl rfl (by kernel_rfl) Try.func4 (by kernel_rfl)
    (of_decide_eq_true (by kernel_rfl)) (by unfold Func.isWrapper; first | (rw [if_pos (by decide +kernel)]; kernel_rfl) | (rw [if_neg (by decide +kernel)]; exact ⟨rfl, rfl⟩))
    (fun os started H tok _ => backoffRises_lifted os started H tok)
#print axioms backoffRises_holds
end Go.Proofs.Ytbcbnoadbjlklab
