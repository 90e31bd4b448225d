/- BackoffDelays: of any rule, and any number, the law answers true: whether it is right, the delay behind any failure, and the sum of some. No conditions. -/
import Derived.Test.YtbcbnoadbjlklabBkG
namespace Go.Proofs.Ytbcbnoadbjlklab
open Go.RowKit Go.ChangeShapes Go.WideShapes Go.ChangeAt Go.Joins

set_option maxRecDepth 100000 in
theorem Rul.lt {w W : World} {b c t m : Int} (h : Rul w W b c t m) : w.heap.size < W.heap.size := (Array.getElem?_eq_some_iff.1 h.1).1
/-- The sum of so many first delays, as the law reckons it. -/
def sumD (b c t m : Int) (j : Nat) : Int := if rightB b c t m = true then totN b c j else 0
set_option maxRecDepth 100000 in
theorem totN_bounds {b c : Int} (hb : 1 ≤ b) (hc : 1 ≤ c) (hm : c ≤ 1000000) (k : Nat) : 0 ≤ totN b c k ∧ totN b c k ≤ 1000000 * k := by
  induction k with
  | zero => exact ⟨Int.le_refl _, Int.le_refl _⟩
  | succ k ih =>
    have h1 := dlyN_le b c k
    have h2 := dlyN_pos b c hb hc k
    show 0 ≤ totN b c k + dlyN b c k ∧ totN b c k + dlyN b c k ≤ _
    omega
set_option maxRecDepth 100000 in
theorem sumD_bounds (b c t m : Int) (j : Nat) : 0 ≤ sumD b c t m j ∧ sumD b c t m j ≤ 1000000 * j := by
  unfold sumD
  split
  · rename_i hr
    obtain ⟨r0, r1, r2, r3, r4, r5, r6⟩ := right_of hr
    exact totN_bounds r0 (by omega) r2 j
  · omega
set_option maxRecDepth 100000 in
theorem dly_bounds (b c t m n : Int) : 0 ≤ dly b c t m n ∧ dly b c t m n ≤ 1000000 := by
  unfold dly
  split
  · rename_i hr
    obtain ⟨r0, r1, r2, r3, r4, r5, r6⟩ := right_of hr.1
    have h1 := dlyN_le b c (n - 1).toNat
    have h2 := dlyN_pos b c r0 (by omega) (n - 1).toNat
    omega
  · omega
set_option maxRecDepth 100000 in
theorem sumD_step (b c t m : Int) (j : Nat) : sumD b c t m (j + 1) = sumD b c t m j + dly b c t m (1 + (j : Int)) := by
  unfold sumD dly
  by_cases hr : rightB b c t m = true
  · rw [if_pos hr, if_pos hr, if_pos ⟨hr, by omega⟩, show (1 + (j : Int) - 1).toNat = j by omega]; rfl
  · rw [if_neg hr, if_neg hr, if_neg (fun h => hr h.1)]; rfl
set_option maxRecDepth 100000 in
theorem tot_near (b c t m n : Int) (j : Nat) (hn : n ≤ 300) (hj : (j : Int) = max n 0) : sumD b c t m j = tot b c t m n := by
  unfold sumD tot
  by_cases hr : rightB b c t m = true
  · obtain ⟨r0, r1, r2, r3, r4, r5, r6⟩ := right_of hr
    rw [if_pos hr]
    by_cases h1 : 1 ≤ n
    · have hb := totN_bounds r0 (by omega) r2 j
      rw [if_pos ⟨hr, h1⟩, show n.toNat = j by omega]; omega
    · rw [if_neg (fun h => h1 h.2), show j = 0 by omega]; rfl
  · rw [if_neg hr, if_neg (fun h => hr h.1)]
set_option maxRecDepth 100000 in
theorem tot_far {b c t m : Int} (hr : rightB b c t m = true) (n : Int) (hn : 300 < n) : tot b c t m n = min (sumD b c t m 300 + (n - 300) * c) 1152921504606846976 := by
  obtain ⟨r0, r1, r2, r3, r4, r5, r6⟩ := right_of hr
  unfold sumD tot
  rw [if_pos hr, if_pos ⟨hr, by omega⟩, show n.toNat = 300 + (n - 300).toNat by omega, totN_add r0 (k := 300) (by have := pow2_29 b r0; have := pow2_mono b r0 29 271; omega), show (((n - 300).toNat : Nat) : Int) = n - 300 by omega]
set_option maxRecDepth 100000 in
theorem tot_off {b c t m : Int} (hr : ¬ rightB b c t m = true) (n : Int) : tot b c t m n = 0 := if_neg (fun h => hr h.1)
set_option maxRecDepth 100000 in
theorem sumD_off {b c t m : Int} (hr : ¬ rightB b c t m = true) (j : Nat) : sumD b c t m j = 0 := if_neg hr
set_option maxRecDepth 100000 in
set_option maxHeartbeats 6400000 in
theorem delays_walk (b c t m n : Int) (w : World) (hn : I64 n) : Calls Try.prog 3 #[.agg #[.int .i64 b, .int .i64 c, .int .i64 t, .int .i64 m], .int .i64 n] w fun e w' => e = .returned (.bool true) ∧ Below w.heap.size w w' := by
  have h0 := Rul.start w b c t m
  have hn' := hn
  obtain ⟨hn0, hn1⟩ := hn
  go_enter Try.func3, Try.ntmps3
  go_upto_region 2 with fail
  generalize w.alloc _ = W0 at *
  go_cut [6] from 10 to 11 (fun s6 wx => ∃ K : Int, s6 = .int .i64 K ∧ K = min n 300 ∧ wx = W0)
  case first =>
    go_wp2_with fail
    all_goals go_meet
    all_goals exact ⟨_, rfl, by omega, rfl⟩
  case rest =>
  obtain ⟨K, rfl, hK, rfl⟩ := hcut
  have HK : Hid (K = min n 300) := hK
  have hK1 : K ≤ 300 := by omega
  have hK2 : -9223372036854775808 ≤ K := by omega
  clear hK
  go_wp2_with fail
  go_loopw [5, 7] (fun ss si wr => ∃ (j : Nat) (s : Int), si = .int .i64 (1 + (j : Int)) ∧ ss = .int .i64 s ∧ Hid (s = sumD b c t m j) ∧ 0 ≤ s ∧ s ≤ 1000000 * j ∧ Hid ((j : Int) ≤ max K 0) ∧ j ≤ 300 ∧ Rul w wr b c t m) (fun _ si _ => (302 - intOf si).toNat)
  case atStart => exact ⟨0, 0, rfl, rfl, (by show _ = _; unfold sumD; split <;> rfl), by omega, by omega, (by show _ ≤ _; omega), by omega, h0⟩
  case round =>
    clear h0
    obtain ⟨j, s, rfl, rfl, hs, hs0, hs1, hjK, hj, h1⟩ := hrel
    by_cases hlt : 1 + (j : Int) ≤ K
    · obtain ⟨d0, d1⟩ := dly_bounds b c t m (1 + (j : Int))
      have CE : Hid (∀ W, Calls Try.prog 7 #[.agg #[.int .i64 b, .int .i64 c, .int .i64 t, .int .i64 m], .int .i64 (1 + (j : Int))] W fun e w' => e = .returned (.int .i64 (dly b c t m (1 + (j : Int)))) ∧ Below W.heap.size W w') := fun W => ldelay_any b c t m _ ⟨by omega, by omega⟩ W
      have hs' : Hid (s + dly b c t m (1 + (j : Int)) = sumD b c t m (j + 1)) := by show _ = _; rw [sumD_step, hs.out]
      generalize dly b c t m (1 + (j : Int)) = dj at *
      obtain ⟨z0, z1, z2, z3⟩ := h1.cells
      clear hs
      go_wp2_with fail
      refine (CE.out _).mono ?_
      rintro e wk ⟨rfl, hbk⟩
      have h2 := h1.below hbk
      clear h1 z0 z1 z2 z3 hbk CE
      go_wp2_with fail
      go_roundw
      case rel => exact ⟨j + 1, s + dj, by go_num, by go_num, hs', by omega, by omega, (by show _ ≤ _; omega), by omega, h2⟩
      case measure => simp [intOf]; omega
    · have hjj : (j : Int) = max K 0 := by have := hjK.out; omega
      clear hjK
      go_upto_if 24 with fail
      go_cut [5] from 22 to 46 (fun s5 wx => s5 = .int .i64 (tot b c t m n) ∧ Rul w wx b c t m)
      case first =>
        by_cases hn3 : n ≤ 300
        · have e1 : K = n := by have := HK.out; omega
          have e2 := tot_near b c t m n j hn3 (by omega)
          have e3 := hs.out
          clear HK hs
          subst e1
          generalize tot b c t m K = TT at *
          generalize sumD b c t m j = SS at *
          subst e2 e3
          have hnn : (K != K) = false := by simp
          clear hjj hlt
          go_wp2_with fail
          go_meet
          exact ⟨rfl, h1⟩
        · have e1 : K = 300 := by have := HK.out; omega
          have e4 : j = 300 := by omega
          have e3 := hs.out
          subst e1 e4
          clear HK hs hjj hlt hK1 hK2
          have hne : (300 : Int) ≠ n := by omega
          have hne' : ((300 : Int) != n) = true := by simpa using hne
          obtain ⟨z0, z1, z2, z3⟩ := h1.cells
          by_cases hr : rightB b c t m = true
          · obtain ⟨r0, r1, r2, r3, r4, r5, r6⟩ := right_of hr
            have e2 := tot_far hr n (by omega)
            have CL : Hid (∀ W, Calls Try.prog 8 #[.agg #[.int .i64 b, .int .i64 c, .int .i64 t, .int .i64 m]] W fun e w' => e = .returned (.bool true) ∧ Below W.heap.size W w') := fun W => by have := lright_any b c t m W; rwa [hr] at this
            have hq : (1152921504606846976 : Int).tdiv c = 1152921504606846976 / c := Int.tdiv_eq_ediv_of_nonneg (by decide)
            have q0 : 0 ≤ (1152921504606846976 : Int) / c := Int.ediv_nonneg (by decide) (by omega)
            have q1 : (1152921504606846976 : Int) / c ≤ 1152921504606846976 := Int.ediv_le_self _ (by decide)
            have qm : (1152921504606846976 : Int) / c * c ≤ 1152921504606846976 := Int.ediv_mul_le _ (by omega)
            have qn : (1152921504606846976 : Int) < (1152921504606846976 / c + 1) * c := Int.lt_ediv_add_one_mul_self _ (by omega)
            generalize (1152921504606846976 : Int) / c = q at *
            generalize tot b c t m n = TT at *
            generalize sumD b c t m 300 = SS at *
            subst e3
            have hm0 : 0 ≤ (n - 300) * c := Int.mul_nonneg (by omega) (by omega)
            by_cases hqn : q < n - 300
            · have hm1 : (q + 1) * c ≤ (n - 300) * c := Int.mul_le_mul_of_nonneg_right (by omega) (by omega)
              have hT : TT = 1152921504606846976 := by rw [e2]; omega
              subst hT
              clear e2 hm1 hm0 qn qm
              go_wp2_with fail
              refine (CL.out _).mono ?_
              rintro e wk ⟨rfl, hbk⟩
              have h2 := h1.below hbk
              clear h1 hbk z0 z1 z2 z3
              obtain ⟨z0, z1, z2, z3⟩ := h2.cells
              go_wp2_with fail
              go_meet
              exact ⟨rfl, h2⟩
            · have hm1 : (n - 300) * c ≤ q * c := Int.mul_le_mul_of_nonneg_right (by omega) (by omega)
              have hm2 : (n - 300) * c ≤ 1152921504606846976 := Int.le_trans hm1 qm
              have hT : Hid (clp (s + (n - 300) * c) = TT) := by show _ = _; rw [e2]; simp only [clp, brought]; omega
              clear e2 hm1 qn qm
              have hqn' : decide (q < n - 300) = false := decide_eq_false hqn
              go_wp2_with fail
              refine (CL.out _).mono ?_
              rintro e wk ⟨rfl, hbk⟩
              have h2 := h1.below hbk
              clear h1 hbk z0 z1 z2 z3
              obtain ⟨z0, z1, z2, z3⟩ := h2.cells
              go_wp2_with fail
              refine (CL.out _).mono ?_
              rintro e wk ⟨rfl, hbk⟩
              have h3 := h2.below hbk
              clear h2 hbk z0 z1 z2 z3 CL
              obtain ⟨z0, z1, z2, z3⟩ := h3.cells
              go_wp2_with (go_at_call 9; refine (lclip_any _ _).mono ?_; rintro e w' ⟨rfl, rfl⟩)
              go_meet
              exact ⟨by rw [hT.out], h3⟩
          · have e2 := tot_off hr n
            have CL : Hid (∀ W, Calls Try.prog 8 #[.agg #[.int .i64 b, .int .i64 c, .int .i64 t, .int .i64 m]] W fun e w' => e = .returned (.bool false) ∧ Below W.heap.size W w') := fun W => by have := lright_any b c t m W; rwa [Bool.eq_false_iff.2 hr] at this
            rw [sumD_off hr] at e3
            subst e3
            have hfin : Hid (Value.int .i64 0 = .int .i64 (tot b c t m n)) := by show _ = _; rw [e2]
            clear e2
            go_wp2_with fail
            refine (CL.out _).mono ?_
            rintro e wk ⟨rfl, hbk⟩
            have h2 := h1.below hbk
            clear h1 hbk z0 z1 z2 z3
            obtain ⟨z0, z1, z2, z3⟩ := h2.cells
            go_wp2_with fail
            refine (CL.out _).mono ?_
            rintro e wk ⟨rfl, hbk⟩
            have h3 := h2.below hbk
            clear h2 hbk z0 z1 z2 z3 CL
            go_wp2_with fail
            go_meet
            exact ⟨hfin.out, h3⟩
      case rest =>
      obtain ⟨rfl, h2⟩ := hcut
      clear hs hs0 hs1 hj hlt hjj h1 HK hK1 hK2
      have CT : Hid (∀ W, Calls Try.prog 13 #[.agg #[.int .i64 b, .int .i64 c, .int .i64 t, .int .i64 m], .int .i64 n] W fun e w' => e = .returned (.int .i64 (tot b c t m n)) ∧ Below W.heap.size W w') := fun W => total_any b c t m n hn' W
      have CD : Hid (∀ W, Calls Try.prog 12 #[.agg #[.int .i64 b, .int .i64 c, .int .i64 t, .int .i64 m], .int .i64 n] W fun e w' => e = .returned (.int .i64 (dly b c t m n)) ∧ Below W.heap.size W w') := fun W => delay_any b c t m n hn' W
      have CE : Hid (∀ W, Calls Try.prog 7 #[.agg #[.int .i64 b, .int .i64 c, .int .i64 t, .int .i64 m], .int .i64 n] W fun e w' => e = .returned (.int .i64 (dly b c t m n)) ∧ Below W.heap.size W w') := fun W => ldelay_any b c t m n hn' W
      have CA : Hid (∀ W, Calls Try.prog 14 #[] W fun e w' => e = .returned (.bool true) ∧ Below W.heap.size W w') := awake15_any
      have CN := fun W => bnew_any b c t m W
      have CR0 := fun W => right_any b c t m W
      have CL0 := fun W => lright_any b c t m W
      clear hn' hn0 hn1
      generalize tot b c t m n = TT at *
      generalize dly b c t m n = DD at *
      by_cases hr : rightB b c t m = true
      · simp only [if_pos hr] at CN
        have CNH : Hid (∀ W, Calls Try.prog 10 #[.agg #[.int .i64 b, .int .i64 c, .int .i64 t, .int .i64 m]] W fun e w' => (∃ B, W.heap.size < B ∧ e = .returned (.tuple #[.pointer (some ⟨B, 0, none⟩), .int .i64 0]) ∧ Sta w' B b c t m 0 0) ∧ Below W.heap.size W w') := CN
        rw [hr] at CR0 CL0
        have CR : Hid (∀ W, Calls Try.prog 11 #[.agg #[.int .i64 b, .int .i64 c, .int .i64 t, .int .i64 m]] W fun e w' => e = .returned (.bool true) ∧ Below W.heap.size W w') := CR0
        have CL : Hid (∀ W, Calls Try.prog 8 #[.agg #[.int .i64 b, .int .i64 c, .int .i64 t, .int .i64 m]] W fun e w' => e = .returned (.bool true) ∧ Below W.heap.size W w') := CL0
        clear CN CR0 CL0 hr
        obtain ⟨z0, z1, z2, z3⟩ := h2.cells
        go_wp2_with fail
        refine (CNH.out _).mono ?_
        rintro e wk ⟨⟨B, -, rfl, -⟩, hbk⟩
        have h3 := h2.below hbk
        clear h2 hbk z0 z1 z2 z3 CNH
        go_upto_region 13 with fail
        refine wp_region_held_drew (S := fun w' => Rul w w' b c t m) (by kernel_rfl) h3.drew (fun hSS => ?_)
        refine wpAnyH_take (i := 0) (v := ?_) rfl (by kernel_rfl) (by kernel_rfl) (by kernel_rfl) (fun _ _ _ h => h) (Or.inl ⟨by rfl, ?_⟩) hSS ?_
        rotate_left
        · intro wz hSz
          obtain ⟨z0, z1, z2, z3⟩ := hSz.cells
          go_simp
          try with_reducible rfl
        simp only [List.getElem_toArray, List.getElem_cons_zero, Act.put, List.setIfInBounds_toArray, List.set_cons_zero, List.set_cons_succ]
        refine wpAnyH_take (i := 2) (v := ?_) rfl (by kernel_rfl) (by kernel_rfl) (by kernel_rfl) (fun _ _ _ h => h) (Or.inl ⟨by rfl, ?_⟩) hSS ?_
        rotate_left
        · intro wz hSz
          obtain ⟨z0, z1, z2, z3⟩ := hSz.cells
          go_simp
          try with_reducible rfl
        simp only [List.getElem_toArray, List.getElem_cons_zero, List.getElem_cons_succ, Act.put, List.setIfInBounds_toArray, List.set_cons_zero, List.set_cons_succ]
        refine wpAnyH_ready (rs := [1]) (by kernel_rfl) (by simp) (AllReadyH.cons rfl (fun K hK => ?_) AllReadyH.nil)
        go_simp
        go_at_call 11
        refine (CR.out _).mono ?_
        rintro e wk ⟨rfl, hbk⟩
        go_simp
        refine hK.out _ _ (hSS.below hbk) (fun hSS => ?_)
        clear hK hbk
        refine wpAnyH_ready (rs := [3]) (by kernel_rfl) (by simp) (AllReadyH.cons rfl (fun K hK => ?_) AllReadyH.nil)
        go_simp
        go_at_call 8
        refine (CL.out _).mono ?_
        rintro e wk ⟨rfl, hbk⟩
        go_simp
        refine hK.out _ _ (hSS.below hbk) (fun hSS => ?_)
        clear hK hbk
        refine wpAnyH_take (i := 4) (v := .bool true) rfl (by kernel_rfl) (by kernel_rfl) (by kernel_rfl) (fun _ _ _ h => h) (Or.inl ⟨by rfl, ?_⟩) hSS ?_
        · intro wz hSz
          go_simp
        simp only [List.getElem_toArray, List.getElem_cons_zero, List.getElem_cons_succ, Act.put, List.setIfInBounds_toArray, List.set_cons_zero, List.set_cons_succ]
        refine wpAnyH_take (i := 5) (v := .bool true) rfl (by kernel_rfl) (by kernel_rfl) (by kernel_rfl) (fun _ _ _ h => h) (Or.inl ⟨by rfl, ?_⟩) hSS ?_
        · intro wz hSz
          go_simp
        simp only [List.getElem_toArray, List.getElem_cons_zero, List.getElem_cons_succ, Act.put, List.setIfInBounds_toArray, List.set_cons_zero, List.set_cons_succ]
        refine wpAnyH_take (i := 6) (v := ?_) rfl (by kernel_rfl) (by kernel_rfl) (by kernel_rfl) (fun _ _ _ h => h) (Or.inl ⟨by rfl, ?_⟩) hSS ?_
        rotate_left
        · intro wz hSz
          obtain ⟨z0, z1, z2, z3⟩ := hSz.cells
          go_simp
          try with_reducible rfl
        simp only [List.getElem_toArray, List.getElem_cons_zero, List.getElem_cons_succ, Act.put, List.setIfInBounds_toArray, List.set_cons_zero, List.set_cons_succ]
        refine wpAnyH_take (i := 7) (v := ?_) rfl (by kernel_rfl) (by kernel_rfl) (by kernel_rfl) (fun _ _ _ h => h) (Or.inl ⟨by rfl, ?_⟩) hSS ?_
        rotate_left
        · intro wz hSz
          go_simp
          try with_reducible rfl
        simp only [List.getElem_toArray, List.getElem_cons_zero, List.getElem_cons_succ, Act.put, List.setIfInBounds_toArray, List.set_cons_zero, List.set_cons_succ]
        refine wpAnyH_take (i := 9) (v := ?_) rfl (by kernel_rfl) (by kernel_rfl) (by kernel_rfl) (fun _ _ _ h => h) (Or.inl ⟨by rfl, ?_⟩) hSS ?_
        rotate_left
        · intro wz hSz
          obtain ⟨z0, z1, z2, z3⟩ := hSz.cells
          go_simp
          try with_reducible rfl
        simp only [List.getElem_toArray, List.getElem_cons_zero, List.getElem_cons_succ, Act.put, List.setIfInBounds_toArray, List.set_cons_zero, List.set_cons_succ]
        refine wpAnyH_take (i := 10) (v := ?_) rfl (by kernel_rfl) (by kernel_rfl) (by kernel_rfl) (fun _ _ _ h => h) (Or.inl ⟨by rfl, ?_⟩) hSS ?_
        rotate_left
        · intro wz hSz
          go_simp
          try with_reducible rfl
        simp only [List.getElem_toArray, List.getElem_cons_zero, List.getElem_cons_succ, Act.put, List.setIfInBounds_toArray, List.set_cons_zero, List.set_cons_succ]
        refine wpAnyH_ready (rs := [8]) (by kernel_rfl) (by simp) (AllReadyH.cons rfl (fun K hK => ?_) AllReadyH.nil)
        refine step_wanted (by rfl) ?_
        simp only [List.getElem_toArray, List.getElem_cons_zero, List.getElem_cons_succ]
        go_simp
        go_at_call 12
        refine (CD.out _).mono ?_
        rintro e wk ⟨rfl, hbk⟩
        go_simp
        refine hK.out _ _ (hSS.below hbk) (fun hSS => ?_)
        clear hK hbk
        refine wpAnyH_ready (rs := [11]) (by kernel_rfl) (by simp) (AllReadyH.cons rfl (fun K hK => ?_) AllReadyH.nil)
        refine step_wanted (by rfl) ?_
        simp only [List.getElem_toArray, List.getElem_cons_zero, List.getElem_cons_succ]
        go_simp
        go_at_call 7
        refine (CE.out _).mono ?_
        rintro e wk ⟨rfl, hbk⟩
        go_simp
        refine hK.out _ _ (hSS.below hbk) (fun hSS => ?_)
        clear hK hbk
        refine wpAnyH_take (i := 12) (v := .bool true) rfl (by kernel_rfl) (by kernel_rfl) (by kernel_rfl) (fun _ _ _ h => h) (Or.inl ⟨by rfl, ?_⟩) hSS ?_
        · intro wz hSz
          go_simp
        simp only [List.getElem_toArray, List.getElem_cons_zero, List.getElem_cons_succ, Act.put, List.setIfInBounds_toArray, List.set_cons_zero, List.set_cons_succ]
        refine wpAnyH_take (i := 13) (v := .bool true) rfl (by kernel_rfl) (by kernel_rfl) (by kernel_rfl) (fun _ _ _ h => h) (Or.inl ⟨by rfl, ?_⟩) hSS ?_
        · intro wz hSz
          go_simp
        simp only [List.getElem_toArray, List.getElem_cons_zero, List.getElem_cons_succ, Act.put, List.setIfInBounds_toArray, List.set_cons_zero, List.set_cons_succ]
        refine wpAnyH_take (i := 14) (v := .bool true) rfl (by kernel_rfl) (by kernel_rfl) (by kernel_rfl) (fun _ _ _ h => h) (Or.inl ⟨by rfl, ?_⟩) hSS ?_
        · intro wz hSz
          go_simp
        simp only [List.getElem_toArray, List.getElem_cons_zero, List.getElem_cons_succ, Act.put, List.setIfInBounds_toArray, List.set_cons_zero, List.set_cons_succ]
        refine wpAnyH_take (i := 15) (v := ?_) rfl (by kernel_rfl) (by kernel_rfl) (by kernel_rfl) (fun _ _ _ h => h) (Or.inl ⟨by rfl, ?_⟩) hSS ?_
        rotate_left
        · intro wz hSz
          obtain ⟨z0, z1, z2, z3⟩ := hSz.cells
          go_simp
          try with_reducible rfl
        simp only [List.getElem_toArray, List.getElem_cons_zero, List.getElem_cons_succ, Act.put, List.setIfInBounds_toArray, List.set_cons_zero, List.set_cons_succ]
        refine wpAnyH_take (i := 16) (v := ?_) rfl (by kernel_rfl) (by kernel_rfl) (by kernel_rfl) (fun _ _ _ h => h) (Or.inl ⟨by rfl, ?_⟩) hSS ?_
        rotate_left
        · intro wz hSz
          go_simp
          try with_reducible rfl
        simp only [List.getElem_toArray, List.getElem_cons_zero, List.getElem_cons_succ, Act.put, List.setIfInBounds_toArray, List.set_cons_zero, List.set_cons_succ]
        refine wpAnyH_take (i := 18) (v := ?_) rfl (by kernel_rfl) (by kernel_rfl) (by kernel_rfl) (fun _ _ _ h => h) (Or.inl ⟨by rfl, ?_⟩) hSS ?_
        rotate_left
        · intro wz hSz
          go_simp
          try with_reducible rfl
        simp only [List.getElem_toArray, List.getElem_cons_zero, List.getElem_cons_succ, Act.put, List.setIfInBounds_toArray, List.set_cons_zero, List.set_cons_succ]
        refine wpAnyH_ready (rs := [17]) (by kernel_rfl) (by simp) (AllReadyH.cons rfl (fun K hK => ?_) AllReadyH.nil)
        refine step_wanted (by rfl) ?_
        simp only [List.getElem_toArray, List.getElem_cons_zero, List.getElem_cons_succ]
        go_simp
        go_at_call 13
        refine (CT.out _).mono ?_
        rintro e wk ⟨rfl, hbk⟩
        go_simp
        refine hK.out _ _ (hSS.below hbk) (fun hSS => ?_)
        clear hK hbk
        refine wpAnyH_take (i := 19) (v := .bool true) rfl (by kernel_rfl) (by kernel_rfl) (by kernel_rfl) (fun _ _ _ h => h) (Or.inl ⟨by rfl, ?_⟩) hSS ?_
        · intro wz hSz
          go_simp
        simp only [List.getElem_toArray, List.getElem_cons_zero, List.getElem_cons_succ, Act.put, List.setIfInBounds_toArray, List.set_cons_zero, List.set_cons_succ]
        refine wpAnyH_take (i := 20) (v := .bool true) rfl (by kernel_rfl) (by kernel_rfl) (by kernel_rfl) (fun _ _ _ h => h) (Or.inl ⟨by rfl, ?_⟩) hSS ?_
        · intro wz hSz
          go_simp
        simp only [List.getElem_toArray, List.getElem_cons_zero, List.getElem_cons_succ, Act.put, List.setIfInBounds_toArray, List.set_cons_zero, List.set_cons_succ]
        refine wpAnyH_take (i := 21) (v := .bool true) rfl (by kernel_rfl) (by kernel_rfl) (by kernel_rfl) (fun _ _ _ h => h) (Or.inl ⟨by rfl, ?_⟩) hSS ?_
        · intro wz hSz
          go_simp
        simp only [List.getElem_toArray, List.getElem_cons_zero, List.getElem_cons_succ, Act.put, List.setIfInBounds_toArray, List.set_cons_zero, List.set_cons_succ]
        refine wpAnyH_take (i := 22) (v := ?_) rfl (by kernel_rfl) (by kernel_rfl) (by kernel_rfl) (fun _ _ _ h => h) (Or.inl ⟨by rfl, ?_⟩) hSS ?_
        rotate_left
        · intro wz hSz
          go_simp
          try with_reducible rfl
        simp only [List.getElem_toArray, List.getElem_cons_zero, List.getElem_cons_succ, Act.put, List.setIfInBounds_toArray, List.set_cons_zero, List.set_cons_succ]
        refine wpAnyH_take (i := 23) (v := .bool true) rfl (by kernel_rfl) (by kernel_rfl) (by kernel_rfl) (fun _ _ _ h => h) (Or.inl ⟨by rfl, ?_⟩) hSS ?_
        · intro wz hSz
          go_simp
        simp only [List.getElem_toArray, List.getElem_cons_zero, List.getElem_cons_succ, Act.put, List.setIfInBounds_toArray, List.set_cons_zero, List.set_cons_succ]
        refine wpAnyH_take (i := 24) (v := ?_) rfl (by kernel_rfl) (by kernel_rfl) (by kernel_rfl) (fun _ _ _ h => h) (Or.inl ⟨by rfl, ?_⟩) hSS ?_
        rotate_left
        · intro wz hSz
          obtain ⟨z0, z1, z2, z3⟩ := hSz.cells
          go_simp
          try with_reducible rfl
        simp only [List.getElem_toArray, List.getElem_cons_zero, List.getElem_cons_succ, Act.put, List.setIfInBounds_toArray, List.set_cons_zero, List.set_cons_succ]
        refine wpAnyH_ready (rs := [25]) (by kernel_rfl) (by simp) (AllReadyH.cons rfl (fun K hK => ?_) AllReadyH.nil)
        refine step_wanted (by rfl) ?_
        simp only [List.getElem_toArray, List.getElem_cons_zero, List.getElem_cons_succ]
        go_simp
        go_at_call 8
        refine (CL.out _).mono ?_
        rintro e wk ⟨rfl, hbk⟩
        go_simp
        refine hK.out _ _ (hSS.below hbk) (fun hSS => ?_)
        clear hK hbk
        refine wpAnyH_take (i := 26) (v := .bool true) rfl (by kernel_rfl) (by kernel_rfl) (by kernel_rfl) (fun _ _ _ h => h) (Or.inl ⟨by rfl, ?_⟩) hSS ?_
        · intro wz hSz
          go_simp
        simp only [List.getElem_toArray, List.getElem_cons_zero, List.getElem_cons_succ, Act.put, List.setIfInBounds_toArray, List.set_cons_zero, List.set_cons_succ]
        refine wpAnyH_take (i := 27) (v := .bool true) rfl (by kernel_rfl) (by kernel_rfl) (by kernel_rfl) (fun _ _ _ h => h) (Or.inl ⟨by rfl, ?_⟩) hSS ?_
        · intro wz hSz
          go_simp
        simp only [List.getElem_toArray, List.getElem_cons_zero, List.getElem_cons_succ, Act.put, List.setIfInBounds_toArray, List.set_cons_zero, List.set_cons_succ]
        refine wpAnyH_take (i := 28) (v := .bool true) rfl (by kernel_rfl) (by kernel_rfl) (by kernel_rfl) (fun _ _ _ h => h) (Or.inl ⟨by rfl, ?_⟩) hSS ?_
        · intro wz hSz
          go_simp
        simp only [List.getElem_toArray, List.getElem_cons_zero, List.getElem_cons_succ, Act.put, List.setIfInBounds_toArray, List.set_cons_zero, List.set_cons_succ]
        refine wpAnyH_take (i := 29) (v := ?_) rfl (by kernel_rfl) (by kernel_rfl) (by kernel_rfl) (fun _ _ _ h => h) (Or.inl ⟨by rfl, ?_⟩) hSS ?_
        rotate_left
        · intro wz hSz
          go_simp
          try with_reducible rfl
        simp only [List.getElem_toArray, List.getElem_cons_zero, List.getElem_cons_succ, Act.put, List.setIfInBounds_toArray, List.set_cons_zero, List.set_cons_succ]
        refine wpAnyH_take (i := 30) (v := .bool true) rfl (by kernel_rfl) (by kernel_rfl) (by kernel_rfl) (fun _ _ _ h => h) (Or.inl ⟨by rfl, ?_⟩) hSS ?_
        · intro wz hSz
          go_simp
        simp only [List.getElem_toArray, List.getElem_cons_zero, List.getElem_cons_succ, Act.put, List.setIfInBounds_toArray, List.set_cons_zero, List.set_cons_succ]
        refine wpAnyH_take (i := 31) (v := ?_) rfl (by kernel_rfl) (by kernel_rfl) (by kernel_rfl) (fun _ _ _ h => h) (Or.inl ⟨by rfl, ?_⟩) hSS ?_
        rotate_left
        · intro wz hSz
          obtain ⟨z0, z1, z2, z3⟩ := hSz.cells
          go_simp
          try with_reducible rfl
        simp only [List.getElem_toArray, List.getElem_cons_zero, List.getElem_cons_succ, Act.put, List.setIfInBounds_toArray, List.set_cons_zero, List.set_cons_succ]
        refine wpAnyH_ready (rs := [32]) (by kernel_rfl) (by simp) (AllReadyH.cons rfl (fun K hK => ?_) AllReadyH.nil)
        refine step_wanted (by rfl) ?_
        simp only [List.getElem_toArray, List.getElem_cons_zero, List.getElem_cons_succ]
        go_simp
        go_at_call 8
        refine (CL.out _).mono ?_
        rintro e wk ⟨rfl, hbk⟩
        go_simp
        refine hK.out _ _ (hSS.below hbk) (fun hSS => ?_)
        clear hK hbk
        refine wpAnyH_take (i := 33) (v := .bool true) rfl (by kernel_rfl) (by kernel_rfl) (by kernel_rfl) (fun _ _ _ h => h) (Or.inl ⟨by rfl, ?_⟩) hSS ?_
        · intro wz hSz
          go_simp
        simp only [List.getElem_toArray, List.getElem_cons_zero, List.getElem_cons_succ, Act.put, List.setIfInBounds_toArray, List.set_cons_zero, List.set_cons_succ]
        refine wpAnyH_take (i := 34) (v := .bool true) rfl (by kernel_rfl) (by kernel_rfl) (by kernel_rfl) (fun _ _ _ h => h) (Or.inl ⟨by rfl, ?_⟩) hSS ?_
        · intro wz hSz
          go_simp
        simp only [List.getElem_toArray, List.getElem_cons_zero, List.getElem_cons_succ, Act.put, List.setIfInBounds_toArray, List.set_cons_zero, List.set_cons_succ]
        refine wpAnyH_take (i := 35) (v := .bool true) rfl (by kernel_rfl) (by kernel_rfl) (by kernel_rfl) (fun _ _ _ h => h) (Or.inl ⟨by rfl, ?_⟩) hSS ?_
        · intro wz hSz
          go_simp
        simp only [List.getElem_toArray, List.getElem_cons_zero, List.getElem_cons_succ, Act.put, List.setIfInBounds_toArray, List.set_cons_zero, List.set_cons_succ]
        refine wpAnyH_take (i := 36) (v := ?_) rfl (by kernel_rfl) (by kernel_rfl) (by kernel_rfl) (fun _ _ _ h => h) (Or.inl ⟨by rfl, ?_⟩) hSS ?_
        rotate_left
        · intro wz hSz
          go_simp
          try with_reducible rfl
        simp only [List.getElem_toArray, List.getElem_cons_zero, List.getElem_cons_succ, Act.put, List.setIfInBounds_toArray, List.set_cons_zero, List.set_cons_succ]
        refine wpAnyH_take (i := 37) (v := .bool true) rfl (by kernel_rfl) (by kernel_rfl) (by kernel_rfl) (fun _ _ _ h => h) (Or.inl ⟨by rfl, ?_⟩) hSS ?_
        · intro wz hSz
          go_simp
        simp only [List.getElem_toArray, List.getElem_cons_zero, List.getElem_cons_succ, Act.put, List.setIfInBounds_toArray, List.set_cons_zero, List.set_cons_succ]
        refine wpAnyH_take (i := 38) (v := .bool true) rfl (by kernel_rfl) (by kernel_rfl) (by kernel_rfl) (fun _ _ _ h => h) (Or.inl ⟨by rfl, ?_⟩) hSS ?_
        · intro wz hSz
          go_simp
        simp only [List.getElem_toArray, List.getElem_cons_zero, List.getElem_cons_succ, Act.put, List.setIfInBounds_toArray, List.set_cons_zero, List.set_cons_succ]
        refine wpAnyH_take (i := 39) (v := undef) rfl (by kernel_rfl) (by kernel_rfl) (by kernel_rfl) (fun _ _ _ h => h) (Or.inr ⟨by rfl, rfl⟩) hSS ?_
        simp only [List.getElem_toArray, List.getElem_cons_zero, List.getElem_cons_succ, Act.put, List.setIfInBounds_toArray, List.set_cons_zero, List.set_cons_succ]
        refine wpAnyH_take (i := 40) (v := undef) rfl (by kernel_rfl) (by kernel_rfl) (by kernel_rfl) (fun _ _ _ h => h) (Or.inr ⟨by rfl, rfl⟩) hSS ?_
        simp only [List.getElem_toArray, List.getElem_cons_zero, List.getElem_cons_succ, Act.put, List.setIfInBounds_toArray, List.set_cons_zero, List.set_cons_succ]
        refine wpAnyH_take (i := 41) (v := .bool true) rfl (by kernel_rfl) (by kernel_rfl) (by kernel_rfl) (fun _ _ _ h => h) (Or.inl ⟨by rfl, ?_⟩) hSS ?_
        · intro wz hSz
          go_simp
        simp only [List.getElem_toArray, List.getElem_cons_zero, List.getElem_cons_succ, Act.put, List.setIfInBounds_toArray, List.set_cons_zero, List.set_cons_succ]
        refine wpAnyH_take (i := 42) (v := .bool true) rfl (by kernel_rfl) (by kernel_rfl) (by kernel_rfl) (fun _ _ _ h => h) (Or.inl ⟨by rfl, ?_⟩) hSS ?_
        · intro wz hSz
          go_simp
        simp only [List.getElem_toArray, List.getElem_cons_zero, List.getElem_cons_succ, Act.put, List.setIfInBounds_toArray, List.set_cons_zero, List.set_cons_succ]
        refine wpAnyH_take (i := 43) (v := .bool true) rfl (by kernel_rfl) (by kernel_rfl) (by kernel_rfl) (fun _ _ _ h => h) (Or.inl ⟨by rfl, ?_⟩) hSS ?_
        · intro wz hSz
          go_simp
        simp only [List.getElem_toArray, List.getElem_cons_zero, List.getElem_cons_succ, Act.put, List.setIfInBounds_toArray, List.set_cons_zero, List.set_cons_succ]
        refine wpAnyH_ready (rs := [44]) (by kernel_rfl) (by simp) (AllReadyH.cons rfl (fun K hK => ?_) AllReadyH.nil)
        refine step_wanted (by rfl) ?_
        simp only [List.getElem_toArray, List.getElem_cons_zero, List.getElem_cons_succ]
        go_simp
        go_at_call 14
        refine (CA.out _).mono ?_
        rintro e wk ⟨rfl, hbk⟩
        go_simp
        refine hK.out _ _ (hSS.below hbk) (fun hSS => ?_)
        clear hK hbk
        refine wpAnyH_take (i := 45) (v := .bool true) rfl (by kernel_rfl) (by kernel_rfl) (by kernel_rfl) (fun _ _ _ h => h) (Or.inl ⟨by rfl, ?_⟩) hSS ?_
        · intro wz hSz
          go_simp
        simp only [List.getElem_toArray, List.getElem_cons_zero, List.getElem_cons_succ, Act.put, List.setIfInBounds_toArray, List.set_cons_zero, List.set_cons_succ]
        refine wpAnyH_take (i := 46) (v := ?_) rfl (by kernel_rfl) (by kernel_rfl) (by kernel_rfl) (fun _ _ _ h => h) (Or.inl ⟨by rfl, ?_⟩) hSS ?_
        rotate_left
        · intro wz hSz
          go_simp
          try with_reducible rfl
        simp only [List.getElem_toArray, List.getElem_cons_zero, List.getElem_cons_succ, Act.put, List.setIfInBounds_toArray, List.set_cons_zero, List.set_cons_succ]
        refine wpAnyH_done (by kernel_rfl) ?_ _
        have hB := hSS.2
        go_wp2_with fail
        go_ret
        exact ⟨rfl, hB⟩
      · simp only [if_neg hr] at CN
        have CNH : Hid (∀ W, Calls Try.prog 10 #[.agg #[.int .i64 b, .int .i64 c, .int .i64 t, .int .i64 m]] W fun e w' => e = .returned (.tuple #[.pointer none, .int .i64 1]) ∧ Below W.heap.size W w') := CN
        rw [Bool.eq_false_iff.2 hr] at CR0 CL0
        have CR : Hid (∀ W, Calls Try.prog 11 #[.agg #[.int .i64 b, .int .i64 c, .int .i64 t, .int .i64 m]] W fun e w' => e = .returned (.bool false) ∧ Below W.heap.size W w') := CR0
        have CL : Hid (∀ W, Calls Try.prog 8 #[.agg #[.int .i64 b, .int .i64 c, .int .i64 t, .int .i64 m]] W fun e w' => e = .returned (.bool false) ∧ Below W.heap.size W w') := CL0
        clear CN CR0 CL0 hr
        obtain ⟨z0, z1, z2, z3⟩ := h2.cells
        go_wp2_with fail
        refine (CNH.out _).mono ?_
        rintro e wk ⟨rfl, hbk⟩
        have h3 := h2.below hbk
        clear h2 hbk z0 z1 z2 z3 CNH
        go_upto_region 13 with fail
        refine wp_region_held_drew (S := fun w' => Rul w w' b c t m) (by kernel_rfl) h3.drew (fun hSS => ?_)
        refine wpAnyH_take (i := 0) (v := ?_) rfl (by kernel_rfl) (by kernel_rfl) (by kernel_rfl) (fun _ _ _ h => h) (Or.inl ⟨by rfl, ?_⟩) hSS ?_
        rotate_left
        · intro wz hSz
          obtain ⟨z0, z1, z2, z3⟩ := hSz.cells
          go_simp
          try with_reducible rfl
        simp only [List.getElem_toArray, List.getElem_cons_zero, Act.put, List.setIfInBounds_toArray, List.set_cons_zero, List.set_cons_succ]
        refine wpAnyH_take (i := 2) (v := ?_) rfl (by kernel_rfl) (by kernel_rfl) (by kernel_rfl) (fun _ _ _ h => h) (Or.inl ⟨by rfl, ?_⟩) hSS ?_
        rotate_left
        · intro wz hSz
          obtain ⟨z0, z1, z2, z3⟩ := hSz.cells
          go_simp
          try with_reducible rfl
        simp only [List.getElem_toArray, List.getElem_cons_zero, List.getElem_cons_succ, Act.put, List.setIfInBounds_toArray, List.set_cons_zero, List.set_cons_succ]
        refine wpAnyH_ready (rs := [1]) (by kernel_rfl) (by simp) (AllReadyH.cons rfl (fun K hK => ?_) AllReadyH.nil)
        go_simp
        go_at_call 11
        refine (CR.out _).mono ?_
        rintro e wk ⟨rfl, hbk⟩
        go_simp
        refine hK.out _ _ (hSS.below hbk) (fun hSS => ?_)
        clear hK hbk
        refine wpAnyH_ready (rs := [3]) (by kernel_rfl) (by simp) (AllReadyH.cons rfl (fun K hK => ?_) AllReadyH.nil)
        go_simp
        go_at_call 8
        refine (CL.out _).mono ?_
        rintro e wk ⟨rfl, hbk⟩
        go_simp
        refine hK.out _ _ (hSS.below hbk) (fun hSS => ?_)
        clear hK hbk
        refine wpAnyH_take (i := 4) (v := .bool true) rfl (by kernel_rfl) (by kernel_rfl) (by kernel_rfl) (fun _ _ _ h => h) (Or.inl ⟨by rfl, ?_⟩) hSS ?_
        · intro wz hSz
          go_simp
        simp only [List.getElem_toArray, List.getElem_cons_zero, List.getElem_cons_succ, Act.put, List.setIfInBounds_toArray, List.set_cons_zero, List.set_cons_succ]
        refine wpAnyH_take (i := 5) (v := .bool true) rfl (by kernel_rfl) (by kernel_rfl) (by kernel_rfl) (fun _ _ _ h => h) (Or.inl ⟨by rfl, ?_⟩) hSS ?_
        · intro wz hSz
          go_simp
        simp only [List.getElem_toArray, List.getElem_cons_zero, List.getElem_cons_succ, Act.put, List.setIfInBounds_toArray, List.set_cons_zero, List.set_cons_succ]
        refine wpAnyH_take (i := 6) (v := ?_) rfl (by kernel_rfl) (by kernel_rfl) (by kernel_rfl) (fun _ _ _ h => h) (Or.inl ⟨by rfl, ?_⟩) hSS ?_
        rotate_left
        · intro wz hSz
          obtain ⟨z0, z1, z2, z3⟩ := hSz.cells
          go_simp
          try with_reducible rfl
        simp only [List.getElem_toArray, List.getElem_cons_zero, List.getElem_cons_succ, Act.put, List.setIfInBounds_toArray, List.set_cons_zero, List.set_cons_succ]
        refine wpAnyH_take (i := 7) (v := ?_) rfl (by kernel_rfl) (by kernel_rfl) (by kernel_rfl) (fun _ _ _ h => h) (Or.inl ⟨by rfl, ?_⟩) hSS ?_
        rotate_left
        · intro wz hSz
          go_simp
          try with_reducible rfl
        simp only [List.getElem_toArray, List.getElem_cons_zero, List.getElem_cons_succ, Act.put, List.setIfInBounds_toArray, List.set_cons_zero, List.set_cons_succ]
        refine wpAnyH_take (i := 9) (v := ?_) rfl (by kernel_rfl) (by kernel_rfl) (by kernel_rfl) (fun _ _ _ h => h) (Or.inl ⟨by rfl, ?_⟩) hSS ?_
        rotate_left
        · intro wz hSz
          obtain ⟨z0, z1, z2, z3⟩ := hSz.cells
          go_simp
          try with_reducible rfl
        simp only [List.getElem_toArray, List.getElem_cons_zero, List.getElem_cons_succ, Act.put, List.setIfInBounds_toArray, List.set_cons_zero, List.set_cons_succ]
        refine wpAnyH_take (i := 10) (v := ?_) rfl (by kernel_rfl) (by kernel_rfl) (by kernel_rfl) (fun _ _ _ h => h) (Or.inl ⟨by rfl, ?_⟩) hSS ?_
        rotate_left
        · intro wz hSz
          go_simp
          try with_reducible rfl
        simp only [List.getElem_toArray, List.getElem_cons_zero, List.getElem_cons_succ, Act.put, List.setIfInBounds_toArray, List.set_cons_zero, List.set_cons_succ]
        refine wpAnyH_ready (rs := [8]) (by kernel_rfl) (by simp) (AllReadyH.cons rfl (fun K hK => ?_) AllReadyH.nil)
        refine step_wanted (by rfl) ?_
        simp only [List.getElem_toArray, List.getElem_cons_zero, List.getElem_cons_succ]
        go_simp
        go_at_call 12
        refine (CD.out _).mono ?_
        rintro e wk ⟨rfl, hbk⟩
        go_simp
        refine hK.out _ _ (hSS.below hbk) (fun hSS => ?_)
        clear hK hbk
        refine wpAnyH_ready (rs := [11]) (by kernel_rfl) (by simp) (AllReadyH.cons rfl (fun K hK => ?_) AllReadyH.nil)
        refine step_wanted (by rfl) ?_
        simp only [List.getElem_toArray, List.getElem_cons_zero, List.getElem_cons_succ]
        go_simp
        go_at_call 7
        refine (CE.out _).mono ?_
        rintro e wk ⟨rfl, hbk⟩
        go_simp
        refine hK.out _ _ (hSS.below hbk) (fun hSS => ?_)
        clear hK hbk
        refine wpAnyH_take (i := 12) (v := .bool true) rfl (by kernel_rfl) (by kernel_rfl) (by kernel_rfl) (fun _ _ _ h => h) (Or.inl ⟨by rfl, ?_⟩) hSS ?_
        · intro wz hSz
          go_simp
        simp only [List.getElem_toArray, List.getElem_cons_zero, List.getElem_cons_succ, Act.put, List.setIfInBounds_toArray, List.set_cons_zero, List.set_cons_succ]
        refine wpAnyH_take (i := 13) (v := .bool true) rfl (by kernel_rfl) (by kernel_rfl) (by kernel_rfl) (fun _ _ _ h => h) (Or.inl ⟨by rfl, ?_⟩) hSS ?_
        · intro wz hSz
          go_simp
        simp only [List.getElem_toArray, List.getElem_cons_zero, List.getElem_cons_succ, Act.put, List.setIfInBounds_toArray, List.set_cons_zero, List.set_cons_succ]
        refine wpAnyH_take (i := 14) (v := .bool true) rfl (by kernel_rfl) (by kernel_rfl) (by kernel_rfl) (fun _ _ _ h => h) (Or.inl ⟨by rfl, ?_⟩) hSS ?_
        · intro wz hSz
          go_simp
        simp only [List.getElem_toArray, List.getElem_cons_zero, List.getElem_cons_succ, Act.put, List.setIfInBounds_toArray, List.set_cons_zero, List.set_cons_succ]
        refine wpAnyH_take (i := 15) (v := ?_) rfl (by kernel_rfl) (by kernel_rfl) (by kernel_rfl) (fun _ _ _ h => h) (Or.inl ⟨by rfl, ?_⟩) hSS ?_
        rotate_left
        · intro wz hSz
          obtain ⟨z0, z1, z2, z3⟩ := hSz.cells
          go_simp
          try with_reducible rfl
        simp only [List.getElem_toArray, List.getElem_cons_zero, List.getElem_cons_succ, Act.put, List.setIfInBounds_toArray, List.set_cons_zero, List.set_cons_succ]
        refine wpAnyH_take (i := 16) (v := ?_) rfl (by kernel_rfl) (by kernel_rfl) (by kernel_rfl) (fun _ _ _ h => h) (Or.inl ⟨by rfl, ?_⟩) hSS ?_
        rotate_left
        · intro wz hSz
          go_simp
          try with_reducible rfl
        simp only [List.getElem_toArray, List.getElem_cons_zero, List.getElem_cons_succ, Act.put, List.setIfInBounds_toArray, List.set_cons_zero, List.set_cons_succ]
        refine wpAnyH_take (i := 18) (v := ?_) rfl (by kernel_rfl) (by kernel_rfl) (by kernel_rfl) (fun _ _ _ h => h) (Or.inl ⟨by rfl, ?_⟩) hSS ?_
        rotate_left
        · intro wz hSz
          go_simp
          try with_reducible rfl
        simp only [List.getElem_toArray, List.getElem_cons_zero, List.getElem_cons_succ, Act.put, List.setIfInBounds_toArray, List.set_cons_zero, List.set_cons_succ]
        refine wpAnyH_ready (rs := [17]) (by kernel_rfl) (by simp) (AllReadyH.cons rfl (fun K hK => ?_) AllReadyH.nil)
        refine step_wanted (by rfl) ?_
        simp only [List.getElem_toArray, List.getElem_cons_zero, List.getElem_cons_succ]
        go_simp
        go_at_call 13
        refine (CT.out _).mono ?_
        rintro e wk ⟨rfl, hbk⟩
        go_simp
        refine hK.out _ _ (hSS.below hbk) (fun hSS => ?_)
        clear hK hbk
        refine wpAnyH_take (i := 19) (v := .bool true) rfl (by kernel_rfl) (by kernel_rfl) (by kernel_rfl) (fun _ _ _ h => h) (Or.inl ⟨by rfl, ?_⟩) hSS ?_
        · intro wz hSz
          go_simp
        simp only [List.getElem_toArray, List.getElem_cons_zero, List.getElem_cons_succ, Act.put, List.setIfInBounds_toArray, List.set_cons_zero, List.set_cons_succ]
        refine wpAnyH_take (i := 20) (v := .bool true) rfl (by kernel_rfl) (by kernel_rfl) (by kernel_rfl) (fun _ _ _ h => h) (Or.inl ⟨by rfl, ?_⟩) hSS ?_
        · intro wz hSz
          go_simp
        simp only [List.getElem_toArray, List.getElem_cons_zero, List.getElem_cons_succ, Act.put, List.setIfInBounds_toArray, List.set_cons_zero, List.set_cons_succ]
        refine wpAnyH_take (i := 21) (v := .bool true) rfl (by kernel_rfl) (by kernel_rfl) (by kernel_rfl) (fun _ _ _ h => h) (Or.inl ⟨by rfl, ?_⟩) hSS ?_
        · intro wz hSz
          go_simp
        simp only [List.getElem_toArray, List.getElem_cons_zero, List.getElem_cons_succ, Act.put, List.setIfInBounds_toArray, List.set_cons_zero, List.set_cons_succ]
        refine wpAnyH_take (i := 22) (v := ?_) rfl (by kernel_rfl) (by kernel_rfl) (by kernel_rfl) (fun _ _ _ h => h) (Or.inl ⟨by rfl, ?_⟩) hSS ?_
        rotate_left
        · intro wz hSz
          go_simp
          try with_reducible rfl
        simp only [List.getElem_toArray, List.getElem_cons_zero, List.getElem_cons_succ, Act.put, List.setIfInBounds_toArray, List.set_cons_zero, List.set_cons_succ]
        refine wpAnyH_take (i := 23) (v := .bool false) rfl (by kernel_rfl) (by kernel_rfl) (by kernel_rfl) (fun _ _ _ h => h) (Or.inl ⟨by rfl, ?_⟩) hSS ?_
        · intro wz hSz
          go_simp
        simp only [List.getElem_toArray, List.getElem_cons_zero, List.getElem_cons_succ, Act.put, List.setIfInBounds_toArray, List.set_cons_zero, List.set_cons_succ]
        refine wpAnyH_take (i := 24) (v := ?_) rfl (by kernel_rfl) (by kernel_rfl) (by kernel_rfl) (fun _ _ _ h => h) (Or.inl ⟨by rfl, ?_⟩) hSS ?_
        rotate_left
        · intro wz hSz
          obtain ⟨z0, z1, z2, z3⟩ := hSz.cells
          go_simp
          try with_reducible rfl
        simp only [List.getElem_toArray, List.getElem_cons_zero, List.getElem_cons_succ, Act.put, List.setIfInBounds_toArray, List.set_cons_zero, List.set_cons_succ]
        refine wpAnyH_ready (rs := [25]) (by kernel_rfl) (by simp) (AllReadyH.cons rfl (fun K hK => ?_) AllReadyH.nil)
        refine step_wanted (by rfl) ?_
        simp only [List.getElem_toArray, List.getElem_cons_zero, List.getElem_cons_succ]
        go_simp
        go_at_call 8
        refine (CL.out _).mono ?_
        rintro e wk ⟨rfl, hbk⟩
        go_simp
        refine hK.out _ _ (hSS.below hbk) (fun hSS => ?_)
        clear hK hbk
        refine wpAnyH_take (i := 26) (v := .bool true) rfl (by kernel_rfl) (by kernel_rfl) (by kernel_rfl) (fun _ _ _ h => h) (Or.inl ⟨by rfl, ?_⟩) hSS ?_
        · intro wz hSz
          go_simp
        simp only [List.getElem_toArray, List.getElem_cons_zero, List.getElem_cons_succ, Act.put, List.setIfInBounds_toArray, List.set_cons_zero, List.set_cons_succ]
        refine wpAnyH_take (i := 27) (v := .bool true) rfl (by kernel_rfl) (by kernel_rfl) (by kernel_rfl) (fun _ _ _ h => h) (Or.inl ⟨by rfl, ?_⟩) hSS ?_
        · intro wz hSz
          go_simp
        simp only [List.getElem_toArray, List.getElem_cons_zero, List.getElem_cons_succ, Act.put, List.setIfInBounds_toArray, List.set_cons_zero, List.set_cons_succ]
        refine wpAnyH_take (i := 28) (v := .bool true) rfl (by kernel_rfl) (by kernel_rfl) (by kernel_rfl) (fun _ _ _ h => h) (Or.inl ⟨by rfl, ?_⟩) hSS ?_
        · intro wz hSz
          go_simp
        simp only [List.getElem_toArray, List.getElem_cons_zero, List.getElem_cons_succ, Act.put, List.setIfInBounds_toArray, List.set_cons_zero, List.set_cons_succ]
        refine wpAnyH_take (i := 29) (v := ?_) rfl (by kernel_rfl) (by kernel_rfl) (by kernel_rfl) (fun _ _ _ h => h) (Or.inl ⟨by rfl, ?_⟩) hSS ?_
        rotate_left
        · intro wz hSz
          go_simp
          try with_reducible rfl
        simp only [List.getElem_toArray, List.getElem_cons_zero, List.getElem_cons_succ, Act.put, List.setIfInBounds_toArray, List.set_cons_zero, List.set_cons_succ]
        refine wpAnyH_take (i := 30) (v := .bool false) rfl (by kernel_rfl) (by kernel_rfl) (by kernel_rfl) (fun _ _ _ h => h) (Or.inl ⟨by rfl, ?_⟩) hSS ?_
        · intro wz hSz
          go_simp
        simp only [List.getElem_toArray, List.getElem_cons_zero, List.getElem_cons_succ, Act.put, List.setIfInBounds_toArray, List.set_cons_zero, List.set_cons_succ]
        refine wpAnyH_take (i := 31) (v := ?_) rfl (by kernel_rfl) (by kernel_rfl) (by kernel_rfl) (fun _ _ _ h => h) (Or.inl ⟨by rfl, ?_⟩) hSS ?_
        rotate_left
        · intro wz hSz
          obtain ⟨z0, z1, z2, z3⟩ := hSz.cells
          go_simp
          try with_reducible rfl
        simp only [List.getElem_toArray, List.getElem_cons_zero, List.getElem_cons_succ, Act.put, List.setIfInBounds_toArray, List.set_cons_zero, List.set_cons_succ]
        refine wpAnyH_ready (rs := [32]) (by kernel_rfl) (by simp) (AllReadyH.cons rfl (fun K hK => ?_) AllReadyH.nil)
        refine step_wanted (by rfl) ?_
        simp only [List.getElem_toArray, List.getElem_cons_zero, List.getElem_cons_succ]
        go_simp
        go_at_call 8
        refine (CL.out _).mono ?_
        rintro e wk ⟨rfl, hbk⟩
        go_simp
        refine hK.out _ _ (hSS.below hbk) (fun hSS => ?_)
        clear hK hbk
        refine wpAnyH_take (i := 33) (v := .bool true) rfl (by kernel_rfl) (by kernel_rfl) (by kernel_rfl) (fun _ _ _ h => h) (Or.inl ⟨by rfl, ?_⟩) hSS ?_
        · intro wz hSz
          go_simp
        simp only [List.getElem_toArray, List.getElem_cons_zero, List.getElem_cons_succ, Act.put, List.setIfInBounds_toArray, List.set_cons_zero, List.set_cons_succ]
        refine wpAnyH_take (i := 34) (v := .bool true) rfl (by kernel_rfl) (by kernel_rfl) (by kernel_rfl) (fun _ _ _ h => h) (Or.inl ⟨by rfl, ?_⟩) hSS ?_
        · intro wz hSz
          go_simp
        simp only [List.getElem_toArray, List.getElem_cons_zero, List.getElem_cons_succ, Act.put, List.setIfInBounds_toArray, List.set_cons_zero, List.set_cons_succ]
        refine wpAnyH_take (i := 35) (v := .bool true) rfl (by kernel_rfl) (by kernel_rfl) (by kernel_rfl) (fun _ _ _ h => h) (Or.inl ⟨by rfl, ?_⟩) hSS ?_
        · intro wz hSz
          go_simp
        simp only [List.getElem_toArray, List.getElem_cons_zero, List.getElem_cons_succ, Act.put, List.setIfInBounds_toArray, List.set_cons_zero, List.set_cons_succ]
        refine wpAnyH_take (i := 36) (v := ?_) rfl (by kernel_rfl) (by kernel_rfl) (by kernel_rfl) (fun _ _ _ h => h) (Or.inl ⟨by rfl, ?_⟩) hSS ?_
        rotate_left
        · intro wz hSz
          go_simp
          try with_reducible rfl
        simp only [List.getElem_toArray, List.getElem_cons_zero, List.getElem_cons_succ, Act.put, List.setIfInBounds_toArray, List.set_cons_zero, List.set_cons_succ]
        refine wpAnyH_take (i := 37) (v := .bool false) rfl (by kernel_rfl) (by kernel_rfl) (by kernel_rfl) (fun _ _ _ h => h) (Or.inl ⟨by rfl, ?_⟩) hSS ?_
        · intro wz hSz
          go_simp
        simp only [List.getElem_toArray, List.getElem_cons_zero, List.getElem_cons_succ, Act.put, List.setIfInBounds_toArray, List.set_cons_zero, List.set_cons_succ]
        refine wpAnyH_take (i := 38) (v := .bool false) rfl (by kernel_rfl) (by kernel_rfl) (by kernel_rfl) (fun _ _ _ h => h) (Or.inl ⟨by rfl, ?_⟩) hSS ?_
        · intro wz hSz
          go_simp
        simp only [List.getElem_toArray, List.getElem_cons_zero, List.getElem_cons_succ, Act.put, List.setIfInBounds_toArray, List.set_cons_zero, List.set_cons_succ]
        refine wpAnyH_take (i := 39) (v := ?_) rfl (by kernel_rfl) (by kernel_rfl) (by kernel_rfl) (fun _ _ _ h => h) (Or.inl ⟨by rfl, ?_⟩) hSS ?_
        rotate_left
        · intro wz hSz
          go_simp
          try with_reducible rfl
        simp only [List.getElem_toArray, List.getElem_cons_zero, List.getElem_cons_succ, Act.put, List.setIfInBounds_toArray, List.set_cons_zero, List.set_cons_succ]
        refine wpAnyH_take (i := 40) (v := .bool true) rfl (by kernel_rfl) (by kernel_rfl) (by kernel_rfl) (fun _ _ _ h => h) (Or.inl ⟨by rfl, ?_⟩) hSS ?_
        · intro wz hSz
          go_simp
        simp only [List.getElem_toArray, List.getElem_cons_zero, List.getElem_cons_succ, Act.put, List.setIfInBounds_toArray, List.set_cons_zero, List.set_cons_succ]
        refine wpAnyH_take (i := 41) (v := .bool true) rfl (by kernel_rfl) (by kernel_rfl) (by kernel_rfl) (fun _ _ _ h => h) (Or.inl ⟨by rfl, ?_⟩) hSS ?_
        · intro wz hSz
          go_simp
        simp only [List.getElem_toArray, List.getElem_cons_zero, List.getElem_cons_succ, Act.put, List.setIfInBounds_toArray, List.set_cons_zero, List.set_cons_succ]
        refine wpAnyH_take (i := 42) (v := .bool true) rfl (by kernel_rfl) (by kernel_rfl) (by kernel_rfl) (fun _ _ _ h => h) (Or.inl ⟨by rfl, ?_⟩) hSS ?_
        · intro wz hSz
          go_simp
        simp only [List.getElem_toArray, List.getElem_cons_zero, List.getElem_cons_succ, Act.put, List.setIfInBounds_toArray, List.set_cons_zero, List.set_cons_succ]
        refine wpAnyH_take (i := 43) (v := .bool true) rfl (by kernel_rfl) (by kernel_rfl) (by kernel_rfl) (fun _ _ _ h => h) (Or.inl ⟨by rfl, ?_⟩) hSS ?_
        · intro wz hSz
          go_simp
        simp only [List.getElem_toArray, List.getElem_cons_zero, List.getElem_cons_succ, Act.put, List.setIfInBounds_toArray, List.set_cons_zero, List.set_cons_succ]
        refine wpAnyH_ready (rs := [44]) (by kernel_rfl) (by simp) (AllReadyH.cons rfl (fun K hK => ?_) AllReadyH.nil)
        refine step_wanted (by rfl) ?_
        simp only [List.getElem_toArray, List.getElem_cons_zero, List.getElem_cons_succ]
        go_simp
        go_at_call 14
        refine (CA.out _).mono ?_
        rintro e wk ⟨rfl, hbk⟩
        go_simp
        refine hK.out _ _ (hSS.below hbk) (fun hSS => ?_)
        clear hK hbk
        refine wpAnyH_take (i := 45) (v := .bool true) rfl (by kernel_rfl) (by kernel_rfl) (by kernel_rfl) (fun _ _ _ h => h) (Or.inl ⟨by rfl, ?_⟩) hSS ?_
        · intro wz hSz
          go_simp
        simp only [List.getElem_toArray, List.getElem_cons_zero, List.getElem_cons_succ, Act.put, List.setIfInBounds_toArray, List.set_cons_zero, List.set_cons_succ]
        refine wpAnyH_take (i := 46) (v := ?_) rfl (by kernel_rfl) (by kernel_rfl) (by kernel_rfl) (fun _ _ _ h => h) (Or.inl ⟨by rfl, ?_⟩) hSS ?_
        rotate_left
        · intro wz hSz
          go_simp
          try with_reducible rfl
        simp only [List.getElem_toArray, List.getElem_cons_zero, List.getElem_cons_succ, Act.put, List.setIfInBounds_toArray, List.set_cons_zero, List.set_cons_succ]
        refine wpAnyH_done (by kernel_rfl) ?_ _
        have hB := hSS.2
        go_wp2_with fail
        go_ret
        exact ⟨rfl, hB⟩

set_option maxRecDepth 100000 in
theorem backoffDelays_lifted (os : Os) (started : os.Started) (H : Type) (tok : TypeId × Value → H) :
    ReturnsInHanded {} Try.checked os 3 .any (Rows.backoffDelaysSpec.pre6 tok Try.prog Try.f3 Rows.backoffDelaysRow.domain false) (Rows.backoffDelaysSpec.post tok Try.prog Try.f3 false true false false) := by
  refine returnsInHanded_of_change (C := Try.checked) own_knob started (by kernel_rfl) Try.func3
    (ChangeSpec.witness6 (enc := tok) (C := Try.checked) false ⟨#[], #[.agg #[.int .i64 0, .int .i64 0, .int .i64 0, .int .i64 0], .int .i64 0], []⟩ 8 (by kernel_rfl) (by kernel_rfl) (by kernel_rfl) (by kernel_rfl)) ?_
  intro W base args ds gs before hval0 hW hcnd _
  have hval : ∀ (j : Nat) t v, Try.f3.params[j]? = some t → args[j]? = some v → Value.okWide Try.prog W .any base t v := hval0
  have hW' := hW
  obtain ⟨p, q, hA0, hV, rfl, hfz, hnd⟩ := hW
  have hA : DataW.TrodAll tok Try.prog W 0 (fun _ => true) true Try.f3.params.toList args.toList ds p := hA0
  rw [Try.params3] at hA hval
  obtain ⟨v0, vs0, d0, ds0, p0, q0, hargs, rfl, rfl, h0, r0⟩ := trodAll_cons hA
  obtain ⟨v1, vs1, d1, ds1, p1, q1, rfl, rfl, rfl, h1, r1⟩ := trodAll_cons r0
  obtain ⟨rfl, rfl, rfl⟩ := trodAll_nil r1
  obtain rfl : args = #[v0, v1] := by cases args; simp_all
  obtain ⟨rfl, rfl⟩ := trodVars_none hV
  have k0 := h0
  have lt0 : ∀ x ∈ p0, x.block < W.heap.size := by obtain ⟨m, hm⟩ := k0; exact DataW.trod_lt m _ _ _ hm
  obtain ⟨rb0, rc0, rt0, rm0, rfl⟩ := rule_arg (hval 0 23 v0 rfl rfl) h0
  obtain ⟨a1, rfl, rfl, rfl, w1⟩ := open_int Try.underlying3 (hval 1 3 v1 rfl rfl) h1
  clear hA0 hval0
  refine (delays_walk rb0 rc0 rt0 rm0 a1 W (i64_of_wf w1)).mono fun e W' ⟨he, bel⟩ => ?_
  subst he
  exact ⟨_, rfl, _, _, _, [], _, [], hW', trodAll_mk1 (shut_bool Try.underlying4 _), (trodAll_cons_mk (Below.trod laid_out (by kernel_rfl) (of_decide_eq_true (by kernel_rfl)) k0 bel lt0) (trodAll_cons_mk (shut_int Try.underlying3 w1) trodAll_mk0)), rfl, bel.frame _, fun h => by cases h⟩

set_option maxRecDepth 100000 in
theorem backoffDelays_holds : Rows.BackoffDelaysSaid :=
  OpenClaim.holds_of_wide 3 Try.f3 rfl rfl rfl rfl rfl rfl rfl ⟨rfl, rfl, rfl, rfl, rfl⟩ rfl rfl rfl rfl rfl (by kernel_rfl) Try.func3 (by kernel_rfl)
    (of_decide_eq_true (by kernel_rfl)) (by unfold Func.isWrapper; first | (rw [if_pos (by decide +kernel)]; kernel_rfl) | (rw [if_neg (by decide +kernel)]; exact ⟨rfl, rfl⟩))
    (fun os started H tok _ => backoffDelays_lifted os started H tok)
#print axioms backoffDelays_holds
end Go.Proofs.Ytbcbnoadbjlklab
