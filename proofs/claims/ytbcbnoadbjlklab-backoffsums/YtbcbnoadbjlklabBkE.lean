/- What Total and New answer. They only read; New makes a state. Condition: the arguments are ints. -/
import Derived.Test.YtbcbnoadbjlklabBkD
import Derived.Deep.CutRange
namespace Go.Proofs.Ytbcbnoadbjlklab
open Go.RowKit

/-- The sum of so many first delays. -/
def totN (b c : Int) : Nat → Int
  | 0 => 0
  | k + 1 => totN b c k + dlyN b c k
def tot (b c t m n : Int) : Int := if rightB b c t m = true ∧ 1 ≤ n then min (totN b c n.toNat) 1152921504606846976 else 0
set_option maxRecDepth 100000 in
theorem totN_add {b c : Int} (hb : 1 ≤ b) {k : Nat} (h : c ≤ b * 2 ^ k) (j : Nat) : totN b c (k + j) = totN b c k + j * c := by
  induction j with
  | zero => simp
  | succ j ih =>
    show totN b c (k + j) + dlyN b c (k + j) = _
    rw [ih, dlyN_cap hb h (by omega)]
    simp only [Int.natCast_succ, Int.add_mul]; omega
set_option maxRecDepth 100000 in
theorem times_sum (s c : Int) (j : Nat) (h0 : 0 ≤ s) (h1 : s ≤ 1000000000) (hc : 1 ≤ c) : clp (clp s + clp (timesI j c)) = min (s + j * c) 1152921504606846976 := by
  have hm : 0 ≤ (j : Int) * c := Int.mul_nonneg (by omega) (by omega)
  unfold timesI
  by_cases h : (1152921504606846976 : Int) / c < j
  · rw [if_pos h]
    have h2 : (1152921504606846976 : Int) < (1152921504606846976 / c + 1) * c := Int.lt_ediv_add_one_mul_self _ (by omega)
    have h3 : (1152921504606846976 / c + 1) * c ≤ j * c := Int.mul_le_mul_of_nonneg_right (by omega) (by omega)
    simp only [clp, brought]; omega
  · rw [if_neg h]
    simp only [clp, brought]; omega
set_option maxRecDepth 100000 in
theorem dlyN_le (b c : Int) (k : Nat) : dlyN b c k ≤ c := by simp only [dlyN]; omega
set_option maxRecDepth 100000 in
theorem dlyN_pos (b c : Int) (hb : 1 ≤ b) (hc : 1 ≤ c) (k : Nat) : 1 ≤ dlyN b c k := by have := pow2_pos b hb k; simp only [dlyN]; omega
set_option maxRecDepth 100000 in
theorem pow2_small {b : Int} (hb : 1 ≤ b) {k : Nat} (h : b * 2 ^ k < 1000000) : k ≤ 19 := by
  rcases Nat.lt_or_ge k 20 with h1 | h1
  · omega
  · have := pow2_mono b hb 20 (k - 20)
    rw [show 20 + (k - 20) = k by omega] at this
    omega
set_option maxRecDepth 100000 in
set_option maxHeartbeats 1600000 in
theorem total_any (b c t m n : Int) (hn : I64 n) (w : World) : Calls Try.prog 13 #[.agg #[.int .i64 b, .int .i64 c, .int .i64 t, .int .i64 m], .int .i64 n] w fun e w' =>
    e = .returned (.int .i64 (tot b c t m n)) ∧ Below w.heap.size w w' := by
  have h0 := Rul.start w b c t m
  by_cases hr : rightB b c t m = true
  · by_cases h1 : 1 ≤ n
    · have hd : Hid (tot b c t m n = min (totN b c n.toNat) 1152921504606846976) := if_pos ⟨hr, h1⟩
      generalize tot b c t m n = D at *
      obtain ⟨r0, r1, r2, r3, r4, r5, r6⟩ := right_of hr
      have CR : Hid (∀ W, Calls Try.prog 11 #[.agg #[.int .i64 b, .int .i64 c, .int .i64 t, .int .i64 m]] W fun e w' => e = .returned (.bool true) ∧ Below W.heap.size W w') := fun W => by have := right_any b c t m W; rwa [hr] at this
      have CD : Hid (∀ (k : Nat) W, k ≤ 20 → Calls Try.prog 12 #[.agg #[.int .i64 b, .int .i64 c, .int .i64 t, .int .i64 m], .int .i64 ((k : Int) + 1)] W fun e w' => e = .returned (.int .i64 (dlyN b c k)) ∧ Below W.heap.size W w') := fun k W hk => by
        have := delay_any b c t m ((k : Int) + 1) ⟨by omega, by omega⟩ W
        rwa [show dly b c t m ((k : Int) + 1) = dlyN b c k from (if_pos ⟨hr, by omega⟩).trans (by rw [show ((k : Int) + 1 - 1).toNat = k by omega])] at this
      obtain ⟨hn0, hn1⟩ := hn
      clear hr r3 r4 r5 r6
      go_enter Try.func13, Try.ntmps13
      go_wp2_with fail
      refine (CR.out _).mono ?_
      rintro e wk ⟨rfl, hbk⟩
      have hRul := h0.below hbk
      clear h0 hbk CR
      go_wp2_with fail
      go_loopw [5, 6] (fun ss sg wr => ∃ (k : Nat) (s : Int), ss = .int .i64 s ∧ sg = .int .i64 (k : Int) ∧ (k : Int) ≤ n ∧ k ≤ 20 ∧ Hid (s = totN b c k) ∧ 0 ≤ s ∧ s ≤ 1000000 * k ∧ Rul w wr b c t m) (fun _ sg _ => (21 - intOf sg).toNat)
      case atStart => exact ⟨0, 0, rfl, rfl, by omega, by omega, rfl, by omega, by omega, hRul⟩
      case round =>
        obtain ⟨k, s, rfl, rfl, hkn, hk20, hs, hs0, hs1, hRul⟩ := hrel
        have hdl := dlyN_le b c k
        have hdp := dlyN_pos b c r0 (by omega) k
        by_cases hk1 : (k : Int) < n
        · have CK : Hid (∀ W, Calls Try.prog 12 #[.agg #[.int .i64 b, .int .i64 c, .int .i64 t, .int .i64 m], .int .i64 ((k : Int) + 1)] W fun e w' => e = .returned (.int .i64 (dlyN b c k)) ∧ Below W.heap.size W w') := fun W => CD.out k W hk20
          have hT : Hid (totN b c (k + 1) = totN b c k + dlyN b c k) := rfl
          have hE : Hid (¬ dlyN b c k < c → D = min (s + (n.toNat - k : Nat) * c) 1152921504606846976) := fun h => by
            rw [hd.out, hs.out]
            have h3 : c ≤ b * 2 ^ k := by simp only [dlyN] at h; omega
            rw [show n.toNat = k + (n.toNat - k) by omega, totN_add r0 h3, show k + (n.toNat - k) - k = n.toNat - k by omega]
          have hG : Hid (dlyN b c k < c → k ≤ 19) := fun h => pow2_small r0 (by simp only [dlyN] at h; omega)
          have hwr : IntKind.i64.wrap ((k : Int) + 1) = (k : Int) + 1 := IntWalk.i64_in _ ⟨by omega, by omega⟩
          clear CD
          generalize dlyN b c k = dk at *
          go_upto_region 4 with fail
          refine wp_region_held_drew (S := fun w' => Rul w w' b c t m) (by kernel_rfl) hRul.drew (fun hSS => ?_)
          refine wpAnyH_take (i := 0) (v := ?_) rfl (by kernel_rfl) (by kernel_rfl) (by kernel_rfl) (fun _ _ _ h => h) (Or.inl ⟨by rfl, ?_⟩) hSS ?_
          rotate_left
          · intro wz hSz
            go_simp
            try with_reducible rfl
          simp only [List.getElem_toArray, List.getElem_cons_zero, Act.put, List.setIfInBounds_toArray, List.set_cons_zero, List.set_cons_succ]
          refine wpAnyH_take (i := 1) (v := ?_) rfl (by kernel_rfl) (by kernel_rfl) (by kernel_rfl) (fun _ _ _ h => h) (Or.inl ⟨by rfl, ?_⟩) hSS ?_
          rotate_left
          · intro wz hSz
            go_simp
            try with_reducible rfl
          simp only [List.getElem_toArray, List.getElem_cons_zero, List.getElem_cons_succ, Act.put, List.setIfInBounds_toArray, List.set_cons_zero, List.set_cons_succ]
          refine wpAnyH_take (i := 2) (v := .bool true) rfl (by kernel_rfl) (by kernel_rfl) (by kernel_rfl) (fun _ _ _ h => h) (Or.inl ⟨by rfl, ?_⟩) hSS ?_
          · intro wz hSz
            go_simp
          simp only [List.getElem_toArray, List.getElem_cons_zero, List.getElem_cons_succ, Act.put, List.setIfInBounds_toArray, List.set_cons_zero, List.set_cons_succ]
          refine wpAnyH_take (i := 3) (v := .bool true) rfl (by kernel_rfl) (by kernel_rfl) (by kernel_rfl) (fun _ _ _ h => h) (Or.inl ⟨by rfl, ?_⟩) hSS ?_
          · intro wz hSz
            go_simp
          simp only [List.getElem_toArray, List.getElem_cons_zero, List.getElem_cons_succ, Act.put, List.setIfInBounds_toArray, List.set_cons_zero, List.set_cons_succ]
          refine wpAnyH_take (i := 4) (v := ?_) rfl (by kernel_rfl) (by kernel_rfl) (by kernel_rfl) (fun _ _ _ h => h) (Or.inl ⟨by rfl, ?_⟩) hSS ?_
          rotate_left
          · intro wz hSz
            obtain ⟨z0, z1, z2, z3⟩ := hSz.cells
            go_simp
            try with_reducible rfl
          simp only [List.getElem_toArray, List.getElem_cons_zero, List.getElem_cons_succ, Act.put, List.setIfInBounds_toArray, List.set_cons_zero, List.set_cons_succ]
          refine wpAnyH_take (i := 5) (v := ?_) rfl (by kernel_rfl) (by kernel_rfl) (by kernel_rfl) (fun _ _ _ h => h) (Or.inl ⟨by rfl, ?_⟩) hSS ?_
          rotate_left
          · intro wz hSz
            go_simp
            try with_reducible rfl
          simp only [List.getElem_toArray, List.getElem_cons_zero, List.getElem_cons_succ, Act.put, List.setIfInBounds_toArray, List.set_cons_zero, List.set_cons_succ]
          refine wpAnyH_take (i := 6) (v := ?_) rfl (by kernel_rfl) (by kernel_rfl) (by kernel_rfl) (fun _ _ _ h => h) (Or.inl ⟨by rfl, ?_⟩) hSS ?_
          rotate_left
          · intro wz hSz
            go_simp
            try with_reducible rfl
          simp only [List.getElem_toArray, List.getElem_cons_zero, List.getElem_cons_succ, Act.put, List.setIfInBounds_toArray, List.set_cons_zero, List.set_cons_succ]
          refine wpAnyH_take (i := 8) (v := ?_) rfl (by kernel_rfl) (by kernel_rfl) (by kernel_rfl) (fun _ _ _ h => h) (Or.inl ⟨by rfl, ?_⟩) hSS ?_
          rotate_left
          · intro wz hSz
            go_simp
            try with_reducible rfl
          simp only [List.getElem_toArray, List.getElem_cons_zero, List.getElem_cons_succ, Act.put, List.setIfInBounds_toArray, List.set_cons_zero, List.set_cons_succ]
          refine wpAnyH_take (i := 9) (v := ?_) rfl (by kernel_rfl) (by kernel_rfl) (by kernel_rfl) (fun _ _ _ h => h) (Or.inl ⟨by rfl, ?_⟩) hSS ?_
          rotate_left
          · intro wz hSz
            obtain ⟨z0, z1, z2, z3⟩ := hSz.cells
            go_simp
            try with_reducible rfl
          simp only [List.getElem_toArray, List.getElem_cons_zero, List.getElem_cons_succ, Act.put, List.setIfInBounds_toArray, List.set_cons_zero, List.set_cons_succ]
          refine wpAnyH_ready (rs := [7]) (by kernel_rfl) (by simp) (AllReadyH.cons rfl (fun K hK => ?_) AllReadyH.nil)
          refine step_wanted (by rfl) ?_
          simp only [List.getElem_toArray, List.getElem_cons_zero, List.getElem_cons_succ]
          go_simp
          go_at_call 12
          refine (CK.out _).mono ?_
          rintro e wk ⟨rfl, hbk⟩
          go_simp
          refine hK.out _ _ (hSS.below hbk) (fun hSS => ?_)
          clear hK hbk
          refine wpAnyH_take (i := 10) (v := ?_) rfl (by kernel_rfl) (by kernel_rfl) (by kernel_rfl) (fun _ _ _ h => h) (Or.inl ⟨by rfl, ?_⟩) hSS ?_
          rotate_left
          · intro wz hSz
            go_simp
            try with_reducible rfl
          simp only [List.getElem_toArray, List.getElem_cons_zero, List.getElem_cons_succ, Act.put, List.setIfInBounds_toArray, List.set_cons_zero, List.set_cons_succ]
          refine wpAnyH_take (i := 11) (v := ?_) rfl (by kernel_rfl) (by kernel_rfl) (by kernel_rfl) (fun _ _ _ h => h) (Or.inl ⟨by rfl, ?_⟩) hSS ?_
          rotate_left
          · intro wz hSz
            go_simp
            try with_reducible rfl
          simp only [List.getElem_toArray, List.getElem_cons_zero, List.getElem_cons_succ, Act.put, List.setIfInBounds_toArray, List.set_cons_zero, List.set_cons_succ]
          refine wpAnyH_done (by kernel_rfl) ?_ _
          clear hRul
          have h2 := hSS
          obtain ⟨z0, z1, z2, z3⟩ := h2.cells
          by_cases hc : dk < c
          · have hk19 := hG.out hc
            have hs' : Hid (s + dk = totN b c (k + 1)) := by show _ = _; rw [hT.out, hs.out]
            clear hE hG hT hs hSS
            go_wp2_with fail
            refine (CK.out _).mono ?_
            rintro e wk2 ⟨rfl, hbk2⟩
            have h3 := h2.below hbk2
            clear h2 z0 z1 z2 z3 hbk2 CK
            go_wp2_with fail
            go_roundw
            case rel => exact ⟨k + 1, s + dk, by go_num, by go_num, by omega, by omega, hs', by omega, by omega, h3⟩
            case measure => simp [intOf]; omega
          · have hv := hE.out hc
            have hj : (((n.toNat - k : Nat) : Int)) = n - k := by omega
            have hts := times_sum s c (n.toNat - k) hs0 (by omega) (by omega)
            rw [hj] at hts hv
            have hB := h2.2
            have CT : Hid (∀ W, Calls Try.prog 22 #[.int .i64 (n - k), .int .i64 c] W fun e w' => e = .returned (.int .i64 (timesI (n - k) c)) ∧ W = w') := fun W => times_any _ _ W (by omega) (by omega) r2
            generalize timesI (n - k) c = T at *
            have hts' : Hid (clp (clp s + clp T) = D) := by show _ = _; rw [hts, hv]
            have hc' : decide (dk < c) = false := decide_eq_false hc
            clear hE hG hT hs hSS hv hts hd h2 CK hdl hdp
            go_wp2_with (first | (go_at_call 22; refine (CT.out _).mono ?_; rintro e w' ⟨rfl, rfl⟩) | (go_at_call 21; refine (add_any _ _ _).mono ?_; rintro e w' ⟨rfl, rfl⟩))
            go_ret
            exact ⟨ret_int hts'.out, hB⟩
        · have hk : n = k := by omega
          have hv : Hid (clp (clp s + clp (timesI 0 c)) = D) := by
            have h3 := times_sum s c 0 hs0 (by omega) (by omega)
            show _ = _
            rw [hd.out, show n.toNat = k by omega, ← hs.out]
            simpa using h3
          have CT : Hid (∀ W, Calls Try.prog 22 #[.int .i64 0, .int .i64 c] W fun e w' => e = .returned (.int .i64 (timesI 0 c)) ∧ W = w') := fun W => times_any _ _ W (by omega) (by omega) r2
          generalize timesI 0 c = T at *
          have hk' : decide ((k : Int) < n) = false := decide_eq_false hk1
          obtain rfl := hk
          go_upto_region 4 with fail
          refine wp_region_held_drew (S := fun w' => Rul w w' b c t m) (by kernel_rfl) hRul.drew (fun hSS => ?_)
          refine wpAnyH_take (i := 0) (v := ?_) rfl (by kernel_rfl) (by kernel_rfl) (by kernel_rfl) (fun _ _ _ h => h) (Or.inl ⟨by rfl, ?_⟩) hSS ?_
          rotate_left
          · intro wz hSz
            go_simp
            try with_reducible rfl
          simp only [List.getElem_toArray, List.getElem_cons_zero, Act.put, List.setIfInBounds_toArray, List.set_cons_zero, List.set_cons_succ]
          refine wpAnyH_take (i := 1) (v := ?_) rfl (by kernel_rfl) (by kernel_rfl) (by kernel_rfl) (fun _ _ _ h => h) (Or.inl ⟨by rfl, ?_⟩) hSS ?_
          rotate_left
          · intro wz hSz
            go_simp
            try with_reducible rfl
          simp only [List.getElem_toArray, List.getElem_cons_zero, List.getElem_cons_succ, Act.put, List.setIfInBounds_toArray, List.set_cons_zero, List.set_cons_succ]
          refine wpAnyH_take (i := 2) (v := .bool false) rfl (by kernel_rfl) (by kernel_rfl) (by kernel_rfl) (fun _ _ _ h => h) (Or.inl ⟨by rfl, ?_⟩) hSS ?_
          · intro wz hSz
            go_simp
          simp only [List.getElem_toArray, List.getElem_cons_zero, List.getElem_cons_succ, Act.put, List.setIfInBounds_toArray, List.set_cons_zero, List.set_cons_succ]
          refine wpAnyH_take (i := 3) (v := .bool false) rfl (by kernel_rfl) (by kernel_rfl) (by kernel_rfl) (fun _ _ _ h => h) (Or.inl ⟨by rfl, ?_⟩) hSS ?_
          · intro wz hSz
            go_simp
          simp only [List.getElem_toArray, List.getElem_cons_zero, List.getElem_cons_succ, Act.put, List.setIfInBounds_toArray, List.set_cons_zero, List.set_cons_succ]
          refine wpAnyH_take (i := 4) (v := undef) rfl (by kernel_rfl) (by kernel_rfl) (by kernel_rfl) (fun _ _ _ h => h) (Or.inr ⟨by rfl, rfl⟩) hSS ?_
          simp only [List.getElem_toArray, List.getElem_cons_zero, List.getElem_cons_succ, Act.put, List.setIfInBounds_toArray, List.set_cons_zero, List.set_cons_succ]
          refine wpAnyH_take (i := 5) (v := undef) rfl (by kernel_rfl) (by kernel_rfl) (by kernel_rfl) (fun _ _ _ h => h) (Or.inr ⟨by rfl, rfl⟩) hSS ?_
          simp only [List.getElem_toArray, List.getElem_cons_zero, List.getElem_cons_succ, Act.put, List.setIfInBounds_toArray, List.set_cons_zero, List.set_cons_succ]
          refine wpAnyH_take (i := 6) (v := undef) rfl (by kernel_rfl) (by kernel_rfl) (by kernel_rfl) (fun _ _ _ h => h) (Or.inr ⟨by rfl, rfl⟩) hSS ?_
          simp only [List.getElem_toArray, List.getElem_cons_zero, List.getElem_cons_succ, Act.put, List.setIfInBounds_toArray, List.set_cons_zero, List.set_cons_succ]
          refine wpAnyH_take (i := 7) (v := undef) rfl (by kernel_rfl) (by kernel_rfl) (by kernel_rfl) (fun _ _ _ h => h) (Or.inr ⟨by rfl, rfl⟩) hSS ?_
          simp only [List.getElem_toArray, List.getElem_cons_zero, List.getElem_cons_succ, Act.put, List.setIfInBounds_toArray, List.set_cons_zero, List.set_cons_succ]
          refine wpAnyH_take (i := 8) (v := undef) rfl (by kernel_rfl) (by kernel_rfl) (by kernel_rfl) (fun _ _ _ h => h) (Or.inr ⟨by rfl, rfl⟩) hSS ?_
          simp only [List.getElem_toArray, List.getElem_cons_zero, List.getElem_cons_succ, Act.put, List.setIfInBounds_toArray, List.set_cons_zero, List.set_cons_succ]
          refine wpAnyH_take (i := 9) (v := undef) rfl (by kernel_rfl) (by kernel_rfl) (by kernel_rfl) (fun _ _ _ h => h) (Or.inr ⟨by rfl, rfl⟩) hSS ?_
          simp only [List.getElem_toArray, List.getElem_cons_zero, List.getElem_cons_succ, Act.put, List.setIfInBounds_toArray, List.set_cons_zero, List.set_cons_succ]
          refine wpAnyH_take (i := 10) (v := undef) rfl (by kernel_rfl) (by kernel_rfl) (by kernel_rfl) (fun _ _ _ h => h) (Or.inr ⟨by rfl, rfl⟩) hSS ?_
          simp only [List.getElem_toArray, List.getElem_cons_zero, List.getElem_cons_succ, Act.put, List.setIfInBounds_toArray, List.set_cons_zero, List.set_cons_succ]
          refine wpAnyH_take (i := 11) (v := ?_) rfl (by kernel_rfl) (by kernel_rfl) (by kernel_rfl) (fun _ _ _ h => h) (Or.inl ⟨by rfl, ?_⟩) hSS ?_
          rotate_left
          · intro wz hSz
            go_simp
            try with_reducible rfl
          simp only [List.getElem_toArray, List.getElem_cons_zero, List.getElem_cons_succ, Act.put, List.setIfInBounds_toArray, List.set_cons_zero, List.set_cons_succ]
          refine wpAnyH_done (by kernel_rfl) ?_ _
          clear hRul
          obtain ⟨z0, z1, z2, z3⟩ := hSS.cells
          have hB := hSS.2
          clear hd CD hs hSS hdl hdp
          go_wp2_with (first | (go_at_call 22; refine (CT.out _).mono ?_; rintro e w' ⟨rfl, rfl⟩) | (go_at_call 21; refine (add_any _ _ _).mono ?_; rintro e w' ⟨rfl, rfl⟩))
          go_ret
          exact ⟨ret_int hv.out, hB⟩
    · have hd : tot b c t m n = 0 := if_neg (fun h => h1 h.2)
      rw [hd]
      have CR : Hid (∀ W, Calls Try.prog 11 #[.agg #[.int .i64 b, .int .i64 c, .int .i64 t, .int .i64 m]] W fun e w' => e = .returned (.bool true) ∧ Below W.heap.size W w') := fun W => by have := right_any b c t m W; rwa [hr] at this
      have h1' : n < 1 := by omega
      clear hr hd h1
      go_enter Try.func13, Try.ntmps13
      go_wp2_with fail
      refine (CR.out _).mono ?_
      rintro e wk ⟨rfl, hbk⟩
      have hB := (h0.below hbk).2
      clear h0 hbk CR
      go_wp2_with fail
      go_ret
      exact ⟨rfl, hB⟩
  · have hd : tot b c t m n = 0 := if_neg (fun h => hr h.1)
    rw [hd]
    have CR : Hid (∀ W, Calls Try.prog 11 #[.agg #[.int .i64 b, .int .i64 c, .int .i64 t, .int .i64 m]] W fun e w' => e = .returned (.bool false) ∧ Below W.heap.size W w') := fun W => by have := right_any b c t m W; rwa [Bool.eq_false_iff.2 hr] at this
    clear hr hd
    go_enter Try.func13, Try.ntmps13
    go_wp2_with fail
    refine (CR.out _).mono ?_
    rintro e wk ⟨rfl, hbk⟩
    have hB := (h0.below hbk).2
    clear h0 hbk CR
    go_wp2_with fail
    go_ret
    exact ⟨rfl, hB⟩
/-- A state in memory. -/
def Sta (W : World) (B : Nat) (b c t m s f : Int) : Prop := W.heap[B]? = some (.cells #[.int .i64 b, .int .i64 c, .int .i64 t, .int .i64 m, .int .i64 s, .int .i64 f] 39)
set_option maxRecDepth 100000 in
set_option maxHeartbeats 800000 in
theorem bnew_any (b c t m : Int) (w : World) : Calls Try.prog 10 #[.agg #[.int .i64 b, .int .i64 c, .int .i64 t, .int .i64 m]] w fun e w' =>
    (if rightB b c t m = true then ∃ B, w.heap.size < B ∧ e = .returned (.tuple #[.pointer (some ⟨B, 0, none⟩), .int .i64 0]) ∧ Sta w' B b c t m 0 0 else e = .returned (.tuple #[.pointer none, .int .i64 1])) ∧ Below w.heap.size w w' := by
  have h0 := Rul.start w b c t m
  by_cases hr : rightB b c t m = true
  · have CR : Hid (∀ W, Calls Try.prog 11 #[.agg #[.int .i64 b, .int .i64 c, .int .i64 t, .int .i64 m]] W fun e w' => e = .returned (.bool true) ∧ Below W.heap.size W w') := fun W => by have := right_any b c t m W; rwa [hr] at this
    simp only [if_pos hr]
    clear hr
    go_enter Try.func10, Try.ntmps10
    go_wp2_with fail
    refine (CR.out _).mono ?_
    rintro e wk ⟨rfl, hbk⟩
    have h1 := h0.below hbk
    clear h0 hbk CR
    obtain ⟨z0, z1, z2, z3⟩ := h1.cells
    go_wp2_with fail
    go_ret2
    exact ⟨⟨wk.heap.size, (Array.getElem?_eq_some_iff.1 h1.1).1, rfl, heap_alloc_new _ _⟩, (h1.below (below_alloc _ _)).2⟩
  · have CR : Hid (∀ W, Calls Try.prog 11 #[.agg #[.int .i64 b, .int .i64 c, .int .i64 t, .int .i64 m]] W fun e w' => e = .returned (.bool false) ∧ Below W.heap.size W w') := fun W => by have := right_any b c t m W; rwa [Bool.eq_false_iff.2 hr] at this
    simp only [if_neg hr]
    clear hr
    go_enter Try.func10, Try.ntmps10
    go_wp2_with fail
    refine (CR.out _).mono ?_
    rintro e wk ⟨rfl, hbk⟩
    have h1 := h0.below hbk
    clear h0 hbk CR
    go_wp2_with fail
    go_ret2
    exact ⟨rfl, h1.2⟩
end Go.Proofs.Ytbcbnoadbjlklab
