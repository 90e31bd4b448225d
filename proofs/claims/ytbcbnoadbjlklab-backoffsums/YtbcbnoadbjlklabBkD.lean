/- What Delay answers, and the law's own: how long to wait behind a failure. They only read. Condition: the arguments are ints. -/
import Derived.Test.YtbcbnoadbjlklabBkC
namespace Go.Proofs.Ytbcbnoadbjlklab
open Go.RowKit

/-- The delay behind k failures and one more. -/
def dlyN (b c : Int) (k : Nat) : Int := min (b * 2 ^ k) c
/-- The delay behind the n-th failure. -/
def dly (b c t m n : Int) : Int := if rightB b c t m = true ∧ 1 ≤ n then dlyN b c (n - 1).toNat else 0
set_option maxRecDepth 100000 in
theorem right_of {b c t m : Int} (h : rightB b c t m = true) : 1 ≤ b ∧ b ≤ c ∧ c ≤ 1000000 ∧ 1 ≤ t ∧ t ≤ 100 ∧ 1 ≤ m ∧ m ≤ 1000000 := of_decide_eq_true h
set_option maxRecDepth 100000 in
theorem pow2_step (b : Int) (k : Nat) : b * 2 ^ (k + 1) = b * 2 ^ k * 2 := by rw [Int.pow_succ, Int.mul_assoc]
set_option maxRecDepth 100000 in
theorem pow2_pos (b : Int) (hb : 1 ≤ b) (k : Nat) : 1 ≤ b * 2 ^ k := by
  induction k with
  | zero => simpa using hb
  | succ k ih => rw [pow2_step]; omega
set_option maxRecDepth 100000 in
theorem pow2_mono (b : Int) (hb : 1 ≤ b) (k j : Nat) : b * 2 ^ k ≤ b * 2 ^ (k + j) := by
  induction j with
  | zero => simp
  | succ j ih => have := pow2_pos b hb (k + j); rw [← Nat.add_assoc, pow2_step]; omega
set_option maxRecDepth 100000 in
theorem pow2_lim (b : Int) (hb : 1 ≤ b) (hc : b ≤ 1000000) (k : Nat) (hk : k ≤ 29) : b * 2 ^ k ≤ 536870912000000 := by
  have h1 := pow2_mono b hb k (29 - k)
  rw [show k + (29 - k) = 29 by omega] at h1
  have h2 : b * 2 ^ 29 ≤ 1000000 * 2 ^ 29 := Int.mul_le_mul_of_nonneg_right hc (by decide)
  omega
set_option maxRecDepth 100000 in
theorem pow2_29 (b : Int) (hb : 1 ≤ b) : 1000000 ≤ b * 2 ^ 29 := by omega
set_option maxRecDepth 100000 in
theorem dlyN_cap {b c : Int} (hb : 1 ≤ b) {k n : Nat} (h : c ≤ b * 2 ^ k) (hn : k ≤ n) : dlyN b c n = c := by
  have := pow2_mono b hb k (n - k)
  rw [show k + (n - k) = n by omega] at this
  simp only [dlyN]; omega
set_option maxRecDepth 100000 in
set_option maxHeartbeats 800000 in
theorem delay_any (b c t m n : Int) (hn : I64 n) (w : World) : Calls Try.prog 12 #[.agg #[.int .i64 b, .int .i64 c, .int .i64 t, .int .i64 m], .int .i64 n] w fun e w' =>
    e = .returned (.int .i64 (dly b c t m n)) ∧ Below w.heap.size w w' := by
  have h0 := Rul.start w b c t m
  obtain ⟨hn0, hn1⟩ := hn
  by_cases hr : rightB b c t m = true
  · by_cases h1 : 1 ≤ n
    · have hd : Hid (dly b c t m n = dlyN b c (n - 1).toNat) := if_pos ⟨hr, h1⟩
      generalize dly b c t m n = D at *
      obtain ⟨r0, r1, r2, r3, r4, r5, r6⟩ := right_of hr
      have CR : Hid (∀ W, Calls Try.prog 11 #[.agg #[.int .i64 b, .int .i64 c, .int .i64 t, .int .i64 m]] W fun e w' => e = .returned (.bool true) ∧ Below W.heap.size W w') := fun W => by have := right_any b c t m W; rwa [hr] at this
      clear hr
      go_enter Try.func12, Try.ntmps12
      go_wp2_with fail
      refine (CR.out _).mono ?_
      rintro e wk ⟨rfl, hbk⟩
      have h1 := h0.below hbk
      clear h0 hbk
      obtain ⟨z0, z1, z2, z3⟩ := h1.cells
      have hB := h1.2
      clear h1 CR
      go_wp2_with fail
      go_loop [5, 6] (fun sd si => ∃ (k : Nat) (x : Int), sd = .int .i64 x ∧ si = .int .i64 (1 + (k : Int)) ∧ 1 + (k : Int) ≤ n ∧ Hid (x = b * 2 ^ k) ∧ 1 ≤ x ∧ x < 2 * c + b) (fun sd _ => (2 * c - intOf sd).toNat)
      case atStart => exact ⟨0, b, rfl, rfl, by omega, (by simp [Hid]), by omega, by omega⟩
      case round =>
        obtain ⟨k, x, rfl, rfl, hk, hx, hx0, hx1⟩ := hrel
        by_cases hk1 : 1 + (k : Int) < n
        · by_cases hc : x < c
          · have hx' : Hid (x * 2 = b * 2 ^ (k + 1)) := by show _ = _; rw [pow2_step, hx.out]
            go_wp2_with fail
            go_round
            case rel => exact ⟨k + 1, x * 2, by go_num, by go_num, by omega, hx', by omega, by omega⟩
            case measure => simp [intOf]; omega
          · have hv : Hid (D = c) := by show _ = _; rw [hd.out]; exact dlyN_cap r0 (k := k) (by have := hx.out; omega) (by omega)
            have hc' : decide (x < c) = false := decide_eq_false hc
            go_wp2_with fail
            all_goals (go_ret; exact ⟨ret_int (by have := hv.out; omega), hB⟩)
        · have hv : Hid (D = min x c) := by show _ = _; rw [hd.out, show (n - 1).toNat = k by omega, hx.out]; rfl
          go_wp2_with fail
          all_goals (go_ret; exact ⟨ret_int (by have := hv.out; omega), hB⟩)
    · have hd : dly b c t m n = 0 := if_neg (fun h => h1 h.2)
      rw [hd]
      have CR : Hid (∀ W, Calls Try.prog 11 #[.agg #[.int .i64 b, .int .i64 c, .int .i64 t, .int .i64 m]] W fun e w' => e = .returned (.bool true) ∧ Below W.heap.size W w') := fun W => by have := right_any b c t m W; rwa [hr] at this
      have h1' : n < 1 := by omega
      clear hr hd h1
      go_enter Try.func12, Try.ntmps12
      go_wp2_with fail
      refine (CR.out _).mono ?_
      rintro e wk ⟨rfl, hbk⟩
      have hB := (h0.below hbk).2
      clear h0 hbk CR
      go_wp2_with fail
      go_ret
      exact ⟨rfl, hB⟩
  · have hd : dly b c t m n = 0 := if_neg (fun h => hr h.1)
    rw [hd]
    have CR : Hid (∀ W, Calls Try.prog 11 #[.agg #[.int .i64 b, .int .i64 c, .int .i64 t, .int .i64 m]] W fun e w' => e = .returned (.bool false) ∧ Below W.heap.size W w') := fun W => by have := right_any b c t m W; rwa [Bool.eq_false_iff.2 hr] at this
    clear hr hd
    go_enter Try.func12, Try.ntmps12
    go_wp2_with fail
    refine (CR.out _).mono ?_
    rintro e wk ⟨rfl, hbk⟩
    have hB := (h0.below hbk).2
    clear h0 hbk CR
    go_wp2_with fail
    go_ret
    exact ⟨rfl, hB⟩
set_option maxRecDepth 100000 in
set_option maxHeartbeats 800000 in
theorem ldelay_any (b c t m n : Int) (hn : I64 n) (w : World) : Calls Try.prog 7 #[.agg #[.int .i64 b, .int .i64 c, .int .i64 t, .int .i64 m], .int .i64 n] w fun e w' =>
    e = .returned (.int .i64 (dly b c t m n)) ∧ Below w.heap.size w w' := by
  have h0 := Rul.start w b c t m
  obtain ⟨hn0, hn1⟩ := hn
  by_cases hr : rightB b c t m = true
  · by_cases h1 : 1 ≤ n
    · have hd : Hid (dly b c t m n = dlyN b c (n - 1).toNat) := if_pos ⟨hr, h1⟩
      generalize dly b c t m n = D at *
      obtain ⟨r0, r1, r2, r3, r4, r5, r6⟩ := right_of hr
      have CR : Hid (∀ W, Calls Try.prog 8 #[.agg #[.int .i64 b, .int .i64 c, .int .i64 t, .int .i64 m]] W fun e w' => e = .returned (.bool true) ∧ Below W.heap.size W w') := fun W => by have := lright_any b c t m W; rwa [hr] at this
      clear hr
      go_enter Try.func7, Try.ntmps7
      go_wp2_with fail
      refine (CR.out _).mono ?_
      rintro e wk ⟨rfl, hbk⟩
      have h1 := h0.below hbk
      clear h0 hbk
      obtain ⟨z0, z1, z2, z3⟩ := h1.cells
      have hB := h1.2
      clear h1 CR
      go_wp2_with fail
      go_loop [5, 6] (fun sd si => ∃ (k : Nat) (x : Int), sd = .int .i64 x ∧ si = .int .i64 (1 + (k : Int)) ∧ 1 + (k : Int) ≤ n ∧ k ≤ 29 ∧ Hid (x = b * 2 ^ k) ∧ 1 ≤ x ∧ x ≤ 536870912000000) (fun _ si => (30 - intOf si).toNat)
      case atStart => exact ⟨0, b, rfl, rfl, by omega, by omega, (by simp [Hid]), by omega, by omega⟩
      case round =>
        obtain ⟨k, x, rfl, rfl, hk, hk29, hx, hx0, hx1⟩ := hrel
        by_cases hk1 : 1 + (k : Int) < n
        · by_cases hc : k < 29
          · have hx' : Hid (2 * x = b * 2 ^ (k + 1)) := by show _ = _; rw [pow2_step, hx.out, Int.mul_comm]
            have hx2 := pow2_lim b r0 (by omega) (k + 1) (by omega)
            rw [← hx'.out] at hx2
            go_wp2_with fail
            go_round
            case rel => exact ⟨k + 1, 2 * x, by go_num, by go_num, by omega, by omega, hx', by omega, by omega⟩
            case measure => simp [intOf]; omega
          · have hv : Hid (D = min x c) := by
              show _ = _
              have hb29 := pow2_29 b r0
              rw [hd.out, dlyN_cap r0 (k := 29) (by omega) (by omega), hx.out, show k = 29 by omega]
              omega
            obtain rfl : k = 29 := by omega
            go_wp2_with fail
            all_goals (go_ret; exact ⟨ret_int (by have := hv.out; omega), hB⟩)
        · have hv : Hid (D = min x c) := by show _ = _; rw [hd.out, show (n - 1).toNat = k by omega, hx.out]; rfl
          go_wp2_with fail
          all_goals (go_ret; exact ⟨ret_int (by have := hv.out; omega), hB⟩)
    · have hd : dly b c t m n = 0 := if_neg (fun h => h1 h.2)
      rw [hd]
      have CR : Hid (∀ W, Calls Try.prog 8 #[.agg #[.int .i64 b, .int .i64 c, .int .i64 t, .int .i64 m]] W fun e w' => e = .returned (.bool true) ∧ Below W.heap.size W w') := fun W => by have := lright_any b c t m W; rwa [hr] at this
      have h1' : n < 1 := by omega
      clear hr hd h1
      go_enter Try.func7, Try.ntmps7
      go_wp2_with fail
      refine (CR.out _).mono ?_
      rintro e wk ⟨rfl, hbk⟩
      have hB := (h0.below hbk).2
      clear h0 hbk CR
      go_wp2_with fail
      go_ret
      exact ⟨rfl, hB⟩
  · have hd : dly b c t m n = 0 := if_neg (fun h => hr h.1)
    rw [hd]
    have CR : Hid (∀ W, Calls Try.prog 8 #[.agg #[.int .i64 b, .int .i64 c, .int .i64 t, .int .i64 m]] W fun e w' => e = .returned (.bool false) ∧ Below W.heap.size W w') := fun W => by have := lright_any b c t m W; rwa [Bool.eq_false_iff.2 hr] at this
    clear hr hd
    go_enter Try.func7, Try.ntmps7
    go_wp2_with fail
    refine (CR.out _).mono ?_
    rintro e wk ⟨rfl, hbk⟩
    have hB := (h0.below hbk).2
    clear h0 hbk CR
    go_wp2_with fail
    go_ret
    exact ⟨rfl, hB⟩
end Go.Proofs.Ytbcbnoadbjlklab
