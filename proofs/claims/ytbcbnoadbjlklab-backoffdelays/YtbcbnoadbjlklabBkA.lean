/- What a rule's small functions answer: Clip, Add, within, times. They only compute. Condition: the arguments are ints. -/
import Derived.Test.YtbcbnoadbjlklabVarA
namespace Go.Proofs.Ytbcbnoadbjlklab
open Go.RowKit

/-- An int. -/
def I64 (n : Int) : Prop := -9223372036854775808 ≤ n ∧ n ≤ 9223372036854775807
/-- A number, brought to where it is from a least to a greatest one. -/
def brought (l h n : Int) : Int := min (max n l) h
def clp (n : Int) : Int := brought 0 1152921504606846976 n
set_option maxRecDepth 100000 in
theorem clp_range (n : Int) : 0 ≤ clp n ∧ clp n ≤ 1152921504606846976 := by simp only [clp, brought]; omega

set_option maxRecDepth 100000 in
theorem clip_any (n : Int) (w : World) : Calls Try.prog 23 #[.int .i64 n] w fun e w' => e = .returned (.int .i64 (clp n)) ∧ w = w' := by
  go_enter Try.func23, Try.ntmps23
  go_wp2
  all_goals (go_ret; exact ⟨ret_int (by simp only [clp, brought]; omega), rfl⟩)
set_option maxRecDepth 100000 in
theorem lclip_any (n : Int) (w : World) : Calls Try.prog 9 #[.int .i64 n] w fun e w' => e = .returned (.int .i64 (clp n)) ∧ w = w' := by
  go_enter Try.func9, Try.ntmps9
  go_wp2
  all_goals (go_ret; exact ⟨ret_int (by simp only [clp, brought]; omega), rfl⟩)
set_option maxRecDepth 100000 in
theorem within_any (n h : Int) (w : World) : Calls Try.prog 24 #[.int .i64 n, .int .i64 h] w fun e w' => e = .returned (.int .i64 (brought 1 h n)) ∧ w = w' := by
  go_enter Try.func24, Try.ntmps24
  go_wp2
  all_goals (go_ret; exact ⟨ret_int (by simp only [brought]; omega), rfl⟩)
set_option maxRecDepth 100000 in
theorem add_any (a b : Int) (w : World) : Calls Try.prog 21 #[.int .i64 a, .int .i64 b] w fun e w' => e = .returned (.int .i64 (clp (clp a + clp b))) ∧ w = w' := by
  obtain ⟨a0, a1⟩ := clp_range a
  obtain ⟨b0, b1⟩ := clp_range b
  go_enter Try.func21, Try.ntmps21
  go_wp2_with (go_at_call 23; refine (clip_any _ _).mono ?_; rintro e w' ⟨rfl, rfl⟩)
  go_ret
  exact ⟨rfl, rfl⟩
/-- So many times so much; no more than the last tick. -/
def timesI (n c : Int) : Int := if 1152921504606846976 / c < n then 1152921504606846976 else n * c
set_option maxRecDepth 100000 in
theorem times_any (n c : Int) (w : World) (h0 : 0 ≤ n) (hc : 1 ≤ c) (hc1 : c ≤ 1000000) : Calls Try.prog 22 #[.int .i64 n, .int .i64 c] w fun e w' => e = .returned (.int .i64 (timesI n c)) ∧ w = w' := by
  have hq : (1152921504606846976 : Int).tdiv c = 1152921504606846976 / c := Int.tdiv_eq_ediv_of_nonneg (by decide)
  have q0 : 0 ≤ (1152921504606846976 : Int) / c := Int.ediv_nonneg (by decide) (by omega)
  have q1 : (1152921504606846976 : Int) / c ≤ 1152921504606846976 := Int.ediv_le_self _ (by decide)
  have qm : (1152921504606846976 : Int) / c * c ≤ 1152921504606846976 := Int.ediv_mul_le _ (by omega)
  have hT : Hid (timesI n c = if 1152921504606846976 / c < n then 1152921504606846976 else n * c) := rfl
  generalize timesI n c = T at *
  generalize (1152921504606846976 : Int) / c = q at *
  by_cases hn : q < n
  · go_enter Try.func22, Try.ntmps22
    go_wp2
    go_ret
    exact ⟨ret_int (by rw [hT.out, if_pos hn]), rfl⟩
  · have hm0 : 0 ≤ n * c := Int.mul_nonneg h0 (by omega)
    have hm1 : n * c ≤ 1152921504606846976 := Int.le_trans (Int.mul_le_mul_of_nonneg_right (by omega) (by omega)) qm
    go_enter Try.func22, Try.ntmps22
    go_wp2
    go_ret
    exact ⟨ret_int (by rw [hT.out, if_neg (Int.not_lt.2 hn)]), rfl⟩
end Go.Proofs.Ytbcbnoadbjlklab
