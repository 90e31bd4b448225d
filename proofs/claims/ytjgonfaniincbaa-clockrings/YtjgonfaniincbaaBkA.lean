/- What a rule's small functions answer: Clip, Add, within, times. They only compute. Condition: the arguments are ints. -/
import Derived.Test.YtjgonfaniincbaaVarA
namespace Go.Proofs.Ytjgonfaniincbaa
open Go.RowKit

/-- An int. -/
def I64 (n : Int) : Prop := -9223372036854775808 ≤ n ∧ n ≤ 9223372036854775807
/-- A number, brought to where it is from a least to a greatest one. -/
def brought (l h n : Int) : Int := min (max n l) h
def clp (n : Int) : Int := brought 0 1152921504606846976 n
set_option maxRecDepth 100000 in
theorem clp_range (n : Int) : 0 ≤ clp n ∧ clp n ≤ 1152921504606846976 := by simp only [clp, brought]; omega

set_option maxRecDepth 100000 in
theorem clip_any (n : Int) (w : World) : Calls Try.prog 20 #[.int .i64 n] w fun e w' => e = .returned (.int .i64 (clp n)) ∧ w = w' := by
  go_enter Try.func20, Try.ntmps20
  go_wp2
  all_goals (go_ret; exact ⟨ret_int (by simp only [clp, brought]; omega), rfl⟩)
set_option maxRecDepth 100000 in
theorem add_any (a b : Int) (w : World) : Calls Try.prog 21 #[.int .i64 a, .int .i64 b] w fun e w' => e = .returned (.int .i64 (clp (clp a + clp b))) ∧ w = w' := by
  obtain ⟨a0, a1⟩ := clp_range a
  obtain ⟨b0, b1⟩ := clp_range b
  go_enter Try.func21, Try.ntmps21
  go_wp2_with (go_at_call 20; refine (clip_any _ _).mono ?_; rintro e w' ⟨rfl, rfl⟩)
  go_ret
  exact ⟨rfl, rfl⟩
/-- So many times so much; no more than the last tick. -/
def timesI (n c : Int) : Int := if 1152921504606846976 / c < n then 1152921504606846976 else n * c
end Go.Proofs.Ytjgonfaniincbaa
