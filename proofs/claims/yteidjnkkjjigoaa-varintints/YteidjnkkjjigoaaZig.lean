/- What Zig, Zag and the document's Zig answer: they only compute. Conditions: the arguments are of their kinds. -/
import Derived.Test.YteidjnkkjjigoaaVarA
import Derived.WalkSmall
namespace Go.Proofs.Yteidjnkkjjigoaa
open Go.RowKit

def zigv (n : Int) : Int := if n < 0 then -2 * n - 1 else 2 * n
def zagv (u : Int) : Int := if u % 2 = 1 then -(u / 2) - 1 else u / 2
theorem zigv_bound (n : Int) (h0 : -9223372036854775808 ≤ n) (h1 : n ≤ 9223372036854775807) : 0 ≤ zigv n ∧ zigv n < 18446744073709551616 := by
  unfold zigv; split <;> omega
theorem zag_zig (n : Int) : zagv (zigv n) = n := by
  unfold zigv zagv; split <;> split <;> omega
theorem zig_zag (u : Int) (h : 0 ≤ u) : zigv (zagv u) = u := by
  unfold zigv zagv; split <;> split <;> omega
theorem zagv_bound (u : Int) (h0 : 0 ≤ u) (h1 : u < 18446744073709551616) : -9223372036854775808 ≤ zagv u ∧ zagv u ≤ 9223372036854775807 := by
  unfold zagv; split <;> omega

/-- ^n of an int. -/
theorem i64_not_any (n : Int) (h0 : -9223372036854775808 ≤ n) (h1 : n ≤ 9223372036854775807) : bits .xor .i64 (-1) n = -1 - n := by
  show IntKind.i64.wrap ((BitVec.ofInt 64 (-1) ^^^ BitVec.ofInt 64 n).toNat : Int) = _
  have e : BitVec.ofInt 64 (-1) = BitVec.allOnes 64 := by decide
  rw [e, BitVec.allOnes_xor, BitVec.toNat_not, BitVec.toNat_ofInt]
  simp [IntKind.wrap, IntKind.bits, IntKind.signed]
  omega
/-- u<<1 | 1. -/
theorem or_one (x : Int) (h0 : 0 ≤ x) (h1 : x ≤ 9223372036854775807) : bits .or .u64 (x * 2) 1 = x * 2 + 1 := by
  rw [u64_or _ _ (by omega) (by omega) (by decide) (by decide), show (1 : Int).toNat = 1 from rfl]
  have h := Nat.shiftLeft_add_eq_or_of_lt (i := 1) (b := 1) (by decide) x.toNat
  rw [Nat.shiftLeft_eq] at h
  have e : (x * 2).toNat = x.toNat * 2 ^ 1 := by omega
  rw [e, ← h]; omega

theorem zig_any (n : Int) (w : World) (h0 : -9223372036854775808 ≤ n) (h1 : n ≤ 9223372036854775807) :
    Calls Try.prog 19 #[.int .i64 n] w fun e w' => e = .returned (.int .u64 (zigv n)) ∧ w = w' := by
  by_cases hn : n < 0
  · have HZ : Hid (zigv n = (-1 - n) * 2 + 1) := by show zigv n = _; simp [zigv, hn]; omega
    have hx := i64_not_any n h0 h1
    have ho := or_one (-1 - n) (by omega) (by omega)
    go_enter Try.func19, Try.ntmps19
    go_wp2
    go_ret
    exact ⟨ret_int (by rw [HZ.out, IntWalk.u64_in (-1 - n) ⟨by omega, by omega⟩, IntWalk.u64_in _ ⟨by omega, by omega⟩, ho]), rfl⟩
  · have HZ : Hid (zigv n = n * 2) := by show zigv n = _; simp [zigv, hn]; omega
    go_enter Try.func19, Try.ntmps19
    go_wp2
    go_ret
    exact ⟨ret_int (by rw [HZ.out]), rfl⟩
theorem rzig_any (n : Int) (w : World) (h0 : -9223372036854775808 ≤ n) (h1 : n ≤ 9223372036854775807) :
    Calls Try.prog 22 #[.int .i64 n] w fun e w' => e = .returned (.int .u64 (zigv n)) ∧ w = w' := by
  by_cases hn : 0 ≤ n
  · have HZ : Hid (zigv n = 2 * n) := by
      have : ¬ n < 0 := by omega
      show zigv n = _; simp [zigv, this]
    go_enter Try.func22, Try.ntmps22
    go_wp2
    go_ret
    exact ⟨ret_int (by rw [HZ.out]), rfl⟩
  · have HZ : Hid (zigv n = 2 * -(n + 1) + 1) := by
      have : n < 0 := by omega
      show zigv n = _; simp [zigv, this]; omega
    go_enter Try.func22, Try.ntmps22
    go_wp2
    go_ret
    exact ⟨ret_int (by rw [HZ.out]), rfl⟩
theorem zag_any (u : Int) (w : World) (h0 : 0 ≤ u) (h1 : u < 18446744073709551616) :
    Calls Try.prog 23 #[.int .u64 u] w fun e w' => e = .returned (.int .i64 (zagv u)) ∧ w = w' := by
  have hand : bits .and .u64 u 1 = u % 2 := by
    rw [u64_and _ _ h0 h1 (by decide) (by decide), show (1 : Int).toNat = 1 from rfl, Nat.and_one_is_mod]; omega
  by_cases hu : u % 2 = 1
  · have HZ : Hid (zagv u = -1 - u / 2) := by show zagv u = _; simp [zagv, hu]; omega
    have hx := i64_not_any (u / 2) (by omega) (by omega)
    go_enter Try.func23, Try.ntmps23
    go_wp2
    go_ret
    exact ⟨ret_int (by rw [HZ.out]), rfl⟩
  · have HZ : Hid (zagv u = u / 2) := by show zagv u = _; simp [zagv, hu]
    have hu' : (u % 2 == 1) = false := by simpa using hu
    go_enter Try.func23, Try.ntmps23
    go_wp2
    go_ret
    exact ⟨ret_int (by rw [HZ.out]), rfl⟩
end Go.Proofs.Yteidjnkkjjigoaa
