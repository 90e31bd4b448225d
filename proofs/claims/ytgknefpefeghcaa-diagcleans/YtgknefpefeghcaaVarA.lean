/- What Size and mayStand answer: they only compute. Conditions: the arguments are of their kinds. -/
import Derived.Test.YtgknefpefeghcaaRow
import Derived.Test.YtgknefpefeghcaaPure
import Derived.Test.YtgknefpefeghcaaShelf
namespace Go.Proofs.Ytgknefpefeghcaa
open Go.RowKit

set_option maxRecDepth 100000 in
theorem ret_int {k : IntKind} {a b : Int} (h : a = b) : Ending.returned (.int k a) = .returned (.int k b) := by rw [h]

set_option maxRecDepth 100000 in
theorem ret_bool {a b : Bool} (h : a = b) : Ending.returned (.bool a) = .returned (.bool b) := by rw [h]

set_option maxRecDepth 100000 in
theorem size_any (n : Int) (w : World) (h0 : 0 ≤ n) (h1 : n < 18446744073709551616) :
    Calls Try.prog 101 #[.int .u64 n] w fun e w' => e = .returned (.int .i64 (enc n).length) ∧ w = w' := by
  have hs := enc_len_size n h0 h1
  have hl := enc_len n
  have HS : Hid (((enc n).length : Int) = if n = 0 then 1 else ((Lib.bitLen n.toNat : Int) + 7 - 1) / 7) := hs
  clear hs
  by_cases hn : n = 0
  · subst hn
    go_enter Try.func101, Try.ntmps101
    go_wp2
    go_ret
    exact ⟨ret_int (by rw [HS.out]; rfl), rfl⟩
  · have hb : Lib.bitLen n.toNat ≤ 64 := Lib.bitLen_le n.toNat 64 (by omega) (by omega)
    have hn' : (n == 0) = false := by simpa using hn
    go_enter Try.func101, Try.ntmps101
    go_wp2_with (go_at_call 99; refine (len64_any _ _ h0 (by omega)).mono ?_; rintro e w' ⟨rfl, rfl⟩)
    go_ret
    exact ⟨ret_int (by rw [HS.out, if_neg hn]), rfl⟩

set_option maxRecDepth 100000 in
theorem may_any (i c : Int) (w : World) :
    Calls Try.prog 102 #[.int .i64 i, .int .u8 c] w fun e w' => e = .returned (.bool (mayB i c)) ∧ w = w' := by
  by_cases hi : 9 ≤ i
  · have e : mayB i c = (c == 1) := by simp [mayB, hi]
    have E : Hid (mayB i c = (c == 1)) := e
    clear e
    go_enter Try.func102, Try.ntmps102
    go_wp2
    go_ret
    exact ⟨ret_bool E.out.symm, rfl⟩
  · by_cases hc : c = 0
    · subst hc
      have e : mayB i 0 = (i == 0) := by simp [mayB, hi]
      have E : Hid (mayB i 0 = (i == 0)) := e
      clear e
      go_enter Try.func102, Try.ntmps102
      go_wp2
      go_ret
      exact ⟨ret_bool E.out.symm, rfl⟩
    · have e : mayB i c = true := by simp [mayB, hi, hc]
      have E : Hid (mayB i c = true) := e
      have hc' : (c != 0) = true := by simpa using hc
      clear e
      go_enter Try.func102, Try.ntmps102
      go_wp2
      go_ret
      exact ⟨ret_bool E.out.symm, rfl⟩
end Go.Proofs.Ytgknefpefeghcaa
