/- Whole numbers up to 2^53 as floats, and back: in plain mathematics. No conditions but the bound; no program. -/
import Derived.Laws.FloatArith
namespace Go.Proofs.Ytgknefpefeghcaa
open Ieee

set_option maxRecDepth 100000 in
theorem kept_bounds (mag d : Nat) (h0 : mag ≠ 0) (hd : mag.log2 + d = 52) : 4503599627370496 ≤ mag * 2 ^ d ∧ mag * 2 ^ d < 9007199254740992 := by
  have h1 := Nat.log2_self_le h0
  have h2 : mag < 2 ^ (mag.log2 + 1) := Nat.lt_log2_self
  have e1 : 2 ^ mag.log2 * 2 ^ d = 4503599627370496 := by rw [← Nat.pow_add, hd]
  have e2 : 2 ^ (mag.log2 + 1) * 2 ^ d = 9007199254740992 := by rw [← Nat.pow_add, show mag.log2 + 1 + d = 53 by omega]
  have hp : 0 < 2 ^ d := Nat.two_pow_pos d
  refine ⟨?_, ?_⟩
  · rw [← e1]; exact Nat.mul_le_mul_right _ h1
  · rw [← e2]; exact Nat.mul_lt_mul_of_pos_right h2 hp
set_option maxRecDepth 100000 in
theorem near_small (neg : Bool) (mag d : Nat) (h0 : mag ≠ 0) (hd : mag.log2 + d = 52) :
    double.nearest neg mag 0 = double.word neg ((1074 - d) * 4503599627370496 + mag * 2 ^ d) := by
  have hb := kept_bounds mag d h0 hd
  have el : double.leastPlace = -1074 := rfl
  have ef : double.fractionBits = 52 := rfl
  have eb : double.binade = 4503599627370496 := rfl
  have ei : double.infRung = 2047 * 4503599627370496 := rfl
  have hlast : max ((0 : Int) + mag.log2 - ((52 : Nat) : Int)) (-1074) = -(d : Int) := by omega
  unfold Format.nearest
  rw [if_neg h0]
  simp only [el, ef, eb, ei, hlast]
  have t1 : ((0 : Int) - -(d : Int)).toNat = d := by omega
  have t2 : (-(d : Int) - 0).toNat = 0 := by omega
  have t3 : (-(d : Int) - -1074).toNat = 1074 - d := by omega
  rw [t1, t2, t3]
  have hc : Toward.even.cut neg (mag <<< d) 0 = mag * 2 ^ d := by
    unfold Toward.cut
    simp [Nat.shiftLeft_eq, Nat.mod_one]
  rw [hc, Nat.min_eq_left (by omega)]
set_option maxRecDepth 100000 in
theorem word_read (neg : Bool) (rung : Nat) (h : rung < 2047 * 4503599627370496) (h2 : 4503599627370496 ≤ rung) :
    double.read (double.word neg rung) = .number neg (4503599627370496 + rung % 4503599627370496) (-1074 + ((rung / 4503599627370496 - 1 : Nat) : Int)) := by
  have el : double.leastPlace = -1074 := rfl
  have eb : double.binade = 4503599627370496 := rfl
  have ei : double.infRung = 2047 * 4503599627370496 := rfl
  have es : double.signWeight = 9223372036854775808 := rfl
  unfold Format.read Format.word
  rw [el, eb, ei, es]
  cases neg
  · have a1 : rung / 9223372036854775808 % 2 = 0 := by omega
    have a2 : rung % 9223372036854775808 = rung := by omega
    simp only [Bool.false_eq_true, if_false, a1, a2]
    rw [if_neg (by omega), if_pos h]
    rfl
  · have a1 : (9223372036854775808 + rung) / 9223372036854775808 % 2 = 1 := by omega
    have a2 : (9223372036854775808 + rung) % 9223372036854775808 = rung := by omega
    simp only [if_true, a1, a2]
    rw [if_neg (by omega), if_pos h]
    rfl
set_option maxRecDepth 100000 in
theorem cut_zero (neg : Bool) (n k : Nat) (hk : k ≤ n.log2 + 2) : Toward.zero.cut neg n k = n / 2 ^ k := by
  unfold Toward.cut
  simp [Nat.shiftLeft_eq, Nat.min_eq_left hk]
set_option maxRecDepth 100000 in
theorem there_back (neg : Bool) (mag : Nat) (h0 : mag ≠ 0) (h : mag ≤ 9007199254740992) : (double.read (double.nearest neg mag 0)).toInt .zero = some (signed neg mag 0) := by
  have h1 := Nat.log2_self_le h0
  have hL : mag.log2 ≤ 53 := by
    have hlt : mag.log2 < 54 := by
      rw [Nat.log2_lt h0]; omega
    omega
  by_cases h53 : mag.log2 = 53
  · have hm : mag = 9007199254740992 := by rw [h53] at h1; omega
    subst hm
    cases neg <;> decide +kernel
  · obtain ⟨d, hd⟩ : ∃ d, mag.log2 + d = 52 := ⟨52 - mag.log2, by omega⟩
    have hb := kept_bounds mag d h0 hd
    rw [near_small neg mag d h0 hd]
    have hd' : d ≤ 52 := by omega
    have hw := word_read neg ((1074 - d) * 4503599627370496 + mag * 2 ^ d) (by omega) (by omega)
    have m1 : ((1074 - d) * 4503599627370496 + mag * 2 ^ d) % 4503599627370496 = mag * 2 ^ d - 4503599627370496 := by omega
    have m2 : ((1074 - d) * 4503599627370496 + mag * 2 ^ d) / 4503599627370496 - 1 = 1074 - d := by omega
    rw [hw, m1, m2]
    have m3 : 4503599627370496 + (mag * 2 ^ d - 4503599627370496) = mag * 2 ^ d := by omega
    have m4 : -1074 + ((1074 - d : Nat) : Int) = -(d : Int) := by omega
    rw [m3, m4]
    unfold Datum.toInt Datum.integral
    have t1 : (-(d : Int)).toNat = 0 := by omega
    have t2 : (- -(d : Int)).toNat = d := by omega
    simp only [t1, t2, Nat.shiftLeft_zero]
    have hlg : (mag * 2 ^ d).log2 = 52 := by
      rw [Nat.log2_eq_iff (by omega)]
      omega
    rw [cut_zero neg (mag * 2 ^ d) d (by rw [hlg]; omega), Nat.mul_div_cancel _ (Nat.two_pow_pos d)]
set_option maxRecDepth 100000 in
/-- A whole number as a float, and back. -/
theorem float_back (n : Int) (h : -9007199254740992 ≤ n ∧ n ≤ 9007199254740992) : floatToIntVal .f64 (floatOfInt .f64 n) .i64 = some n := by
  unfold floatToIntVal
  have e : (FloatKind.f64.decode (floatOfInt .f64 n)).toInt .zero = some n := by
    by_cases h0 : n = 0
    · subst h0; decide +kernel
    · show (double.read (double.nearest (decide (n < 0)) n.natAbs 0)).toInt .zero = some n
      rw [there_back _ n.natAbs (by omega) (by omega)]
      congr 1
      unfold signed
      by_cases hn : n < 0
      · rw [if_pos (by simpa using hn)]; simp; omega
      · rw [if_neg (by simpa using hn)]; simp; omega
  rw [e]
  show (if IntKind.i64.min ≤ n ∧ n ≤ IntKind.i64.max then some n else none) = some n
  have e1 : IntKind.i64.min = -9223372036854775808 := rfl
  have e2 : IntKind.i64.max = 9223372036854775807 := rfl
  rw [if_pos]
  rw [e1, e2]
  omega
end Go.Proofs.Ytgknefpefeghcaa
