/- Whole numbers as floats are the same just if the numbers are. Condition: from -2^53 to 2^53. -/
import Derived.Test.YtheabeapmhoclaaVFloat
namespace Go.Proofs.Ytheabeapmhoclaa
open Ieee

/-- So far down a float's places reach. -/
def farD (k : Nat) : Nat := 2 ^ k
set_option maxRecDepth 100000 in
theorem farD_pos (k : Nat) : 0 < farD k := Nat.two_pow_pos k
set_option maxRecDepth 100000 in
theorem farD_succ (k : Nat) : farD (k + 1) = farD k * 2 := Nat.pow_succ 2 k
set_option maxRecDepth 100000 in
theorem farD_add (d k : Nat) : 2 ^ d * farD k = farD (d + k) := (Nat.pow_add 2 d k).symm
set_option maxRecDepth 100000 in
/-- What a whole number's float reads as: that number, so many places down. -/
theorem read_int (n : Int) (h : -9007199254740992 ≤ n ∧ n ≤ 9007199254740992) : ∃ (s : Bool) (m : Nat) (i : Int), FloatKind.f64.format.read (floatOfInt .f64 n) = .number s m i ∧ -1074 ≤ i ∧ m * farD (i + 1074).toNat = n.natAbs * farD 1074 ∧ (n ≠ 0 → s = decide (n < 0)) := by
  by_cases h0 : n = 0
  · subst h0
    exact ⟨false, 0, -1074, by decide +kernel, by decide, by rw [Nat.zero_mul, Int.natAbs_zero, Nat.zero_mul], by simp⟩
  · have e : FloatKind.f64.format.read (floatOfInt .f64 n) = double.read (double.nearest (decide (n < 0)) n.natAbs 0) := rfl
    have hm0 : n.natAbs ≠ 0 := by omega
    have hmx : n.natAbs ≤ 9007199254740992 := by omega
    rw [e]
    generalize n.natAbs = mag at *
    have h1 := Nat.log2_self_le hm0
    have hL : mag.log2 ≤ 53 := by
      have hlt : mag.log2 < 54 := by
        rw [Nat.log2_lt hm0]; omega
      omega
    by_cases h53 : mag.log2 = 53
    · have hm : mag = 9007199254740992 := by rw [h53] at h1; omega
      subst hm
      refine ⟨decide (n < 0), 4503599627370496, 1, ?_, by decide, ?_, fun _ => rfl⟩
      · cases decide (n < 0) <;> decide +kernel
      · have e5 : ((1 : Int) + 1074).toNat = 1074 + 1 := rfl
        rw [e5, farD_succ]
        omega
    · obtain ⟨d, hd⟩ : ∃ d, mag.log2 + d = 52 := ⟨52 - mag.log2, by omega⟩
      have hb := kept_bounds mag d hm0 hd
      have hd' : d ≤ 52 := by omega
      have hw := word_read (decide (n < 0)) ((1074 - d) * 4503599627370496 + mag * 2 ^ d) (by omega) (by omega)
      have m1 : ((1074 - d) * 4503599627370496 + mag * 2 ^ d) % 4503599627370496 = mag * 2 ^ d - 4503599627370496 := by omega
      have m2 : ((1074 - d) * 4503599627370496 + mag * 2 ^ d) / 4503599627370496 - 1 = 1074 - d := by omega
      have m3 : 4503599627370496 + (mag * 2 ^ d - 4503599627370496) = mag * 2 ^ d := by omega
      have m4 : -1074 + ((1074 - d : Nat) : Int) = -(d : Int) := by omega
      refine ⟨decide (n < 0), mag * 2 ^ d, -(d : Int), ?_, by omega, ?_, fun _ => rfl⟩
      · rw [near_small _ mag d hm0 hd, hw, m1, m2, m3, m4]
      · rw [show (-(d : Int) + 1074).toNat = 1074 - d by omega, Nat.mul_assoc, farD_add, show d + (1074 - d) = 1074 by omega]
set_option maxRecDepth 100000 in
theorem signed_up {s : Bool} {m k e Z : Nat} {n : Int} (hv : m * farD (k + e) = n.natAbs * Z) (hs : n ≠ 0 → s = decide (n < 0)) : signed s m k * (2 ^ e : Nat) = n * (Z : Nat) := by
  have e1 : ((m <<< k : Nat) : Int) * (2 ^ e : Nat) = ((n.natAbs * Z : Nat) : Int) := by
    unfold farD at hv
    rw [Nat.shiftLeft_eq, ← hv, Nat.pow_add, ← Nat.mul_assoc]
    simp
  have e2 : ((n.natAbs * Z : Nat) : Int) = (n.natAbs : Int) * (Z : Int) := by simp
  rw [e2] at e1
  unfold signed
  by_cases hn : n < 0
  · have hs' := hs (by omega)
    have h3 : ((n.natAbs : Nat) : Int) = -n := by omega
    rw [hs', if_pos (by simpa using hn), Int.neg_mul, e1, h3, Int.neg_mul, Int.neg_neg]
  · have h3 : ((n.natAbs : Nat) : Int) = n := by omega
    rw [h3] at e1
    cases s
    · rw [if_neg (by simp)]; exact e1
    · have h0 : n = 0 := by
        by_cases h : n = 0
        · exact h
        · have := hs h; simp at this; omega
      rw [if_pos rfl, Int.neg_mul, e1, h0]; simp
set_option maxRecDepth 100000 in
theorem float_eq (n m : Int) (hn : -9007199254740992 ≤ n ∧ n ≤ 9007199254740992) (hm : -9007199254740992 ≤ m ∧ m ≤ 9007199254740992) : Op.floatEq .f64 (floatOfInt .f64 n) (floatOfInt .f64 m) = decide (n = m) := by
  obtain ⟨s, a, i, e1, h1, v1, s1⟩ := read_int n hn
  obtain ⟨t, b, j, e2, h2, v2, s2⟩ := read_int m hm
  unfold Op.floatEq Format.order
  rw [e1, e2]
  unfold Datum.order
  simp only []
  obtain ⟨base, hbase⟩ : ∃ base, base = min i j := ⟨_, rfl⟩
  rw [← hbase]
  have hi : (i + 1074).toNat = (i - base).toNat + (base + 1074).toNat := by omega
  have hj : (j + 1074).toNat = (j - base).toNat + (base + 1074).toNat := by omega
  rw [hi] at v1
  rw [hj] at v2
  have u1 := signed_up v1 s1
  have u2 := signed_up v2 s2
  have hp : (0 : Int) < ((2 ^ (base + 1074).toNat : Nat) : Int) := by have := Nat.two_pow_pos (base + 1074).toNat; omega
  have hq : (0 : Int) < ((farD 1074 : Nat) : Int) := by have := farD_pos 1074; omega
  generalize signed s a (i - base).toNat = A at *
  generalize signed t b (j - base).toNat = B at *
  have key : A = B ↔ n = m := by
    constructor
    · intro e
      rw [e, u2] at u1
      exact (Int.eq_of_mul_eq_mul_right (by omega) u1).symm
    · intro e
      rw [e, ← u2] at u1
      exact Int.eq_of_mul_eq_mul_right (by omega) u1
  by_cases hnm : n = m
  · rw [decide_eq_true hnm, key.2 hnm]
    simp
  · rw [decide_eq_false hnm]
    have : A ≠ B := fun e => hnm (key.1 e)
    simp [this]
end Go.Proofs.Ytheabeapmhoclaa
