/- Numbers as bytes, in plain mathematics: the canonical bytes of a number, how bytes are read, and that the two are inverse. No conditions; no program. -/
import Derived.Laws.BitsAllLaws
import Derived.Laws.Bits128
import Derived.Lib.BitFns
namespace Go.Proofs.Yteidjnkkjjigoaa

/-- The bytes of a number, with fuel. -/
def encF : Nat → Int → List Int
  | 0, _ => []
  | f + 1, n => if n < 128 then [n] else (n % 128 + 128) :: encF f (n / 128)
/-- The bytes of a number below 2^64. -/
def enc (n : Int) : List Int := encF 10 n

theorem encF_lt (f : Nat) (n : Int) (h : n < 128) : encF (f + 1) n = [n] := by simp [encF, h]
theorem encF_ge (f : Nat) (n : Int) (h : 128 ≤ n) : encF (f + 1) n = (n % 128 + 128) :: encF f (n / 128) := by
  have : ¬ n < 128 := by omega
  simp [encF, this]

/-- All are bytes. -/
theorem encF_byte : ∀ (f : Nat) (n : Int), 0 ≤ n → ∀ c ∈ encF f n, 0 ≤ c ∧ c ≤ 255
  | 0, _, _, c, hc => by simp [encF] at hc
  | f + 1, n, h, c, hc => by
    by_cases hn : n < 128
    · rw [encF_lt f n hn] at hc; simp at hc; omega
    · rw [encF_ge f n (by omega)] at hc
      rcases List.mem_cons.1 hc with rfl | hc
      · omega
      · exact encF_byte f (n / 128) (by omega) c hc

/-- How many bytes: at least one, at most the fuel. -/
theorem encF_len : ∀ (f : Nat) (n : Int), 1 ≤ (encF (f + 1) n).length ∧ (encF (f + 1) n).length ≤ f + 1
  | 0, n => by
    by_cases hn : n < 128
    · rw [encF_lt 0 n hn]; simp
    · rw [encF_ge 0 n (by omega)]; simp [encF]
  | f + 1, n => by
    by_cases hn : n < 128
    · rw [encF_lt _ n hn]; simp
    · rw [encF_ge _ n (by omega)]
      have := encF_len f (n / 128)
      simp; omega
theorem enc_len (n : Int) : 1 ≤ (enc n).length ∧ (enc n).length ≤ 10 := encF_len 9 n
theorem enc_ne (n : Int) : enc n ≠ [] := by
  have := (enc_len n).1
  intro h; rw [h] at this; simp at this
theorem enc_byte (n : Int) (h : 0 ≤ n) : ∀ c ∈ enc n, 0 ≤ c ∧ c ≤ 255 := encF_byte 10 n h

/-- Seven bits a byte. -/
theorem size_step (x : Nat) (h : 128 ≤ x) (hx : x < 18446744073709551616) : (Lib.bitLen x + 7 - 1) / 7 = 1 + (Lib.bitLen (x / 128) + 7 - 1) / 7 := by
  have := Lib.bitLen_shift 7 x h hx
  have e : x / 2 ^ 7 = x / 128 := rfl
  rw [e] at this
  omega
theorem size_small (x : Nat) (h0 : x ≠ 0) (h : x < 128) : (Lib.bitLen x + 7 - 1) / 7 = 1 := by
  have h1 := Lib.bitLen_le x 7 (by omega) h
  have h2 := Lib.bitLen_half x h0 (by omega)
  omega
theorem encF_size : ∀ (f : Nat) (x : Nat), x ≠ 0 → x < 128 ^ (f + 1) → x < 18446744073709551616 → (encF (f + 1) (x : Int)).length = (Lib.bitLen x + 7 - 1) / 7
  | 0, x, h0, hp, hx => by
    have hn : x < 128 := by simpa using hp
    rw [encF_lt 0 _ (by omega), size_small x h0 hn]; rfl
  | f + 1, x, h0, hp, hx => by
    by_cases hn : x < 128
    · rw [encF_lt _ _ (by omega), size_small x h0 hn]; rfl
    · rw [encF_ge _ _ (by omega), size_step x (by omega) hx]
      have e : ((x : Int) / 128) = ((x / 128 : Nat) : Int) := by omega
      have hp' : x / 128 < 128 ^ (f + 1) := by
        rw [Nat.div_lt_iff_lt_mul (by omega)]
        calc x < 128 ^ (f + 1 + 1) := hp
          _ = 128 ^ (f + 1) * 128 := by rw [Nat.pow_succ]
      have := encF_size f (x / 128) (by omega) hp' (by omega)
      rw [e, List.length_cons, this]; omega
theorem enc_size (x : Nat) (h0 : x ≠ 0) (hx : x < 18446744073709551616) : (enc (x : Int)).length = (Lib.bitLen x + 7 - 1) / 7 :=
  encF_size 9 x h0 (by omega) hx
/-- What Size answers. -/
theorem enc_len_size (n : Int) (h0 : 0 ≤ n) (h1 : n < 18446744073709551616) : ((enc n).length : Int) = if n = 0 then 1 else ((Lib.bitLen n.toNat : Int) + 7 - 1) / 7 := by
  obtain ⟨x, rfl⟩ := Int.eq_ofNat_of_zero_le h0
  by_cases h : x = 0
  · subst h; rfl
  · have := enc_size x h (by omega)
    rw [if_neg (by omega), this, Int.toNat_natCast]; omega

/-- No number's bytes begin with another one's. -/
theorem encF_apart : ∀ (f : Nat) (n m : Int), 0 ≤ n → 0 ≤ m → n < 128 ^ f → m < 128 ^ f → (encF f m).take (encF f n).length = encF f n → n = m
  | 0, n, m, h1, h2, h3, h4, _ => by simp at h3 h4; omega
  | f + 1, n, m, h1, h2, h3, h4, h => by
    rw [Int.pow_succ] at h3 h4
    by_cases hn : n < 128 <;> by_cases hm : m < 128
    · rw [encF_lt f n hn, encF_lt f m hm] at h; simp at h; omega
    · rw [encF_lt f n hn, encF_ge f m (by omega)] at h; simp at h; omega
    · rw [encF_ge f n (by omega), encF_lt f m hm] at h; simp at h; omega
    · rw [encF_ge f n (by omega), encF_ge f m (by omega)] at h
      simp only [List.length_cons, List.take_succ_cons, List.cons.injEq] at h
      have := encF_apart f (n / 128) (m / 128) (by omega) (by omega) (by omega) (by omega) h.2
      omega
theorem enc_apart (n m : Int) (h1 : 0 ≤ n) (h2 : 0 ≤ m) (h3 : n < 18446744073709551616) (h4 : m < 18446744073709551616) (h : (enc m).take (enc n).length = enc n) : n = m :=
  encF_apart 10 n m h1 h2 (by omega) (by omega) h
/-- A greater number hasn't fewer bytes. -/
theorem encF_mono : ∀ (f : Nat) (n m : Int), n ≤ m → (encF f n).length ≤ (encF f m).length
  | 0, n, m, _ => by simp [encF]
  | f + 1, n, m, h => by
    by_cases hn : n < 128
    · rw [encF_lt f n hn]; exact (encF_len f m).1
    · rw [encF_ge f n (by omega), encF_ge f m (by omega)]
      have := encF_mono f (n / 128) (m / 128) (by omega)
      simp; omega
theorem enc_mono (n m : Int) (h : n ≤ m) : (enc n).length ≤ (enc m).length := encF_mono 10 n m h

/-- How bytes are read: the number, how many bytes, the error. 'i': how many have gone by; 'n': what they tell. -/
def rdF : Nat → Int → List Int → Int × Int × Int
  | _, _, [] => (0, 0, 5)
  | i, n, c :: cs =>
    if (if 9 ≤ i then c = 1 else c ≠ 0 ∨ i = 0) then
      (if c < 128 then (n + c * 128 ^ i, (i : Int) + 1, 0) else rdF (i + 1) (n + c % 128 * 128 ^ i) cs)
    else (0, 0, 4)
def rd (zs : List Int) : Int × Int × Int := rdF 0 0 zs
end Go.Proofs.Yteidjnkkjjigoaa
