/- Numbers as bytes, in plain mathematics: the canonical bytes of a number, how bytes are read, and that the two are inverse. No conditions; no program. -/
import Derived.Laws.BitsAllLaws
import Derived.Laws.Bits128
import Derived.Lib.BitFns
namespace Go.Proofs.Ytgknefpefeghcaa

/-- The bytes of a number, with fuel. -/
def encF : Nat → Int → List Int
  | 0, _ => []
  | f + 1, n => if n < 128 then [n] else (n % 128 + 128) :: encF f (n / 128)
/-- The bytes of a number below 2^64. -/
def enc (n : Int) : List Int := encF 10 n

set_option maxRecDepth 100000 in
theorem encF_lt (f : Nat) (n : Int) (h : n < 128) : encF (f + 1) n = [n] := by simp [encF, h]
set_option maxRecDepth 100000 in
theorem encF_ge (f : Nat) (n : Int) (h : 128 ≤ n) : encF (f + 1) n = (n % 128 + 128) :: encF f (n / 128) := by
  have : ¬ n < 128 := by omega
  simp [encF, this]

set_option maxRecDepth 100000 in
/-- All are bytes. -/
theorem encF_byte : ∀ (f : Nat) (n : Int), 0 ≤ n → ∀ c ∈ encF f n, 0 ≤ c ∧ c ≤ 255
  | 0, _, _, c, hc => by simp [encF] at hc
  | f + 1, n, h, c, hc => by
    by_cases hn : n < 128
    · rw [encF_lt f n hn] at hc; simp at hc; omega
    · rw [encF_ge f n (by omega)] at hc
      rcases List.mem_cons.1 hc with rfl | hc
      · omega
      · exact encF_byte f (n / 128) (by omega) c hc

set_option maxRecDepth 100000 in
/-- How many bytes: at least one, at most the fuel. -/
theorem encF_len : ∀ (f : Nat) (n : Int), 1 ≤ (encF (f + 1) n).length ∧ (encF (f + 1) n).length ≤ f + 1
  | 0, n => by
    by_cases hn : n < 128
    · rw [encF_lt 0 n hn]; simp
    · rw [encF_ge 0 n (by omega)]; simp [encF]
  | f + 1, n => by
    by_cases hn : n < 128
    · rw [encF_lt _ n hn]; simp
    · rw [encF_ge _ n (by omega)]
      have := encF_len f (n / 128)
      simp; omega
set_option maxRecDepth 100000 in
theorem enc_len (n : Int) : 1 ≤ (enc n).length ∧ (enc n).length ≤ 10 := encF_len 9 n
set_option maxRecDepth 100000 in
theorem enc_ne (n : Int) : enc n ≠ [] := by
  have := (enc_len n).1
  intro h; rw [h] at this; simp at this
set_option maxRecDepth 100000 in
theorem enc_byte (n : Int) (h : 0 ≤ n) : ∀ c ∈ enc n, 0 ≤ c ∧ c ≤ 255 := encF_byte 10 n h

set_option maxRecDepth 100000 in
/-- Seven bits a byte. -/
theorem size_step (x : Nat) (h : 128 ≤ x) (hx : x < 18446744073709551616) : (Lib.bitLen x + 7 - 1) / 7 = 1 + (Lib.bitLen (x / 128) + 7 - 1) / 7 := by
  have := Lib.bitLen_shift 7 x h hx
  have e : x / 2 ^ 7 = x / 128 := rfl
  rw [e] at this
  omega
set_option maxRecDepth 100000 in
theorem size_small (x : Nat) (h0 : x ≠ 0) (h : x < 128) : (Lib.bitLen x + 7 - 1) / 7 = 1 := by
  have h1 := Lib.bitLen_le x 7 (by omega) h
  have h2 := Lib.bitLen_half x h0 (by omega)
  omega
set_option maxRecDepth 100000 in
theorem encF_size : ∀ (f : Nat) (x : Nat), x ≠ 0 → x < 128 ^ (f + 1) → x < 18446744073709551616 → (encF (f + 1) (x : Int)).length = (Lib.bitLen x + 7 - 1) / 7
  | 0, x, h0, hp, hx => by
    have hn : x < 128 := by simpa using hp
    rw [encF_lt 0 _ (by omega), size_small x h0 hn]; rfl
  | f + 1, x, h0, hp, hx => by
    by_cases hn : x < 128
    · rw [encF_lt _ _ (by omega), size_small x h0 hn]; rfl
    · rw [encF_ge _ _ (by omega), size_step x (by omega) hx]
      have e : ((x : Int) / 128) = ((x / 128 : Nat) : Int) := by omega
      have hp' : x / 128 < 128 ^ (f + 1) := by
        rw [Nat.div_lt_iff_lt_mul (by omega)]
        calc x < 128 ^ (f + 1 + 1) := hp
          _ = 128 ^ (f + 1) * 128 := by rw [Nat.pow_succ]
      have := encF_size f (x / 128) (by omega) hp' (by omega)
      rw [e, List.length_cons, this]; omega
set_option maxRecDepth 100000 in
theorem enc_size (x : Nat) (h0 : x ≠ 0) (hx : x < 18446744073709551616) : (enc (x : Int)).length = (Lib.bitLen x + 7 - 1) / 7 :=
  encF_size 9 x h0 (by omega) hx
set_option maxRecDepth 100000 in
/-- What Size answers. -/
theorem enc_len_size (n : Int) (h0 : 0 ≤ n) (h1 : n < 18446744073709551616) : ((enc n).length : Int) = if n = 0 then 1 else ((Lib.bitLen n.toNat : Int) + 7 - 1) / 7 := by
  obtain ⟨x, rfl⟩ := Int.eq_ofNat_of_zero_le h0
  by_cases h : x = 0
  · subst h; rfl
  · have := enc_size x h (by omega)
    rw [if_neg (by omega), this, Int.toNat_natCast]; omega

set_option maxRecDepth 100000 in
/-- No number's bytes begin with another one's. -/
theorem encF_apart : ∀ (f : Nat) (n m : Int), 0 ≤ n → 0 ≤ m → n < 128 ^ f → m < 128 ^ f → (encF f m).take (encF f n).length = encF f n → n = m
  | 0, n, m, h1, h2, h3, h4, _ => by simp at h3 h4; omega
  | f + 1, n, m, h1, h2, h3, h4, h => by
    rw [Int.pow_succ] at h3 h4
    by_cases hn : n < 128 <;> by_cases hm : m < 128
    · rw [encF_lt f n hn, encF_lt f m hm] at h; simp at h; omega
    · rw [encF_lt f n hn, encF_ge f m (by omega)] at h; simp at h; omega
    · rw [encF_ge f n (by omega), encF_lt f m hm] at h; simp at h; omega
    · rw [encF_ge f n (by omega), encF_ge f m (by omega)] at h
      simp only [List.length_cons, List.take_succ_cons, List.cons.injEq] at h
      have := encF_apart f (n / 128) (m / 128) (by omega) (by omega) (by omega) (by omega) h.2
      omega
set_option maxRecDepth 100000 in
theorem enc_apart (n m : Int) (h1 : 0 ≤ n) (h2 : 0 ≤ m) (h3 : n < 18446744073709551616) (h4 : m < 18446744073709551616) (h : (enc m).take (enc n).length = enc n) : n = m :=
  encF_apart 10 n m h1 h2 (by omega) (by omega) h
set_option maxRecDepth 100000 in
/-- A greater number hasn't fewer bytes. -/
theorem encF_mono : ∀ (f : Nat) (n m : Int), n ≤ m → (encF f n).length ≤ (encF f m).length
  | 0, n, m, _ => by simp [encF]
  | f + 1, n, m, h => by
    by_cases hn : n < 128
    · rw [encF_lt f n hn]; exact (encF_len f m).1
    · rw [encF_ge f n (by omega), encF_ge f m (by omega)]
      have := encF_mono f (n / 128) (m / 128) (by omega)
      simp; omega
set_option maxRecDepth 100000 in
theorem enc_mono (n m : Int) (h : n ≤ m) : (enc n).length ≤ (enc m).length := encF_mono 10 n m h

/-- May the byte c stand at place i? -/
def mayB (i c : Int) : Bool := if 9 ≤ i then c == 1 else (c != 0 || i == 0)
/-- How bytes are read: the number, how many bytes, the error. 'i': how many have gone by; 'n': what they tell. -/
def rdF : Nat → Int → List Int → Int × Int × Int
  | _, _, [] => (0, 0, 5)
  | i, n, c :: cs =>
    if mayB (i : Int) c = true then (if c < 128 then (n + c * 128 ^ i, (i : Int) + 1, 0) else rdF (i + 1) (n + c % 128 * 128 ^ i) cs)
    else (0, 0, 4)
def rd (zs : List Int) : Int × Int × Int := rdF 0 0 zs
set_option maxRecDepth 100000 in
theorem rdF_bad (i : Nat) (n c : Int) (cs : List Int) (h : mayB (i : Int) c = false) : rdF i n (c :: cs) = (0, 0, 4) := by simp [rdF, h]
set_option maxRecDepth 100000 in
theorem rdF_last (i : Nat) (n c : Int) (cs : List Int) (h : mayB (i : Int) c = true) (hc : c < 128) : rdF i n (c :: cs) = (n + c * 128 ^ i, (i : Int) + 1, 0) := by simp [rdF, h, hc]
set_option maxRecDepth 100000 in
theorem rdF_more (i : Nat) (n c : Int) (cs : List Int) (h : mayB (i : Int) c = true) (hc : 128 ≤ c) : rdF i n (c :: cs) = rdF (i + 1) (n + c % 128 * 128 ^ i) cs := by
  have : ¬ c < 128 := by omega
  simp [rdF, h, this]
set_option maxRecDepth 100000 in
theorem mayB_more (i : Nat) (c : Int) (h : mayB (i : Int) c = true) (hc : 128 ≤ c) : i < 9 := by
  by_cases hi : 9 ≤ (i : Int)
  · simp [mayB, hi] at h; omega
  · omega
set_option maxRecDepth 100000 in
theorem mayB_nine (i : Nat) (c : Int) (h : mayB (i : Int) c = true) (hi : 9 ≤ i) : c = 1 := by
  have hi' : 9 ≤ (i : Int) := by omega
  simpa [mayB, hi'] using h

set_option maxRecDepth 100000 in
/-- n | x << 7k, where n has no bits there. -/
theorem or_shift (n x : Int) (k : Nat) (hn0 : 0 ≤ n) (hn : n < 128 ^ k) (hx0 : 0 ≤ x) (hx : x * 128 ^ k < 18446744073709551616) (hn1 : n < 18446744073709551616) :
    bits .or .u64 n (IntKind.u64.wrap (x * 2 ^ (7 * k))) = n + x * 128 ^ k := by
  have e : (2 : Int) ^ (7 * k) = 128 ^ k := by rw [Int.pow_mul]; rfl
  obtain ⟨n, rfl⟩ := Int.eq_ofNat_of_zero_le hn0
  obtain ⟨x, rfl⟩ := Int.eq_ofNat_of_zero_le hx0
  have hn' : n < 2 ^ (7 * k) := by
    have h : (n : Int) < ((128 ^ k : Nat) : Int) := by simpa using hn
    have h2 : (2 : Nat) ^ (7 * k) = 128 ^ k := by rw [Nat.pow_mul]
    omega
  have hx' : x * 2 ^ (7 * k) < 18446744073709551616 := by
    have h : ((x * 128 ^ k : Nat) : Int) < 18446744073709551616 := by simpa using hx
    have h2 : (2 : Nat) ^ (7 * k) = 128 ^ k := by rw [Nat.pow_mul]
    rw [h2]; omega
  have e1 : (x : Int) * 2 ^ (7 * k) = ((x * 2 ^ (7 * k) : Nat) : Int) := by simp
  rw [e1, IntKind.wrap_u64, Int.emod_eq_of_lt (by omega) (by omega), u64_or_nat _ _ (by omega) hx']
  have h3 := Nat.shiftLeft_add_eq_or_of_lt hn' x
  rw [Nat.shiftLeft_eq] at h3
  rw [Nat.or_comm, ← h3, ← e]
  simp; omega
set_option maxRecDepth 100000 in
theorem pow128_le (k : Nat) (h : k ≤ 9) : (128 : Int) ^ k ≤ 9223372036854775808 := by
  have : k = 0 ∨ k = 1 ∨ k = 2 ∨ k = 3 ∨ k = 4 ∨ k = 5 ∨ k = 6 ∨ k = 7 ∨ k = 8 ∨ k = 9 := by omega
  rcases this with rfl | rfl | rfl | rfl | rfl | rfl | rfl | rfl | rfl | rfl <;> decide
set_option maxRecDepth 100000 in
theorem pow128_pos (k : Nat) : (0 : Int) < 128 ^ k := Int.pow_pos (by decide)
set_option maxRecDepth 100000 in
/-- A byte more: what it adds is in range. -/
theorem add_fits (n x : Int) (k : Nat) (hn : n < 128 ^ k) (hx0 : 0 ≤ x) (hx : x < 128) : n + x * 128 ^ k < 128 ^ (k + 1) := by
  rw [Int.pow_succ]
  have h2 : x * 128 ^ k ≤ 127 * 128 ^ k := Int.mul_le_mul_of_nonneg_right (by omega) (Int.le_of_lt (pow128_pos k))
  omega
set_option maxRecDepth 100000 in
theorem mul_fits (x : Int) (k : Nat) (hk : k ≤ 9) (hx0 : 0 ≤ x) (hx : x < 128) (h9 : 9 ≤ k → x ≤ 1) : x * 128 ^ k ≤ 9223372036854775808 := by
  have hp := pow128_le k hk
  have hq := pow128_pos k
  by_cases h : 9 ≤ k
  · have := h9 h
    have h2 : x * 128 ^ k ≤ 1 * 128 ^ k := Int.mul_le_mul_of_nonneg_right this (by omega)
    omega
  · have hp' := pow128_le (k + 1) (by omega)
    rw [Int.pow_succ] at hp'
    have h2 : x * 128 ^ k ≤ 127 * 128 ^ k := Int.mul_le_mul_of_nonneg_right (by omega) (by omega)
    omega

/-- What bytes tell, each by its seven bits. -/
def val : List Int → Int
  | [] => 0
  | d :: ds => d % 128 + 128 * val ds
set_option maxRecDepth 100000 in
theorem val_snoc : ∀ (ds : List Int) (c : Int), val (ds ++ [c]) = val ds + c % 128 * 128 ^ ds.length
  | [], c => by simp [val]
  | d :: ds, c => by
    simp only [List.cons_append, val, val_snoc ds c, List.length_cons, Int.pow_succ]
    rw [Int.mul_add, ← Int.add_assoc, Int.mul_comm (128 ^ ds.length) 128, ← Int.mul_assoc, ← Int.mul_assoc, Int.mul_comm 128 (c % 128)]
set_option maxRecDepth 100000 in
theorem val_bound : ∀ (ds : List Int), 0 ≤ val ds ∧ val ds < 128 ^ ds.length
  | [] => by simp [val]
  | d :: ds => by
    have := val_bound ds
    simp only [val, List.length_cons, Int.pow_succ]
    omega
set_option maxRecDepth 100000 in
/-- Bytes that go on, and a last one that isn't 0 (or stands alone): they are the bytes of what they tell. -/
theorem encF_canon : ∀ (ds : List Int) (c : Int) (f : Nat), (∀ d ∈ ds, 128 ≤ d ∧ d ≤ 255) → 0 ≤ c → c < 128 → (c ≠ 0 ∨ ds = []) → encF (f + ds.length + 1) (val (ds ++ [c])) = ds ++ [c]
  | [], c, f, _, h0, h1, _ => by
    have e : val ([] ++ [c]) = c := by simp [val]; omega
    rw [e, List.nil_append]; exact encF_lt _ _ h1
  | d :: ds, c, f, hd, h0, h1, h2 => by
    have h3 : c ≠ 0 := by simpa using h2
    have ih := encF_canon ds c f (fun x hx => hd x (List.mem_cons_of_mem _ hx)) h0 h1 (Or.inl h3)
    have hp : 1 ≤ val (ds ++ [c]) := by
      rw [val_snoc]
      have := val_bound ds
      have hq := pow128_pos ds.length
      have hc : c % 128 = c := by omega
      have : 1 * 128 ^ ds.length ≤ c * 128 ^ ds.length := Int.mul_le_mul_of_nonneg_right (by omega) (by omega)
      rw [hc]; omega
    have hdd := hd d (by simp)
    have e : val (d :: ds ++ [c]) = d % 128 + 128 * val (ds ++ [c]) := rfl
    rw [e, List.length_cons, show f + (ds.length + 1) + 1 = (f + ds.length + 1) + 1 by omega, encF_ge _ _ (by omega)]
    have e1 : (d % 128 + 128 * val (ds ++ [c])) % 128 + 128 = d := by omega
    have e2 : (d % 128 + 128 * val (ds ++ [c])) / 128 = val (ds ++ [c]) := by omega
    rw [e1, e2, ih]; rfl
set_option maxRecDepth 100000 in
/-- The last byte of a number's isn't 0, but for 0. -/
theorem encF_last : ∀ (f : Nat) (n : Int) (ds : List Int), 0 ≤ n → n < 128 ^ (f + 1) → encF (f + 1) n = ds ++ [0] → ds = []
  | 0, n, ds, h0, h1, h => by
    rw [encF_lt 0 n (by omega)] at h
    cases ds with
    | nil => rfl
    | cons d ds => simp at h
  | f + 1, n, ds, h0, h1, h => by
    by_cases hn : n < 128
    · rw [encF_lt _ _ hn] at h
      cases ds with
      | nil => rfl
      | cons d ds => simp at h
    · rw [encF_ge _ _ (by omega)] at h
      cases ds with
      | nil => rfl
      | cons d ds =>
        simp only [List.cons_append, List.cons.injEq] at h
        rw [Int.pow_succ] at h1
        have := encF_last f (n / 128) ds (by omega) (by omega) h.2
        subst this
        have h2 := h.2
        simp only [List.nil_append] at h2
        cases f with
        | zero =>
          rw [encF_lt 0 _ (by omega)] at h2
          simp at h2; omega
        | succ f =>
          by_cases hm : n / 128 < 128
          · rw [encF_lt _ _ hm] at h2; simp at h2; omega
          · rw [encF_ge _ _ (by omega)] at h2
            have hl := encF_len f (n / 128 / 128)
            have h3 := congrArg List.length h2
            simp at h3
            rw [h3] at hl; simp at hl
set_option maxRecDepth 100000 in
/-- Is what bytes tell canonical? -/
theorem enc_canon (ds : List Int) (c : Int) (hl : ds.length ≤ 9) (hd : ∀ d ∈ ds, 128 ≤ d ∧ d ≤ 255) (h0 : 0 ≤ c) (h1 : c < 128) (h9 : ds.length = 9 → c = 1) :
    decide (enc (val (ds ++ [c])) = ds ++ [c]) = mayB (ds.length : Int) c := by
  by_cases hc : c ≠ 0 ∨ ds = []
  · have h := encF_canon ds c (9 - ds.length) hd h0 h1 hc
    rw [show 9 - ds.length + ds.length + 1 = 10 by omega] at h
    have e : decide (enc (val (ds ++ [c])) = ds ++ [c]) = true := decide_eq_true h
    rw [e]
    by_cases hi : 9 ≤ (ds.length : Int)
    · have := h9 (by omega)
      simp [mayB, hi, this]
    · rcases hc with hc | hc
      · simp [mayB, hi, hc]
      · simp [mayB, hc]
  · have hc0 : c = 0 := by by_cases h : c = 0; exact h; exact absurd (Or.inl h) hc
    have hds : ds ≠ [] := fun h => hc (Or.inr h)
    subst hc0
    have hb := val_bound (ds ++ [0])
    have e : decide (enc (val (ds ++ [0])) = ds ++ [0]) = false := by
      rw [decide_eq_false_iff_not]
      intro h
      refine hds (encF_last 9 _ ds hb.1 ?_ h)
      have h2 : (128 : Int) ^ (ds ++ [(0 : Int)]).length ≤ 128 ^ 10 := by
        have h3 : (128 : Nat) ^ (ds ++ [(0 : Int)]).length ≤ 128 ^ 10 := Nat.pow_le_pow_right (by decide) (by simp; omega)
        have h4 : ((128 ^ (ds ++ [(0 : Int)]).length : Nat) : Int) ≤ ((128 ^ 10 : Nat) : Int) := by omega
        simpa using h4
      have : (128 : Int) ^ (9 + 1) = 128 ^ 10 := rfl
      omega
    rw [e]
    have hl0 : 0 < ds.length := List.length_pos_iff.2 hds
    by_cases hi : 9 ≤ (ds.length : Int)
    · have := h9 (by omega); omega
    · have : ¬ ((ds.length : Int) = 0) := by omega
      simp [mayB, hi]
      intro h; exact hds h
end Go.Proofs.Ytgknefpefeghcaa
