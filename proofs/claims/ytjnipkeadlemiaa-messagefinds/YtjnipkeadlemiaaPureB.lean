/- Numbers as bytes, in plain mathematics: what is laid is read, and what is read was laid. No conditions; no program. -/
import Derived.Test.YtjnipkeadlemiaaPure
namespace Go.Proofs.Ytjnipkeadlemiaa

set_option maxRecDepth 100000 in
/-- What is laid is read, whatever stands behind. -/
theorem rdF_enc : ∀ (f i : Nat) (n acc : Int) (more : List Int), i ≤ 9 → 0 ≤ n → n < 128 ^ (f + 1) → n * 128 ^ i < 18446744073709551616 → (i = 0 ∨ 1 ≤ n) →
    rdF i acc (encF (f + 1) n ++ more) = (acc + n * 128 ^ i, (i : Int) + (encF (f + 1) n).length, 0)
  | f, i, n, acc, more, hi, h0, hp, hm, h1 => by
    have hq := pow128_pos i
    by_cases hn : n < 128
    · rw [encF_lt f n hn]
      have hmay : mayB (i : Int) n = true := by
        by_cases h9 : 9 ≤ (i : Int)
        · have hi9 : i = 9 := by omega
          subst hi9
          have : n = 1 := by
            have e : (128 : Int) ^ 9 = 9223372036854775808 := by decide
            rw [e] at hm; omega
          simp [mayB, this]
        · rcases h1 with h | h
          · simp [mayB, h]
          · have : ¬ n = 0 := by omega
            simp [mayB, h9, this]
      rw [List.singleton_append, rdF_last _ _ _ _ hmay hn]; simp
    · cases f with
      | zero => simp at hp; omega
      | succ f =>
        have hi8 : i < 9 := by
          by_cases h : i = 9
          · subst h
            have e : (128 : Int) ^ 9 = 9223372036854775808 := by decide
            rw [e] at hm; omega
          · omega
        rw [encF_ge _ _ (by omega), List.cons_append]
        have hmay : mayB (i : Int) (n % 128 + 128) = true := by
          have h9 : ¬ 9 ≤ (i : Int) := by omega
          have : ¬ (n % 128 + 128 = 0) := by omega
          simp [mayB, h9, this]
        have e1 : (n % 128 + 128) % 128 = n % 128 := by omega
        have hdm : n = n % 128 + 128 * (n / 128) := by omega
        have e2 : n / 128 * 128 ^ (i + 1) = n * 128 ^ i - n % 128 * 128 ^ i := by
          rw [Int.pow_succ, ← Int.sub_mul]
          have : n - n % 128 = n / 128 * 128 := by omega
          rw [this, Int.mul_assoc, Int.mul_comm (128 : Int)]
        have hx : 0 ≤ n % 128 * 128 ^ i := Int.mul_nonneg (by omega) (by omega)
        rw [rdF_more _ _ _ _ hmay (by omega), e1]
        rw [Int.pow_succ] at hp
        rw [rdF_enc f (i + 1) (n / 128) _ more (by omega) (by omega) (by omega) (by rw [e2]; omega) (Or.inr (by omega)), e2]
        refine Prod.ext ?_ (Prod.ext ?_ rfl)
        · simp only; omega
        · simp only [List.length_cons]; omega
set_option maxRecDepth 100000 in
theorem rd_enc (n : Int) (more : List Int) (h0 : 0 ≤ n) (h1 : n < 18446744073709551616) : rd (enc n ++ more) = (n, ((enc n).length : Int), 0) := by
  have := rdF_enc 9 0 n 0 more (by omega) h0 (by omega) (by simpa using h1) (Or.inl rfl)
  rw [rd, enc, this]; simp
set_option maxRecDepth 100000 in
theorem rd_enc' (n : Int) (h0 : 0 ≤ n) (h1 : n < 18446744073709551616) : rd (enc n) = (n, ((enc n).length : Int), 0) := by
  have := rd_enc n [] h0 h1
  simpa using this

set_option maxRecDepth 100000 in
/-- What is read was laid. -/
theorem rdF_ok : ∀ (rest ds : List Int), ds.length ≤ 9 → (∀ d ∈ ds, 128 ≤ d ∧ d ≤ 255) → (∀ c ∈ rest, 0 ≤ c ∧ c ≤ 255) → (rdF ds.length (val ds) rest).2.2 = 0 →
    0 ≤ (rdF ds.length (val ds) rest).1 ∧ (rdF ds.length (val ds) rest).1 < 18446744073709551616 ∧ (ds ++ rest).take (enc (rdF ds.length (val ds) rest).1).length = enc (rdF ds.length (val ds) rest).1 ∧
    (rdF ds.length (val ds) rest).2.1 = (enc (rdF ds.length (val ds) rest).1).length
  | [], ds, _, _, _, h => by simp [rdF] at h
  | c :: cs, ds, hl, hd, hc, h => by
    have hcb := hc c (by simp)
    by_cases hmay : mayB (ds.length : Int) c = true
    · by_cases hlt : c < 128
      · rw [rdF_last _ _ _ _ hmay hlt]
        have e1 : val ds + c * 128 ^ ds.length = val (ds ++ [c]) := by
          rw [val_snoc]; have : c % 128 = c := by omega
          rw [this]
        have hcan := enc_canon ds c hl hd hcb.1 hlt (fun h9 => mayB_nine ds.length c hmay (by omega))
        rw [hmay, decide_eq_true_iff] at hcan
        have hb := val_bound ds
        have hx := mul_fits c ds.length hl hcb.1 hlt (fun h9 => by have := mayB_nine ds.length c hmay h9; omega)
        have hp := pow128_le ds.length hl
        have hq : 0 ≤ c * 128 ^ ds.length := Int.mul_nonneg hcb.1 (Int.le_of_lt (pow128_pos _))
        refine ⟨by simp only; omega, by simp only; omega, ?_, ?_⟩
        · simp only [e1, hcan]
          have : (ds ++ c :: cs) = (ds ++ [c]) ++ cs := by simp
          rw [this, List.take_left]
        · simp only [e1, hcan]; simp
      · have hi := mayB_more ds.length c hmay (by omega)
        rw [rdF_more _ _ _ _ hmay (by omega)] at h ⊢
        have e1 : val ds + c % 128 * 128 ^ ds.length = val (ds ++ [c]) := by rw [val_snoc]
        have e2 : ds.length + 1 = (ds ++ [c]).length := by simp
        rw [e1, e2] at h ⊢
        have e3 : ds ++ c :: cs = (ds ++ [c]) ++ cs := by simp
        rw [e3]
        refine rdF_ok cs (ds ++ [c]) (by simp; omega) ?_ (fun x hx => hc x (List.mem_cons_of_mem _ hx)) h
        intro d hd'
        rcases List.mem_append.1 hd' with h | h
        · exact hd d h
        · simp at h; omega
    · rw [rdF_bad _ _ _ _ (by simpa using hmay)] at h; simp at h
set_option maxRecDepth 100000 in
theorem rd_ok (zs : List Int) (hz : ∀ c ∈ zs, 0 ≤ c ∧ c ≤ 255) (h : (rd zs).2.2 = 0) :
    0 ≤ (rd zs).1 ∧ (rd zs).1 < 18446744073709551616 ∧ zs.take (enc (rd zs).1).length = enc (rd zs).1 ∧ (rd zs).2.1 = (enc (rd zs).1).length :=
  rdF_ok zs [] (by simp) (by simp) hz h
set_option maxRecDepth 100000 in
/-- Which errors there are; with one there is no number. -/
theorem rdF_err : ∀ (zs : List Int) (i : Nat) (n : Int), (rdF i n zs).2.2 = 0 ∨ (((rdF i n zs).2.2 = 4 ∨ (rdF i n zs).2.2 = 5) ∧ (rdF i n zs).1 = 0 ∧ (rdF i n zs).2.1 = 0)
  | [], i, n => by simp [rdF]
  | c :: cs, i, n => by
    by_cases hmay : mayB (i : Int) c = true
    · by_cases hlt : c < 128
      · rw [rdF_last _ _ _ _ hmay hlt]; simp
      · rw [rdF_more _ _ _ _ hmay (by omega)]; exact rdF_err cs _ _
    · rw [rdF_bad _ _ _ _ (by simpa using hmay)]; simp
set_option maxRecDepth 100000 in
theorem rd_err (zs : List Int) : (rd zs).2.2 = 0 ∨ (((rd zs).2.2 = 4 ∨ (rd zs).2.2 = 5) ∧ (rd zs).1 = 0 ∧ (rd zs).2.1 = 0) := rdF_err zs 0 0
end Go.Proofs.Ytjnipkeadlemiaa
