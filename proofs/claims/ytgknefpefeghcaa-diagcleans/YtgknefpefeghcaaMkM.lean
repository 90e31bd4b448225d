/- A text without secrets tells none, where no secret has a star: in plain mathematics. No conditions; no function of the program. -/
import Derived.Test.YtgknefpefeghcaaMkJ
namespace Go.Proofs.Ytgknefpefeghcaa

set_option maxRecDepth 100000 in
theorem star_prefix (M : List (List Int)) : ∀ (n : Nat) (r m : List Int), r.length ≤ n → (42 : Int) ∉ m → m <+: cleanS M r → m <+: r
  | 0, r, m, h, _, hp => by
    have : r = [] := List.eq_nil_of_length_eq_zero (by omega)
    subst this
    rwa [clean_nil] at hp
  | n + 1, [], m, _, _, hp => by rwa [clean_nil] at hp
  | n + 1, b :: r, m, h, hm, hp => by
    by_cases hx : 0 < mx M (b :: r)
    · rw [clean_hit hx] at hp
      cases m with
      | nil => exact List.nil_prefix
      | cons c m' =>
        have := (List.cons_prefix_cons.1 hp).1
        subst this
        exact absurd (List.mem_cons_self) hm
    · rw [clean_miss (by omega)] at hp
      cases m with
      | nil => exact List.nil_prefix
      | cons c m' =>
        obtain ⟨rfl, h2⟩ := List.cons_prefix_cons.1 hp
        exact List.cons_prefix_cons.2 ⟨rfl, star_prefix M n r m' (by simp at h; omega) (fun e => hm (List.mem_cons_of_mem _ e)) h2⟩
set_option maxRecDepth 100000 in
theorem mx_star {M : List (List Int)} (hM : ∀ m ∈ M, (42 : Int) ∉ m) (t : List Int) : mx M (42 :: t) = 0 := by
  refine Nat.le_zero.1 (mx_le.2 fun m hm hp => ?_)
  cases m with
  | nil => simp
  | cons c m' =>
    have := (List.cons_prefix_cons.1 hp).1
    subst this
    exact absurd (List.mem_cons_self) (hM _ hm)
set_option maxRecDepth 100000 in
theorem clean_mx {M : List (List Int)} (hM : ∀ m ∈ M, (42 : Int) ∉ m) : ∀ (n : Nat) (t : List Int), t.length ≤ n → ∀ k, mx M ((cleanS M t).drop k) = 0
  | 0, t, h, k => by
    have : t = [] := List.eq_nil_of_length_eq_zero (by omega)
    subst this
    have := mx_len M ((cleanS M []).drop k)
    rw [clean_nil] at *
    simp at this
    simpa using this
  | n + 1, [], _, k => by
    have := mx_len M ((cleanS M []).drop k)
    rw [clean_nil] at *
    simp at this
    simpa using this
  | n + 1, b :: r, h, k => by
    by_cases hx : 0 < mx M (b :: r)
    · rw [clean_hit hx]
      match k with
      | 0 => exact mx_star hM _
      | 1 => exact mx_star hM _
      | 2 => exact mx_star hM _
      | k + 3 => exact clean_mx hM n ((b :: r).drop (mx M (b :: r))) (by simp at h ⊢; omega) k
    · match k with
      | 0 =>
        refine Nat.le_zero.1 (mx_le.2 fun m hm hp => ?_)
        have := mx_ge hm (star_prefix M _ _ m (Nat.le_refl _) (hM m hm) hp)
        omega
      | k + 1 =>
        rw [clean_miss (by omega)]
        exact clean_mx hM n r (by simp at h; omega) k
set_option maxRecDepth 100000 in
/-- Where no secret has a star the clean text tells none. -/
theorem clean_tells {M : List (List Int)} (hM : ∀ m ∈ M, (42 : Int) ∉ m) (t : List Int) : leaksS M (cleanS M t) = false := by
  unfold leaksS
  rw [decide_eq_false_iff_not, leaks_iff]
  rintro ⟨k, -, h⟩
  rw [clean_mx hM _ t (Nat.le_refl _) k] at h
  omega
set_option maxRecDepth 100000 in
theorem star_sec {l : List ByteArray} (h : ∀ s ∈ l, (42 : Int) ∉ bsI s) : ∀ m ∈ sec l, (42 : Int) ∉ m := by
  intro m hm
  obtain ⟨s, hs, rfl⟩ := List.mem_map.1 hm
  exact h s (List.mem_filter.1 hs).1
/-- The law's example. -/
def pwA : ByteArray := ⟨#[112, 97, 115, 115, 49, 50, 51, 52]⟩
def kpA : ByteArray := ⟨#[107, 101, 121, 32, 112, 97, 115, 115, 49, 50, 51, 52, 33]⟩
def ksA : ByteArray := ⟨#[107, 101, 121, 32, 42, 42, 42, 33]⟩
set_option maxRecDepth 100000 in
theorem sec_pw : sec [pwA] = [[112, 97, 115, 115, 49, 50, 51, 52]] := by rfl
set_option maxRecDepth 100000 in
theorem bsI_kp : bsI kpA = [107, 101, 121, 32, 112, 97, 115, 115, 49, 50, 51, 52, 33] := by rfl
set_option maxRecDepth 100000 in
theorem bsI_ks : bsI ksA = [107, 101, 121, 32, 42, 42, 42, 33] := by rfl
set_option maxRecDepth 100000 in
theorem clean_aw : cleanS (sec [pwA]) (bsI kpA) = bsI ksA := by
  rw [sec_pw, bsI_kp, bsI_ks]
  rw [clean_miss (by decide), clean_miss (by decide), clean_miss (by decide), clean_miss (by decide), clean_hit (by decide)]
  have e : List.drop (mx [[112, 97, 115, 115, 49, 50, 51, 52]] [112, 97, 115, 115, 49, 50, 51, 52, 33]) [112, 97, 115, 115, 49, 50, 51, 52, 33] = [(33 : Int)] := by decide
  rw [e, clean_miss (by decide), clean_nil]
  rfl
set_option maxRecDepth 100000 in
theorem leaks_aw : leaksS (sec [pwA]) (bsI kpA) = true := by
  rw [sec_pw, bsI_kp]
  decide
end Go.Proofs.Ytgknefpefeghcaa
