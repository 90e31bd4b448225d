/- A text without secrets, and where they stand, in plain mathematics. No conditions; no function of the program. -/
import Derived.Test.YtgknefpefeghcaaMkG
namespace Go.Proofs.Ytgknefpefeghcaa

/-- The secrets that count. -/
def sec (l : List ByteArray) : List (List Int) := (l.filter (fun s => decide (4 ≤ s.size))).map bsI
set_option maxRecDepth 100000 in
theorem mx_sec {T : ByteArray} {l : List ByteArray} {M : List (List Int)} (h : ∀ m, m ∈ M ↔ ∃ s ∈ left T l, bsI s = m) {s : List Int} (hs : s.length ≤ T.size) : mx M s = mx (sec l) s := by
  refine mx_same (fun m hm hp => ⟨?_, hp⟩) (fun m hm hp => ⟨?_, hp⟩)
  · obtain ⟨x, hx, rfl⟩ := (h m).1 hm
    have h1 := List.mem_filter.1 hx
    have h2 := left_size hx
    exact List.mem_map.2 ⟨x, List.mem_filter.2 ⟨h1.1, by simp; omega⟩, rfl⟩
  · obtain ⟨x, hx, rfl⟩ := List.mem_map.1 hm
    have h1 := List.mem_filter.1 hx
    have h2 := of_decide_eq_true h1.2
    have h3 := hp.length_le
    rw [bsI_len] at h3
    refine (h _).2 ⟨x, List.mem_filter.2 ⟨h1.1, ?_⟩, rfl⟩
    simp [noSec]; omega
set_option maxRecDepth 100000 in
theorem plc_congr {M M' : List (List Int)} : ∀ (t : List Int) (i : Nat), (∀ s, s <:+ t → mx M s = mx M' s) → plcF M t i = plcF M' t i
  | [], _, _ => rfl
  | b :: r, i, h => by
    have h1 := h (b :: r) (List.suffix_refl _)
    have h2 := plc_congr r (i + 1) (fun s hs => h s (hs.trans (List.suffix_cons b r)))
    unfold plcF
    rw [h1, h2]
set_option maxRecDepth 100000 in
theorem plc_sec {T : ByteArray} {l : List ByteArray} {M : List (List Int)} (h : ∀ m, m ∈ M ↔ ∃ s ∈ left T l, bsI s = m) : plcF M (bsI T) 0 = plcF (sec l) (bsI T) 0 :=
  plc_congr _ _ (fun s hs => mx_sec h (by have := hs.length_le; rwa [bsI_len] at this))
/-- A text without secrets. -/
def cleanS (M : List (List Int)) (t : List Int) : List Int :=
  match t with
  | [] => []
  | b :: r => if h : 0 < mx M (b :: r) then [42, 42, 42] ++ cleanS M ((b :: r).drop (mx M (b :: r))) else b :: cleanS M r
termination_by t.length
decreasing_by
  · simp; omega
  · simp
set_option maxRecDepth 100000 in
theorem clean_nil (M : List (List Int)) : cleanS M [] = [] := by unfold cleanS; rfl
set_option maxRecDepth 100000 in
theorem clean_hit {M : List (List Int)} {t : List Int} (h : 0 < mx M t) : cleanS M t = [42, 42, 42] ++ cleanS M (t.drop (mx M t)) := by
  cases t with
  | nil => have := mx_len M []; simp at this; omega
  | cons b r => rw [cleanS, dif_pos h]
set_option maxRecDepth 100000 in
theorem clean_miss {M : List (List Int)} {b : Int} {r : List Int} (h : mx M (b :: r) = 0) : cleanS M (b :: r) = b :: cleanS M r := by
  rw [cleanS, dif_neg (by omega)]
/-- One place. -/
def stepC (t : List Int) (x : List Int × Nat) (p : Int × Int) : List Int × Nat := if (x.2 : Int) ≤ p.1 then (x.1 ++ ((t.drop x.2).take (p.1.toNat - x.2) ++ [42, 42, 42]), p.2.toNat) else x
def foldC (t : List Int) (l : List (Int × Int)) (x : List Int × Nat) : List Int × Nat := l.foldl (stepC t) x
set_option maxRecDepth 100000 in
theorem fold_clean (M : List (List Int)) (t : List Int) : ∀ (k i : Nat) (out : List Int) (d : Nat), i + k = t.length → d ≤ t.length →
    (foldC t (plcF M (t.drop i) i) (out, d)).2 ≤ t.length ∧ (foldC t (plcF M (t.drop i) i) (out, d)).1 ++ t.drop (foldC t (plcF M (t.drop i) i) (out, d)).2 = out ++ (t.drop d).take (i - d) ++ cleanS M (t.drop (max i d))
  | 0, i, out, d, hi, hd => by
    have e : t.drop i = [] := List.drop_eq_nil_of_le (by omega)
    rw [e]
    refine ⟨hd, ?_⟩
    show out ++ t.drop d = _
    have e2 : t.drop (max i d) = [] := List.drop_eq_nil_of_le (by omega)
    rw [e2, clean_nil, List.append_nil, List.take_of_length_le (by simp; omega)]
  | k + 1, i, out, d, hi, hd => by
    have hlt : i < t.length := by omega
    have hdr : t.drop i = t[i] :: t.drop (i + 1) := List.drop_eq_getElem_cons hlt
    have ih := fold_clean M t k (i + 1)
    have hml := mx_len M (t.drop i)
    rw [List.length_drop] at hml
    by_cases hm : 0 < mx M (t.drop i)
    · have hp : plcF M (t.drop i) i = ((i : Int), (i : Int) + (mx M (t.drop i) : Int)) :: plcF M (t.drop (i + 1)) (i + 1) := by
        rw [hdr] at hm ⊢
        show (if 0 < mx M (t[i] :: t.drop (i + 1)) then _ else _) = _
        rw [if_pos hm]
      rw [hp]
      by_cases hid : d ≤ i
      · have hst : foldC t (((i : Int), (i : Int) + (mx M (t.drop i) : Int)) :: plcF M (t.drop (i + 1)) (i + 1)) (out, d) = foldC t (plcF M (t.drop (i + 1)) (i + 1)) (out ++ ((t.drop d).take (i - d) ++ [42, 42, 42]), i + mx M (t.drop i)) := by
          show foldC t _ (stepC t (out, d) _) = _
          congr 1
          unfold stepC
          rw [if_pos (by show ((d : Nat) : Int) ≤ (i : Int); omega)]
          simp only [Prod.mk.injEq, Int.toNat_natCast, true_and]
          omega
        rw [hst]
        obtain ⟨h1, h2⟩ := ih (out ++ ((t.drop d).take (i - d) ++ [42, 42, 42])) (i + mx M (t.drop i)) (by omega) (by omega)
        refine ⟨h1, h2.trans ?_⟩
        rw [show i + 1 - (i + mx M (t.drop i)) = 0 by omega, show max (i + 1) (i + mx M (t.drop i)) = i + mx M (t.drop i) by omega, show max i d = i by omega, clean_hit hm, List.drop_drop]
        simp
      · have hst : foldC t (((i : Int), (i : Int) + (mx M (t.drop i) : Int)) :: plcF M (t.drop (i + 1)) (i + 1)) (out, d) = foldC t (plcF M (t.drop (i + 1)) (i + 1)) (out, d) := by
          show foldC t _ (stepC t (out, d) _) = _
          congr 1
          unfold stepC
          rw [if_neg (by show ¬ ((d : Nat) : Int) ≤ (i : Int); omega)]
        rw [hst]
        obtain ⟨h1, h2⟩ := ih out d (by omega) hd
        refine ⟨h1, h2.trans ?_⟩
        rw [show i + 1 - d = 0 by omega, show i - d = 0 by omega, show max (i + 1) d = max i d by omega]
    · have hp : plcF M (t.drop i) i = plcF M (t.drop (i + 1)) (i + 1) := by
        rw [hdr] at hm ⊢
        show (if 0 < mx M (t[i] :: t.drop (i + 1)) then _ else _) = _
        rw [if_neg hm]
      rw [hp]
      obtain ⟨h1, h2⟩ := ih out d (by omega) hd
      refine ⟨h1, h2.trans ?_⟩
      by_cases hid : d ≤ i
      · rw [show max (i + 1) d = i + 1 by omega, show max i d = i by omega]
        have hc : cleanS M (t.drop i) = t[i] :: cleanS M (t.drop (i + 1)) := by
          rw [hdr] at hm ⊢
          exact clean_miss (by omega)
        rw [hc, show i + 1 - d = (i - d) + 1 by omega, List.take_succ_eq_append_getElem (by simp; omega)]
        have hidx : i - d < (t.drop d).length := by rw [List.length_drop]; omega
        have e : (t.drop d)[i - d] = t[i] := by
          rw [List.getElem_drop]
          congr 1; omega
        rw [e]
        simp
      · rw [show i + 1 - d = 0 by omega, show i - d = 0 by omega, show max (i + 1) d = max i d by omega]
set_option maxRecDepth 100000 in
/-- What the program builds. -/
theorem clean_all (M : List (List Int)) (t : List Int) : (foldC t (plcF M t 0) ([], 0)).2 ≤ t.length ∧ (foldC t (plcF M t 0) ([], 0)).1 ++ t.drop (foldC t (plcF M t 0) ([], 0)).2 = cleanS M t := by
  have h := fold_clean M t t.length 0 [] 0 (by omega) (by omega)
  simpa using h
/-- Does a secret stand there? -/
def leaksS (M : List (List Int)) (t : List Int) : Bool := decide (0 < (plcF M t 0).length)
set_option maxRecDepth 100000 in
theorem leaks_iff (M : List (List Int)) : ∀ (t : List Int) (i : Nat), 0 < (plcF M t i).length ↔ ∃ k, k < t.length ∧ 0 < mx M (t.drop k)
  | [], i => by simp [plcF]
  | b :: r, i => by
    have ih := leaks_iff M r (i + 1)
    unfold plcF
    by_cases h : 0 < mx M (b :: r)
    · rw [if_pos h]
      simp only [List.length_cons]
      exact ⟨fun _ => ⟨0, by omega, h⟩, fun _ => by omega⟩
    · rw [if_neg h, ih]
      constructor
      · rintro ⟨k, hk, h2⟩
        exact ⟨k + 1, by simp only [List.length_cons]; omega, h2⟩
      · rintro ⟨k, hk, h2⟩
        match k, hk, h2 with
        | 0, _, h2 => exact absurd h2 h
        | k + 1, hk, h2 => exact ⟨k, by simp only [List.length_cons] at hk; omega, h2⟩
set_option maxRecDepth 100000 in
theorem clean_size (M : List (List Int)) : ∀ (n : Nat) (t : List Int), t.length ≤ n → (cleanS M t).length ≤ 3 * t.length
  | 0, t, h => by
    have : t = [] := List.eq_nil_of_length_eq_zero (by omega)
    subst this
    rw [clean_nil]; simp
  | n + 1, [], h => by rw [clean_nil]; simp
  | n + 1, b :: r, h => by
    by_cases hm : 0 < mx M (b :: r)
    · have ih := clean_size M n ((b :: r).drop (mx M (b :: r))) (by simp at h ⊢; omega)
      have hl := mx_len M (b :: r)
      rw [clean_hit hm, List.length_append]
      rw [List.length_drop] at ih
      simp only [List.length_cons, List.length_nil] at *
      omega
    · have ih := clean_size M n r (by simp at h; omega)
      rw [clean_miss (by omega)]
      simp only [List.length_cons]
      omega
end Go.Proofs.Ytgknefpefeghcaa
