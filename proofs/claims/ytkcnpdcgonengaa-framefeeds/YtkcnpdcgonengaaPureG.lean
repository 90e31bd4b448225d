/- Frames as bytes, in plain mathematics: the first frame of bytes, all frames, and what becomes of them when more bytes come. No conditions; no program. -/
import Derived.Test.YtkcnpdcgonengaaPureB
namespace Go.Proofs.Ytkcnpdcgonengaa

/-- All are bytes. -/
def Byt (zs : List Int) : Prop := ∀ c ∈ zs, 0 ≤ c ∧ c ≤ 255
set_option maxRecDepth 100000 in
theorem Byt.drop {zs : List Int} (h : Byt zs) (k : Nat) : Byt (zs.drop k) := fun c hc => h c (List.mem_of_mem_drop hc)
set_option maxRecDepth 100000 in
theorem Byt.take {zs : List Int} (h : Byt zs) (k : Nat) : Byt (zs.take k) := fun c hc => h c (List.mem_of_mem_take hc)
set_option maxRecDepth 100000 in
theorem Byt.append {zs ys : List Int} (h : Byt zs) (h' : Byt ys) : Byt (zs ++ ys) := fun c hc => (List.mem_append.1 hc).elim (h c) (h' c)

set_option maxRecDepth 100000 in
/-- A number that is read has at least a byte, and no more than there are. -/
theorem rd_size (zs : List Int) (hz : Byt zs) (h : (rd zs).2.2 = 0) : 1 ≤ (rd zs).2.1 ∧ (rd zs).2.1 ≤ zs.length ∧ 0 ≤ (rd zs).1 ∧ (rd zs).1 < 18446744073709551616 ∧ (rd zs).2.1 ≤ 10 := by
  obtain ⟨h0, h1, h2, h3⟩ := rd_ok zs hz h
  have hl := enc_len (rd zs).1
  have := congrArg List.length h2
  rw [List.length_take] at this
  omega
set_option maxRecDepth 100000 in
/-- More bytes don't change what was read. -/
theorem rdF_append : ∀ (zs ys : List Int) (i : Nat) (n : Int), (rdF i n zs).2.2 ≠ 5 → rdF i n (zs ++ ys) = rdF i n zs
  | [], ys, i, n, h => by simp [rdF] at h
  | c :: cs, ys, i, n, h => by
    by_cases hmay : mayB (i : Int) c = true
    · by_cases hlt : c < 128
      · rw [List.cons_append, rdF_last _ _ _ _ hmay hlt, rdF_last _ _ _ _ hmay hlt]
      · rw [rdF_more _ _ _ _ hmay (by omega)] at h
        rw [List.cons_append, rdF_more _ _ _ _ hmay (by omega), rdF_more _ _ _ _ hmay (by omega), rdF_append cs ys _ _ h]
    · rw [List.cons_append, rdF_bad _ _ _ _ (by simpa using hmay), rdF_bad _ _ _ _ (by simpa using hmay)]
set_option maxRecDepth 100000 in
theorem rd_append (zs ys : List Int) (h : (rd zs).2.2 ≠ 5) : rd (zs ++ ys) = rd zs := rdF_append zs ys 0 0 h

/-- The frame that bytes begin with, how many bytes it has with its number, the error. -/
def frst (L : Int) (zs : List Int) : List Int × Int × Int :=
  if (rd zs).2.2 ≠ 0 then ([], 0, (rd zs).2.2) else
  if L < (rd zs).1 then ([], 0, 3) else
  if (zs.length : Int) - (rd zs).2.1 < (rd zs).1 then ([], 0, 5) else
  ((zs.drop (rd zs).2.1.toNat).take (rd zs).1.toNat, (rd zs).2.1 + (rd zs).1, 0)
set_option maxRecDepth 100000 in
theorem frst_no (L : Int) (zs : List Int) (h : (rd zs).2.2 ≠ 0) : frst L zs = ([], 0, (rd zs).2.2) := by rw [frst, if_pos h]
set_option maxRecDepth 100000 in
theorem frst_long (L : Int) (zs : List Int) (h : (rd zs).2.2 = 0) (h1 : L < (rd zs).1) : frst L zs = ([], 0, 3) := by rw [frst, if_neg (by omega), if_pos h1]
set_option maxRecDepth 100000 in
theorem frst_short (L : Int) (zs : List Int) (h : (rd zs).2.2 = 0) (h1 : (rd zs).1 ≤ L) (h2 : (zs.length : Int) - (rd zs).2.1 < (rd zs).1) : frst L zs = ([], 0, 5) := by rw [frst, if_neg (by omega), if_neg (by omega), if_pos h2]
set_option maxRecDepth 100000 in
theorem frst_yes (L : Int) (zs : List Int) (h : (rd zs).2.2 = 0) (h1 : (rd zs).1 ≤ L) (h2 : (rd zs).1 ≤ (zs.length : Int) - (rd zs).2.1) :
    frst L zs = ((zs.drop (rd zs).2.1.toNat).take (rd zs).1.toNat, (rd zs).2.1 + (rd zs).1, 0) := by rw [frst, if_neg (by omega), if_neg (by omega), if_neg (by omega)]
set_option maxRecDepth 100000 in
/-- The four ways. -/
theorem frst_ways (L : Int) (zs : List Int) : ((rd zs).2.2 ≠ 0 ∧ frst L zs = ([], 0, (rd zs).2.2)) ∨ ((rd zs).2.2 = 0 ∧ L < (rd zs).1 ∧ frst L zs = ([], 0, 3)) ∨
    ((rd zs).2.2 = 0 ∧ (rd zs).1 ≤ L ∧ (zs.length : Int) - (rd zs).2.1 < (rd zs).1 ∧ frst L zs = ([], 0, 5)) ∨
    ((rd zs).2.2 = 0 ∧ (rd zs).1 ≤ L ∧ (rd zs).1 ≤ (zs.length : Int) - (rd zs).2.1 ∧ frst L zs = ((zs.drop (rd zs).2.1.toNat).take (rd zs).1.toNat, (rd zs).2.1 + (rd zs).1, 0)) := by
  by_cases h : (rd zs).2.2 = 0
  · by_cases h1 : L < (rd zs).1
    · exact Or.inr (Or.inl ⟨h, h1, frst_long L zs h h1⟩)
    · by_cases h2 : (zs.length : Int) - (rd zs).2.1 < (rd zs).1
      · exact Or.inr (Or.inr (Or.inl ⟨h, by omega, h2, frst_short L zs h (by omega) h2⟩))
      · exact Or.inr (Or.inr (Or.inr ⟨h, by omega, by omega, frst_yes L zs h (by omega) (by omega)⟩))
  · exact Or.inl ⟨h, frst_no L zs h⟩
set_option maxRecDepth 100000 in
theorem frst_err (L : Int) (zs : List Int) : (frst L zs).2.2 = 0 ∨ (((frst L zs).2.2 = 3 ∨ (frst L zs).2.2 = 4 ∨ (frst L zs).2.2 = 5) ∧ frst L zs = ([], 0, (frst L zs).2.2)) := by
  rcases frst_ways L zs with ⟨h, e⟩ | ⟨_, _, e⟩ | ⟨_, _, _, e⟩ | ⟨_, _, _, e⟩ <;> rw [e]
  · rcases rd_err zs with h' | ⟨h', _⟩
    · exact absurd h' h
    · refine Or.inr ⟨?_, rfl⟩
      rcases h' with h' | h' <;> simp [h']
  · exact Or.inr ⟨Or.inl rfl, rfl⟩
  · exact Or.inr ⟨Or.inr (Or.inr rfl), rfl⟩
  · exact Or.inl rfl
set_option maxRecDepth 100000 in
/-- A frame that is there: how great it is. -/
theorem frst_ok (L : Int) (zs : List Int) (hz : Byt zs) (h : (frst L zs).2.2 = 0) : 1 ≤ (frst L zs).2.1 ∧ (frst L zs).2.1 ≤ zs.length ∧ ((frst L zs).1.length : Int) ≤ L ∧ (frst L zs).1.length ≤ zs.length ∧ Byt (frst L zs).1 := by
  rcases frst_ways L zs with ⟨h', e⟩ | ⟨_, _, e⟩ | ⟨_, _, _, e⟩ | ⟨h0, h1, h2, e⟩ <;> rw [e] at h ⊢
  · exact absurd h h'
  · simp at h
  · simp at h
  · obtain ⟨a, b, c, d, _⟩ := rd_size zs hz h0
    have hl : ((zs.drop (rd zs).2.1.toNat).take (rd zs).1.toNat).length ≤ (rd zs).1.toNat := List.length_take_le _ _
    have hl2 : ((zs.drop (rd zs).2.1.toNat).take (rd zs).1.toNat).length ≤ zs.length := by simp; omega
    exact ⟨by simp only; omega, by simp only; omega, by simp only; omega, hl2, (hz.drop _).take _⟩
set_option maxRecDepth 100000 in
theorem frst_append (L : Int) (zs ys : List Int) (hz : Byt zs) (h : (frst L zs).2.2 ≠ 5) : frst L (zs ++ ys) = frst L zs := by
  rcases frst_ways L zs with ⟨h', e⟩ | ⟨h0, h1, e⟩ | ⟨_, _, _, e⟩ | ⟨h0, h1, h2, e⟩
  · rw [e] at h
    rw [e, frst_no, rd_append _ _ h]
    rw [rd_append _ _ h]; exact h'
  · have hr := rd_append zs ys (by omega)
    rw [e, frst_long] <;> rw [hr] <;> assumption
  · rw [e] at h; exact absurd rfl h
  · have hr := rd_append zs ys (by omega)
    obtain ⟨a, b, c, d, _⟩ := rd_size zs hz h0
    rw [e, frst_yes _ _ (by rw [hr]; exact h0) (by rw [hr]; exact h1) (by rw [hr, List.length_append]; omega), hr]
    rw [List.drop_append_of_le_length (by omega), List.take_append_of_le_length (by simp; omega)]

/-- All frames; where the next one begins; the error: 0: nothing is left. -/
def cutF : Nat → Int → List Int → List (List Int) × Nat × Int
  | 0, _, _ => ([], 0, 0)
  | f + 1, L, zs => if zs = [] then ([], 0, 0) else if (frst L zs).2.2 ≠ 0 then ([], 0, (frst L zs).2.2) else
    ((frst L zs).1 :: (cutF f L (zs.drop (frst L zs).2.1.toNat)).1, (frst L zs).2.1.toNat + (cutF f L (zs.drop (frst L zs).2.1.toNat)).2.1, (cutF f L (zs.drop (frst L zs).2.1.toNat)).2.2)
def cut (L : Int) (zs : List Int) : List (List Int) × Nat × Int := cutF zs.length L zs
set_option maxRecDepth 100000 in
theorem cutF_nil (f : Nat) (L : Int) : cutF f L [] = ([], 0, 0) := by cases f <;> simp [cutF]
set_option maxRecDepth 100000 in
theorem cutF_no (f : Nat) (L : Int) (zs : List Int) (h : zs ≠ []) (h1 : (frst L zs).2.2 ≠ 0) : cutF (f + 1) L zs = ([], 0, (frst L zs).2.2) := by rw [cutF, if_neg h, if_pos h1]
set_option maxRecDepth 100000 in
theorem cutF_yes (f : Nat) (L : Int) (zs : List Int) (h : zs ≠ []) (h1 : (frst L zs).2.2 = 0) : cutF (f + 1) L zs =
    ((frst L zs).1 :: (cutF f L (zs.drop (frst L zs).2.1.toNat)).1, (frst L zs).2.1.toNat + (cutF f L (zs.drop (frst L zs).2.1.toNat)).2.1, (cutF f L (zs.drop (frst L zs).2.1.toNat)).2.2) := by rw [cutF, if_neg h, if_neg (by omega)]
set_option maxRecDepth 100000 in
theorem drop_lt (L : Int) (zs : List Int) (hz : Byt zs) (h1 : (frst L zs).2.2 = 0) (f : Nat) (hf : zs.length ≤ f + 1) : (zs.drop (frst L zs).2.1.toNat).length ≤ f := by
  have := (frst_ok L zs hz h1).1
  simp; omega
set_option maxRecDepth 100000 in
theorem cutF_fuel : ∀ (f g : Nat) (L : Int) (zs : List Int), Byt zs → zs.length ≤ f → zs.length ≤ g → cutF f L zs = cutF g L zs
  | 0, g, L, zs, hz, hf, hg => by
    have : zs = [] := List.eq_nil_of_length_eq_zero (by omega)
    rw [this, cutF_nil, cutF_nil]
  | f + 1, 0, L, zs, hz, hf, hg => by
    have : zs = [] := List.eq_nil_of_length_eq_zero (by omega)
    rw [this, cutF_nil, cutF_nil]
  | f + 1, g + 1, L, zs, hz, hf, hg => by
    by_cases h : zs = []
    · rw [h, cutF_nil, cutF_nil]
    · by_cases h1 : (frst L zs).2.2 = 0
      · rw [cutF_yes _ _ _ h h1, cutF_yes _ _ _ h h1, cutF_fuel f g L _ (hz.drop _) (drop_lt L zs hz h1 f hf) (drop_lt L zs hz h1 g hg)]
      · rw [cutF_no _ _ _ h h1, cutF_no _ _ _ h h1]
set_option maxRecDepth 100000 in
theorem cut_nil (L : Int) : cut L [] = ([], 0, 0) := cutF_nil _ _
set_option maxRecDepth 100000 in
theorem cut_no (L : Int) (zs : List Int) (h : zs ≠ []) (h1 : (frst L zs).2.2 ≠ 0) : cut L zs = ([], 0, (frst L zs).2.2) := by
  cases hl : zs.length with
  | zero => exact absurd (List.eq_nil_of_length_eq_zero hl) h
  | succ f => rw [cut, hl, cutF_no _ _ _ h h1]
set_option maxRecDepth 100000 in
theorem cut_yes (L : Int) (zs : List Int) (hz : Byt zs) (h : zs ≠ []) (h1 : (frst L zs).2.2 = 0) : cut L zs =
    ((frst L zs).1 :: (cut L (zs.drop (frst L zs).2.1.toNat)).1, (frst L zs).2.1.toNat + (cut L (zs.drop (frst L zs).2.1.toNat)).2.1, (cut L (zs.drop (frst L zs).2.1.toNat)).2.2) := by
  cases hl : zs.length with
  | zero => exact absurd (List.eq_nil_of_length_eq_zero hl) h
  | succ f => rw [cut, hl, cutF_yes _ _ _ h h1, cut, cutF_fuel f _ L _ (hz.drop _) (drop_lt L zs hz h1 f (by omega)) (Nat.le_refl _)]
set_option maxRecDepth 100000 in
/-- Which errors; where; the frames' bytes. -/
theorem cutF_ok : ∀ (f : Nat) (L : Int) (zs : List Int), Byt zs → zs.length ≤ f → (cutF f L zs).2.1 ≤ zs.length ∧ (cutF f L zs).1.length ≤ (cutF f L zs).2.1 ∧ (∀ b ∈ (cutF f L zs).1, Byt b ∧ b.length ≤ zs.length) ∧
    (((cutF f L zs).2.2 = 0 ∧ (cutF f L zs).2.1 = zs.length) ∨ (((cutF f L zs).2.2 = 3 ∨ (cutF f L zs).2.2 = 4 ∨ (cutF f L zs).2.2 = 5) ∧ (cutF f L zs).2.1 < zs.length ∧ (cutF f L zs).2.2 = (frst L (zs.drop (cutF f L zs).2.1)).2.2))
  | 0, L, zs, hz, hf => by
    have : zs = [] := List.eq_nil_of_length_eq_zero (by omega)
    subst this; simp [cutF]
  | f + 1, L, zs, hz, hf => by
    by_cases h : zs = []
    · subst h; simp [cutF]
    · have hpos : 0 < zs.length := List.length_pos_iff.2 h
      by_cases h1 : (frst L zs).2.2 = 0
      · obtain ⟨a, b, c, hlb, d⟩ := frst_ok L zs hz h1
        have ih := cutF_ok f L _ (hz.drop _) (drop_lt L zs hz h1 f hf)
        rw [cutF_yes _ _ _ h h1]
        generalize hq : (frst L zs).2.1.toNat = q at *
        have hl : (zs.drop q).length = zs.length - q := by simp
        rw [hl] at ih
        generalize cutF f L (zs.drop q) = r at *
        obtain ⟨i1, i2, i3, i4⟩ := ih
        refine ⟨by simp only; omega, by simp only [List.length_cons]; omega, ?_, ?_⟩
        · intro x hx
          rcases List.mem_cons.1 hx with rfl | hx
          · exact ⟨d, hlb⟩
          · have := i3 x hx
            exact ⟨this.1, by have := this.2; omega⟩
        · rcases i4 with ⟨e0, e1⟩ | ⟨e0, e1, e2⟩
          · exact Or.inl ⟨e0, by simp only; omega⟩
          · refine Or.inr ⟨e0, by simp only; omega, ?_⟩
            simp only
            rw [e2, List.drop_drop]
      · rw [cutF_no _ _ _ h h1]
        rcases frst_err L zs with h2 | ⟨h2, _⟩
        · exact absurd h2 h1
        · exact ⟨Nat.zero_le _, Nat.le_refl _, by simp, Or.inr ⟨h2, hpos, by simp⟩⟩
set_option maxRecDepth 100000 in
theorem cut_ok (L : Int) (zs : List Int) (hz : Byt zs) : (cut L zs).2.1 ≤ zs.length ∧ (cut L zs).1.length ≤ (cut L zs).2.1 ∧ (∀ b ∈ (cut L zs).1, Byt b ∧ b.length ≤ zs.length) ∧
    (((cut L zs).2.2 = 0 ∧ (cut L zs).2.1 = zs.length) ∨ (((cut L zs).2.2 = 3 ∨ (cut L zs).2.2 = 4 ∨ (cut L zs).2.2 = 5) ∧ (cut L zs).2.1 < zs.length ∧ (cut L zs).2.2 = (frst L (zs.drop (cut L zs).2.1)).2.2)) := cutF_ok _ L zs hz (Nat.le_refl _)
set_option maxRecDepth 100000 in
/-- More bytes: the frames that were there, and those of what was left and the new ones. -/
theorem cutF_append : ∀ (f : Nat) (L : Int) (zs ys : List Int), Byt zs → Byt ys → zs.length ≤ f → cut L (zs ++ ys) =
    ((cutF f L zs).1 ++ (cut L (zs.drop (cutF f L zs).2.1 ++ ys)).1, (cutF f L zs).2.1 + (cut L (zs.drop (cutF f L zs).2.1 ++ ys)).2.1, (cut L (zs.drop (cutF f L zs).2.1 ++ ys)).2.2)
  | 0, L, zs, ys, hz, hy, hf => by
    have : zs = [] := List.eq_nil_of_length_eq_zero (by omega)
    subst this; simp [cutF]
  | f + 1, L, zs, ys, hz, hy, hf => by
    by_cases h : zs = []
    · subst h; simp [cutF]
    · by_cases h1 : (frst L zs).2.2 = 0
      · obtain ⟨a, b, c, _, d⟩ := frst_ok L zs hz h1
        have ih := cutF_append f L _ ys (hz.drop _) hy (drop_lt L zs hz h1 f hf)
        have hap := frst_append L zs ys hz (by omega)
        rw [cutF_yes _ _ _ h h1]
        rw [cut_yes L (zs ++ ys) (hz.append hy) (by simp [h]) (by rw [hap]; exact h1), hap]
        have hq : (zs ++ ys).drop (frst L zs).2.1.toNat = zs.drop (frst L zs).2.1.toNat ++ ys := List.drop_append_of_le_length (by omega)
        rw [hq, ih]
        simp only [List.drop_drop, List.cons_append, Nat.add_assoc]
      · rw [cutF_no _ _ _ h h1]
        simp
set_option maxRecDepth 100000 in
theorem cut_append (L : Int) (zs ys : List Int) (hz : Byt zs) (hy : Byt ys) : cut L (zs ++ ys) =
    ((cut L zs).1 ++ (cut L (zs.drop (cut L zs).2.1 ++ ys)).1, (cut L zs).2.1 + (cut L (zs.drop (cut L zs).2.1 ++ ys)).2.1, (cut L (zs.drop (cut L zs).2.1 ++ ys)).2.2) := cutF_append _ L zs ys hz hy (Nat.le_refl _)

/-- What the iterator yields: where, the frame, the error. -/
def pcsF : Nat → Int → Nat → List Int → List (Nat × List Int × Int)
  | 0, _, _, _ => []
  | f + 1, L, k, zs => if zs = [] then [] else if (frst L zs).2.2 ≠ 0 then [(k, [], (frst L zs).2.2)] else
    (k, (frst L zs).1, 0) :: pcsF f L (k + (frst L zs).2.1.toNat) (zs.drop (frst L zs).2.1.toNat)
def pcs (L : Int) (zs : List Int) : List (Nat × List Int × Int) := pcsF zs.length L 0 zs
set_option maxRecDepth 100000 in
theorem pcsF_nil (f : Nat) (L : Int) (k : Nat) : pcsF f L k [] = [] := by cases f <;> simp [pcsF]
set_option maxRecDepth 100000 in
theorem pcsF_no (f : Nat) (L : Int) (k : Nat) (zs : List Int) (h : zs ≠ []) (h1 : (frst L zs).2.2 ≠ 0) : pcsF (f + 1) L k zs = [(k, [], (frst L zs).2.2)] := by rw [pcsF, if_neg h, if_pos h1]
set_option maxRecDepth 100000 in
theorem pcsF_yes (f : Nat) (L : Int) (k : Nat) (zs : List Int) (h : zs ≠ []) (h1 : (frst L zs).2.2 = 0) : pcsF (f + 1) L k zs =
    (k, (frst L zs).1, 0) :: pcsF f L (k + (frst L zs).2.1.toNat) (zs.drop (frst L zs).2.1.toNat) := by rw [pcsF, if_neg h, if_neg (by omega)]
/-- The frames among them; where the rest begins; what it broke by; how many bytes. -/
def frs (ps : List (Nat × List Int × Int)) : List (List Int) := (ps.filter (fun p => p.2.2 == 0)).map (fun p => p.2.1)
def doneP (d : Nat) (ps : List (Nat × List Int × Int)) : Nat := ps.foldl (fun d p => if p.2.2 = 5 then p.1 else d) d
def faultP (ps : List (Nat × List Int × Int)) : Int := ps.foldl (fun e p => if p.2.2 = 0 ∨ p.2.2 = 5 then e else p.2.2) 0
def lens (bs : List (List Int)) : Nat := (bs.map List.length).sum
set_option maxRecDepth 100000 in
theorem frs_snoc (ps : List (Nat × List Int × Int)) (p : Nat × List Int × Int) : frs (ps ++ [p]) = frs ps ++ (if p.2.2 = 0 then [p.2.1] else []) := by
  unfold frs
  rw [List.filter_append, List.map_append]
  congr 1
  by_cases h : p.2.2 = 0 <;> simp [h]
set_option maxRecDepth 100000 in
theorem doneP_snoc (d : Nat) (ps : List (Nat × List Int × Int)) (p : Nat × List Int × Int) : doneP d (ps ++ [p]) = if p.2.2 = 5 then p.1 else doneP d ps := by simp [doneP]
set_option maxRecDepth 100000 in
theorem faultP_snoc (ps : List (Nat × List Int × Int)) (p : Nat × List Int × Int) : faultP (ps ++ [p]) = if p.2.2 = 0 ∨ p.2.2 = 5 then faultP ps else p.2.2 := by simp [faultP]
set_option maxRecDepth 100000 in
theorem lens_snoc (bs : List (List Int)) (b : List Int) : lens (bs ++ [b]) = lens bs + b.length := by simp [lens]
set_option maxRecDepth 100000 in
theorem foldl_e0 : ∀ (f : Nat) (L : Int) (k : Nat) (zs : List Int) (e : Int), (pcsF f L k zs).foldl (fun e p => if p.2.2 = 0 ∨ p.2.2 = 5 then e else p.2.2) e = if (cutF f L zs).2.2 = 0 ∨ (cutF f L zs).2.2 = 5 then e else (cutF f L zs).2.2
  | 0, L, k, zs, e => by simp [pcsF, cutF]
  | f + 1, L, k, zs, e => by
    by_cases h : zs = []
    · subst h; simp [pcsF, cutF]
    · by_cases h1 : (frst L zs).2.2 = 0
      · rw [pcsF_yes _ _ _ _ h h1, cutF_yes _ _ _ h h1, List.foldl_cons, if_pos (Or.inl rfl), foldl_e0 f]
      · rw [pcsF_no _ _ _ _ h h1, cutF_no _ _ _ h h1]; simp
set_option maxRecDepth 100000 in
theorem pcs_fault (L : Int) (zs : List Int) : faultP (pcs L zs) = if (cut L zs).2.2 = 0 ∨ (cut L zs).2.2 = 5 then 0 else (cut L zs).2.2 := foldl_e0 _ L 0 zs 0
set_option maxRecDepth 100000 in
theorem pcsF_frs : ∀ (f : Nat) (L : Int) (k : Nat) (zs : List Int), frs (pcsF f L k zs) = (cutF f L zs).1
  | 0, L, k, zs => by simp [pcsF, cutF, frs]
  | f + 1, L, k, zs => by
    by_cases h : zs = []
    · subst h; simp [pcsF, cutF, frs]
    · by_cases h1 : (frst L zs).2.2 = 0
      · have := pcsF_frs f L (k + (frst L zs).2.1.toNat) (zs.drop (frst L zs).2.1.toNat)
        rw [pcsF_yes _ _ _ _ h h1, cutF_yes _ _ _ h h1]
        simp only [frs, List.filter_cons, beq_self_eq_true, if_true, List.map_cons]
        rw [← this]; rfl
      · rw [pcsF_no _ _ _ _ h h1, cutF_no _ _ _ h h1]
        simp [frs, h1]
set_option maxRecDepth 100000 in
theorem pcs_frs (L : Int) (zs : List Int) : frs (pcs L zs) = (cut L zs).1 := pcsF_frs _ L 0 zs
set_option maxRecDepth 100000 in
theorem pcsF_done : ∀ (f : Nat) (L : Int) (k d : Nat) (zs : List Int), doneP d (pcsF f L k zs) = if (cutF f L zs).2.2 = 5 then k + (cutF f L zs).2.1 else d
  | 0, L, k, d, zs => by simp [pcsF, cutF, doneP]
  | f + 1, L, k, d, zs => by
    by_cases h : zs = []
    · subst h; simp [pcsF, cutF, doneP]
    · by_cases h1 : (frst L zs).2.2 = 0
      · have := pcsF_done f L (k + (frst L zs).2.1.toNat) d (zs.drop (frst L zs).2.1.toNat)
        rw [pcsF_yes _ _ _ _ h h1, cutF_yes _ _ _ h h1]
        show doneP d (pcsF f L _ _) = _
        rw [this, Nat.add_assoc]
      · rw [pcsF_no _ _ _ _ h h1, cutF_no _ _ _ h h1]
        simp [doneP]
set_option maxRecDepth 100000 in
theorem pcs_done (L : Int) (d : Nat) (zs : List Int) : doneP d (pcs L zs) = if (cut L zs).2.2 = 5 then (cut L zs).2.1 else d := by
  rw [pcs, pcsF_done, Nat.zero_add]; rfl
set_option maxRecDepth 100000 in
theorem pcsF_all0 : ∀ (f : Nat) (L : Int) (k : Nat) (zs : List Int), (∀ p ∈ pcsF f L k zs, p.2.2 = 0) → (cutF f L zs).2.2 = 0
  | 0, L, k, zs, _ => by simp [cutF]
  | f + 1, L, k, zs, h0 => by
    by_cases h : zs = []
    · subst h; simp [cutF]
    · by_cases h1 : (frst L zs).2.2 = 0
      · rw [pcsF_yes _ _ _ _ h h1] at h0
        rw [cutF_yes _ _ _ h h1]
        exact pcsF_all0 f L _ _ (fun p hp => h0 p (List.mem_cons_of_mem _ hp))
      · rw [pcsF_no _ _ _ _ h h1] at h0
        exact absurd (h0 (k, [], (frst L zs).2.2) (by simp)) h1
set_option maxRecDepth 100000 in
theorem pcsF_stop : ∀ (f : Nat) (L : Int) (k : Nat) (zs : List Int) (ini : List (Nat × List Int × Int)) (last : Nat × List Int × Int), ini ++ [last] <+: pcsF f L k zs → last.2.2 ≠ 0 →
    (cutF f L zs).2.2 = last.2.2 ∧ last.1 = k + (cutF f L zs).2.1
  | 0, L, k, zs, ini, last, h, hl => by simp [pcsF] at h
  | f + 1, L, k, zs, ini, last, h0, hl => by
    by_cases h : zs = []
    · subst h; simp [pcsF] at h0
    · by_cases h1 : (frst L zs).2.2 = 0
      · rw [pcsF_yes _ _ _ _ h h1] at h0
        rw [cutF_yes _ _ _ h h1]
        cases ini with
        | nil =>
          rw [List.nil_append, List.cons_prefix_cons] at h0
          rw [h0.1] at hl; exact absurd rfl hl
        | cons i ini =>
          rw [List.cons_append, List.cons_prefix_cons] at h0
          have := pcsF_stop f L _ _ ini last h0.2 hl
          exact ⟨this.1, by simp only; omega⟩
      · rw [pcsF_no _ _ _ _ h h1] at h0
        rw [cutF_no _ _ _ h h1]
        cases ini with
        | nil =>
          rw [List.nil_append, List.cons_prefix_cons] at h0
          rw [h0.1]; simp
        | cons i ini =>
          rw [List.cons_append, List.cons_prefix_cons] at h0
          have := h0.2.length_le
          simp at this
set_option maxRecDepth 100000 in
theorem pcsF_len : ∀ (f : Nat) (L : Int) (k : Nat) (zs : List Int), (pcsF f L k zs).length ≤ f
  | 0, L, k, zs => by simp [pcsF]
  | f + 1, L, k, zs => by
    by_cases h : zs = []
    · subst h; simp [pcsF]
    · by_cases h1 : (frst L zs).2.2 = 0
      · rw [pcsF_yes _ _ _ _ h h1, List.length_cons]
        have := pcsF_len f L (k + (frst L zs).2.1.toNat) (zs.drop (frst L zs).2.1.toNat)
        omega
      · rw [pcsF_no _ _ _ _ h h1]; simp
end Go.Proofs.Ytkcnpdcgonengaa
