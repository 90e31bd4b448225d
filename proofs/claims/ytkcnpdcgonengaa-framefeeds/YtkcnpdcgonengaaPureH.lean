/- Frames laid one behind the other, and frames out of chunks, in plain mathematics. No conditions; no program. -/
import Derived.Test.YtkcnpdcgonengaaPureG
namespace Go.Proofs.Ytkcnpdcgonengaa

/-- By what an assembler broke; what it holds then. -/
def flt (e : Int) : Int := if e = 0 ∨ e = 5 then 0 else e
def left (L : Int) (zs : List Int) : List Int := if flt (cut L zs).2.2 = 0 then zs.drop (cut L zs).2.1 else []
set_option maxRecDepth 100000 in
theorem flt_zero (e : Int) : flt e = 0 ↔ e = 0 ∨ e = 5 := by
  unfold flt
  split
  · simp_all
  · constructor
    · intro h; omega
    · intro h; contradiction
set_option maxRecDepth 100000 in
/-- More bytes behind those that came: as if they came behind what is held. -/
theorem cut_more (L : Int) (zs c : List Int) (hz : Byt zs) (hc : Byt c) (h : flt (cut L zs).2.2 = 0) :
    (cut L (zs ++ c)).1 = (cut L zs).1 ++ (cut L (left L zs ++ c)).1 ∧ (cut L (zs ++ c)).2.2 = (cut L (left L zs ++ c)).2.2 ∧ (cut L (zs ++ c)).2.1 = (cut L zs).2.1 + (cut L (left L zs ++ c)).2.1 ∧
    (zs ++ c).drop (cut L (zs ++ c)).2.1 = (left L zs ++ c).drop (cut L (left L zs ++ c)).2.1 := by
  have e : left L zs = zs.drop (cut L zs).2.1 := by rw [left, if_pos h]
  have ha := cut_append L zs c hz hc
  have hl := (cut_ok L zs hz).1
  rw [e, ha]
  refine ⟨rfl, rfl, rfl, ?_⟩
  simp only
  rw [← List.drop_drop, List.drop_append_of_le_length hl]
set_option maxRecDepth 100000 in
theorem left_more (L : Int) (zs c : List Int) (hz : Byt zs) (hc : Byt c) (h : flt (cut L zs).2.2 = 0) : left L (zs ++ c) = left L (left L zs ++ c) := by
  obtain ⟨_, h2, _, h4⟩ := cut_more L zs c hz hc h
  unfold left at *
  rw [h2]
  rw [h4]
set_option maxRecDepth 100000 in
theorem left_byt (L : Int) (zs : List Int) (hz : Byt zs) : Byt (left L zs) := by
  unfold left
  split
  · exact hz.drop _
  · intro c hc; cases hc
set_option maxRecDepth 100000 in
theorem left_len (L : Int) (zs : List Int) : (left L zs).length ≤ zs.length := by
  unfold left
  split <;> simp
set_option maxRecDepth 100000 in
/-- What is left lacks bytes: its number, if it is known, is within the limit. -/
theorem left_num (L : Int) (zs : List Int) (hz : Byt zs) (hL : L ≤ 4096) (h : flt (cut L zs).2.2 = 0) : (rd (left L zs)).2.2 = 0 → (rd (left L zs)).1 ≤ 4096 := by
  intro h0
  have e : left L zs = zs.drop (cut L zs).2.1 := by rw [left, if_pos h]
  rw [e] at h0 ⊢
  rcases (cut_ok L zs hz).2.2.2 with ⟨_, h1⟩ | ⟨h1, h2, h3⟩
  · rw [h1, List.drop_length] at h0
    simp [rd, rdF] at h0
  · rcases frst_ways L (zs.drop (cut L zs).2.1) with ⟨h4, _⟩ | ⟨_, _, e'⟩ | ⟨_, h4, _⟩ | ⟨_, h4, _⟩
    · exact absurd h0 h4
    · rw [e'] at h3
      rw [h3] at h
      exact absurd h (by decide)
    · omega
    · omega

/-- A frame, laid; frames, laid. -/
def wrapB (b : List Int) : List Int := enc b.length ++ b
def wraps (bs : List (List Int)) : List Int := (bs.map wrapB).flatten
set_option maxRecDepth 100000 in
theorem wraps_snoc (bs : List (List Int)) (b : List Int) : wraps (bs ++ [b]) = wraps bs ++ wrapB b := by simp [wraps]
set_option maxRecDepth 100000 in
theorem wrapB_byt (b : List Int) (hb : Byt b) : Byt (wrapB b) := Byt.append (enc_byte _ (by omega)) hb
set_option maxRecDepth 100000 in
theorem wraps_byt : ∀ (bs : List (List Int)), (∀ b ∈ bs, Byt b) → Byt (wraps bs)
  | [], _ => by intro c hc; simp [wraps] at hc
  | b :: bs, h => by
    have e : wraps (b :: bs) = wrapB b ++ wraps bs := by simp [wraps]
    rw [e]
    exact (wrapB_byt b (h b (by simp))).append (wraps_byt bs (fun x hx => h x (List.mem_cons_of_mem _ hx)))
set_option maxRecDepth 100000 in
theorem wraps_len : ∀ (bs : List (List Int)), (∀ b ∈ bs, b.length ≤ 300) → (wraps bs).length ≤ bs.length * 310
  | [], _ => by simp [wraps]
  | b :: bs, h => by
    have e : wraps (b :: bs) = wrapB b ++ wraps bs := by simp [wraps]
    have h1 := wraps_len bs (fun x hx => h x (List.mem_cons_of_mem _ hx))
    have h2 := h b (by simp)
    have h3 := enc_len (b.length : Int)
    rw [e, List.length_append, List.length_cons, wrapB, List.length_append]
    omega
set_option maxRecDepth 100000 in
theorem cut_wrap (L : Int) (b rest : List Int) (hb : (b.length : Int) ≤ L) (hL : L ≤ 4096) (hz : Byt b) (hr : Byt rest) :
    cut L (wrapB b ++ rest) = (b :: (cut L rest).1, (wrapB b).length + (cut L rest).2.1, (cut L rest).2.2) := by
  have e : wrapB b ++ rest = enc b.length ++ (b ++ rest) := by simp [wrapB]
  have hrd := rd_enc (b.length : Int) (b ++ rest) (by omega) (by omega)
  have hf : frst L (wrapB b ++ rest) = (b, ((enc b.length).length : Int) + b.length, 0) := by
    rw [e, frst_yes _ _ (by rw [hrd]) (by rw [hrd]; exact hb) (by rw [hrd]; simp; omega), hrd]
    simp only [Int.toNat_natCast]
    rw [List.drop_left, List.take_left]
  have hne : wrapB b ++ rest ≠ [] := by
    have := (enc_len (b.length : Int)).1
    intro h
    have h2 := congrArg List.length h
    rw [List.length_append, wrapB, List.length_append, List.length_nil] at h2
    omega
  have hs : (((enc (b.length : Int)).length : Int) + (b.length : Int)).toNat = (wrapB b).length := by simp [wrapB]; omega
  rw [cut_yes L _ ((wrapB_byt b hz).append hr) hne (by rw [hf]), hf]
  simp only [hs, List.drop_left]
set_option maxRecDepth 100000 in
theorem cut_wraps (L : Int) (hL : L ≤ 4096) : ∀ (bs : List (List Int)), (∀ b ∈ bs, (b.length : Int) ≤ L ∧ Byt b) → cut L (wraps bs) = (bs, (wraps bs).length, 0)
  | [], _ => by simp [wraps, cut_nil]
  | b :: bs, h => by
    have e : wraps (b :: bs) = wrapB b ++ wraps bs := by simp [wraps]
    have hb := h b (by simp)
    rw [e, cut_wrap L b (wraps bs) hb.1 hL hb.2 (wraps_byt bs (fun x hx => (h x (List.mem_cons_of_mem _ hx)).2)), cut_wraps L hL bs (fun x hx => h x (List.mem_cons_of_mem _ hx)), List.length_append]
set_option maxRecDepth 100000 in
/-- The first bytes of whole frames are frames, and perhaps one that isn't whole. -/
theorem cut_front (L : Int) (zs ys : List Int) (hz : Byt zs) (hy : Byt ys) (h : (cut L (zs ++ ys)).2.2 = 0) : flt (cut L zs).2.2 = 0 := by
  rw [flt_zero]
  rcases (cut_ok L zs hz).2.2.2 with ⟨h1, _⟩ | ⟨h1, h2, h3⟩
  · exact Or.inl h1
  · by_cases h5 : (cut L zs).2.2 = 5
    · exact Or.inr h5
    · exfalso
      rw [cut_append L zs ys hz hy] at h
      simp only at h
      have hne : zs.drop (cut L zs).2.1 ++ ys ≠ [] := by
        intro e
        have := congrArg List.length e
        simp at this
        omega
      have hfr := frst_append L (zs.drop (cut L zs).2.1) ys (hz.drop _) (by rw [← h3]; exact h5)
      rw [cut_no L _ hne (by rw [hfr, ← h3]; rcases h1 with e | e | e <;> rw [e] <;> decide), hfr, ← h3] at h
      rcases h1 with e | e | e <;> rw [e] at h <;> simp at h
end Go.Proofs.Ytkcnpdcgonengaa
