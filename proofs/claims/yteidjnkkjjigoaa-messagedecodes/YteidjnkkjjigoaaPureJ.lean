/- Two messages, the second one's tags all above the first one's, joined are the message of both: in plain mathematics. No program. -/
import Derived.Test.YteidjnkkjjigoaaMsgD
namespace Go.Proofs.Yteidjnkkjjigoaa
open Go.RowKit

theorem fmay_shift (A B : List Fld) (f : Fld) (t : Int) (hA : ∀ l ∈ A, l.tag ≤ t) (hf : t < f.tag) (h : fmay B f = true) : fmay (A ++ B) f = true := by
  by_cases hB : B = []
  · subst hB
    have ht := fmay_tag h
    have hn : ¬ (f.tag < 1 ∨ 1000 < f.tag) := by omega
    rw [List.append_nil]
    cases hl : A.getLast? with
    | none => simp [fmay, hn, hl]
    | some l =>
      have hm := hA l (List.mem_of_getLast? hl)
      have h1 : ¬ f.tag = l.tag := by omega
      have h2 : l.tag < f.tag := by omega
      simp [fmay, hn, hl, h1, h2]
  · have e : (A ++ B).getLast? = B.getLast? := by
      rw [List.getLast?_append]
      cases hB2 : B.getLast? with
      | none => exact absurd (List.getLast?_eq_none_iff.1 hB2) hB
      | some l => rfl
    unfold fmay at h ⊢
    rw [e]; exact h
theorem okF_shift : ∀ (fs A B : List Fld) (t : Int), (∀ l ∈ A, l.tag ≤ t) → (∀ f ∈ fs, t < f.tag) → okF B fs = true → okF (A ++ B) fs = true
  | [], _, _, _, _, _, _ => rfl
  | f :: fs, A, B, t, hA, hfs, h => by
    simp only [okF, Bool.and_eq_true] at h ⊢
    refine ⟨⟨fmay_shift A B f t hA (hfs f (by simp)) h.1.1, h.1.2⟩, ?_⟩
    rw [List.append_assoc]
    exact okF_shift fs A (B ++ [f]) t hA (fun g hg => hfs g (List.mem_cons_of_mem _ hg)) h.2
theorem okF_append : ∀ (fs gs A : List Fld), okF A (fs ++ gs) = (okF A fs && okF (A ++ fs) gs)
  | [], gs, A => by simp [okF]
  | f :: fs, gs, A => by
    simp only [List.cons_append, okF]
    rw [okF_append fs gs (A ++ [f]), List.append_assoc, List.singleton_append]
    simp only [Bool.and_assoc]
theorem blen_lay : ∀ (fs A : List Fld), okF A fs = true → blen fs ≤ (layAll fs).length
  | [], _, _ => by simp [blen, layAll]
  | f :: fs, A, h => by
    simp only [okF, Bool.and_eq_true, Bool.not_eq_true'] at h
    have ih := blen_lay fs (A ++ [f]) h.2
    have hf : f.b.length ≤ (lay f).length := by
      have hm := h.1.2
      unfold mixedB at hm
      unfold lay
      split
      · simp; omega
      · rename_i hb
        rw [if_neg hb] at hm
        simp at hm
        simp [hm]
    simp only [blen, layAll, List.map_cons, List.sum_cons, List.flatten_cons, List.length_append] at ih ⊢
    omega
theorem encM_ok {fs : List Fld} (h : (encM fs).2 = 0) : okF [] fs = true ∧ (encM fs).1 = layAll fs := by
  unfold encM at h ⊢
  split at h
  · cases h
  · split at h
    · split at h
      · cases h
      · rename_i h1 h2 h3
        rw [if_neg h1, if_pos h2, if_neg h3]
        exact ⟨h2, rfl⟩
    · cases h
theorem encM_join (fs gs : List Fld) (t : Int) (hf : ∀ f ∈ fs, f.tag ≤ t) (hg : ∀ g ∈ gs, t < g.tag) (h1 : (encM fs).2 = 0) (h2 : (encM gs).2 = 0) (hl : fs.length + gs.length ≤ 64)
    (hb : (encM fs).1.length + (encM gs).1.length ≤ 4096) : encM (fs ++ gs) = ((encM fs).1 ++ (encM gs).1, 0) := by
  obtain ⟨o1, e1⟩ := encM_ok h1
  obtain ⟨o2, e2⟩ := encM_ok h2
  rw [e1, e2] at hb ⊢
  have b1 := blen_lay fs [] o1
  have b2 := blen_lay gs [] o2
  have hL : layAll (fs ++ gs) = layAll fs ++ layAll gs := by simp [layAll]
  have hB : blen (fs ++ gs) = blen fs + blen gs := by simp [blen]
  have ht : tooB (fs ++ gs) = false := by
    simp only [tooB, Bool.or_eq_false_iff, decide_eq_false_iff_not, List.length_append, hB]
    omega
  have ho : okF [] (fs ++ gs) = true := by
    rw [okF_append, o1, Bool.true_and]
    have := okF_shift gs fs [] t hf hg o2
    simpa using this
  have hlen : ¬ 4096 < (layAll (fs ++ gs)).length := by rw [hL, List.length_append]; omega
  rw [encM, ht, ho]
  simp only [Bool.false_eq_true, if_false, if_true]
  rw [if_neg hlen, hL]
theorem FRow.bytes {w : World} {a : Option Addr} {fs : List Fld} (h : FRow w a fs) : ∀ f ∈ fs, ∀ c ∈ f.b, 0 ≤ c ∧ c ≤ 255 := by
  intro f hf
  obtain ⟨j, hj, rfl⟩ := List.getElem_of_mem hf
  obtain ⟨b, off, rfl, hc⟩ := h.2 (by intro e; rw [e] at hj; simp at hj)
  obtain ⟨_, _, _, _, _, _, hs⟩ := hc j hj
  exact hs.1.byte
theorem encM_byte (fs : List Fld) (hok : ∀ f ∈ fs, f.ok) (hb : ∀ f ∈ fs, ∀ c ∈ f.b, 0 ≤ c ∧ c ≤ 255) : ∀ c ∈ (encM fs).1, 0 ≤ c ∧ c ≤ 255 := by
  by_cases h : (encM fs).2 = 0
  · obtain ⟨ho, he⟩ := encM_ok h
    rw [he]
    intro c hc
    obtain ⟨l, hl, hcl⟩ := List.mem_flatten.1 hc
    obtain ⟨f, hf, rfl⟩ := List.mem_map.1 hl
    exact lay_byte f (hok f hf) (okF_at fs [] ho f hf).1 (hb f hf) c hcl
  · have he : (encM fs).1 = [] := by
      unfold encM at h ⊢
      split
      · rfl
      · split
        · split
          · rfl
          · rename_i h1 h2 h3
            rw [if_neg h1, if_pos h2, if_neg h3] at h
            exact absurd rfl h
        · rfl
    rw [he]; simp
theorem encM_len (fs : List Fld) : (encM fs).1.length ≤ 4096 := by
  unfold encM
  split
  · simp
  · split
    · split
      · simp
      · simp only; omega
    · simp
/-- Texts of bytes, one behind the other. -/
theorem str_append (xs ys : List Int) : strOfNums xs ++ strOfNums ys = strOfNums (xs ++ ys) := by
  apply ByteArray.ext
  simp [strOfNums]
end Go.Proofs.Yteidjnkkjjigoaa
