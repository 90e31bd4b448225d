/- Bytes' fields, laid again, are the bytes. No function of the program. -/
import Derived.Test.YteidjnkkjjigoaaPureD
namespace Go.Proofs.Yteidjnkkjjigoaa

theorem rf_back (zs : List Int) (hz : ∀ c ∈ zs, 0 ≤ c ∧ c ≤ 255) (h : (rf zs).2.2 = 0) :
    mixedB (rf zs).1 = false ∧ (rf zs).2.1 = ((lay (rf zs).1).length : Int) ∧ zs = lay (rf zs).1 ++ zs.drop (lay (rf zs).1).length := by
  by_cases h0 : (rd zs).2.2 = 0
  · obtain ⟨hk0, hk1, hkt, hks⟩ := rd_ok zs hz h0
    have hle1 : (enc (rd zs).1).length ≤ zs.length := by
      have := congrArg List.length hkt
      simp at this; omega
    have hT : (rd zs).2.1.toNat = (enc (rd zs).1).length := by rw [hks]; omega
    have hz1 : zs = enc (rd zs).1 ++ zs.drop (enc (rd zs).1).length := by
      conv => lhs; rw [← List.take_append_drop (enc (rd zs).1).length zs, hkt]
    by_cases h2 : (rd (zs.drop (rd zs).2.1.toNat)).2.2 = 0
    · obtain ⟨hm0, hm1, hmt, hms⟩ := rd_ok (zs.drop (rd zs).2.1.toNat) (fun c hc => hz c (List.mem_of_mem_drop hc)) h2
      rw [hT] at hm0 hm1 hmt hms h2
      have hle2 : (enc (rd (zs.drop (enc (rd zs).1).length)).1).length ≤ zs.length - (enc (rd zs).1).length := by
        have := congrArg List.length hmt
        simp only [List.length_take, List.length_drop] at this; omega
      have hz2 : zs.drop (enc (rd zs).1).length = enc (rd (zs.drop (enc (rd zs).1).length)).1 ++ zs.drop ((enc (rd zs).1).length + (enc (rd (zs.drop (enc (rd zs).1).length)).1).length) := by
        conv => lhs; rw [← List.take_append_drop (enc (rd (zs.drop (enc (rd zs).1).length)).1).length (zs.drop (enc (rd zs).1).length), hmt, List.drop_drop]
      have hR : rf zs = if (rd zs).1 % 2 = 0 then (⟨(rd zs).1 / 2, false, (rd (zs.drop (enc (rd zs).1).length)).1, []⟩, (rd zs).2.1 + (rd (zs.drop (enc (rd zs).1).length)).2.1, 0) else
          if (zs.length : Int) - ((rd zs).2.1 + (rd (zs.drop (enc (rd zs).1).length)).2.1) < (rd (zs.drop (enc (rd zs).1).length)).1 then (zeroF, 0, 5) else
          (⟨(rd zs).1 / 2, true, 0, (zs.drop ((rd zs).2.1 + (rd (zs.drop (enc (rd zs).1).length)).2.1).toNat).take (rd (zs.drop (enc (rd zs).1).length)).1.toNat⟩, (rd zs).2.1 + (rd (zs.drop (enc (rd zs).1).length)).2.1 + (rd (zs.drop (enc (rd zs).1).length)).1, 0) := by
        unfold rf
        rw [hT, if_neg (by simp [h0]), if_neg (by simp [h2])]
      rw [hks, hms] at hR
      clear hks hms h0 h2 hmt hkt hT
      generalize (rd (zs.drop (enc (rd zs).1).length)).1 = m at *
      generalize (rd zs).1 = key at *
      by_cases hev : key % 2 = 0
      · rw [if_pos hev] at hR
        rw [hR]
        have hL : lay ⟨key / 2, false, m, []⟩ = enc key ++ enc m := by
          have : key / 2 * 2 = key := by omega
          simp [lay, this]
        refine ⟨by simp [mixedB], by simp only [hL, List.length_append]; omega, ?_⟩
        simp only [hL, List.length_append, List.append_assoc]
        rw [← hz2]; exact hz1
      · rw [if_neg hev] at hR
        by_cases hbig : (zs.length : Int) - (((enc key).length : Int) + ((enc m).length : Int)) < m
        · rw [if_pos hbig] at hR
          rw [hR] at h
          cases h
        · rw [if_neg hbig] at hR
          rw [hR]
          obtain ⟨mm, rfl⟩ := Int.eq_ofNat_of_zero_le hm0
          have e1 : (((enc key).length : Int) + ((enc (mm : Int)).length : Int)).toNat = (enc key).length + (enc (mm : Int)).length := by omega
          have e2 : ((zs.drop ((enc key).length + (enc (mm : Int)).length)).take mm).length = mm := by simp; omega
          have hL : lay ⟨key / 2, true, 0, (zs.drop ((enc key).length + (enc (mm : Int)).length)).take mm⟩ = enc key ++ (enc (mm : Int) ++ (zs.drop ((enc key).length + (enc (mm : Int)).length)).take mm) := by
            have : key / 2 * 2 + 1 = key := by omega
            simp only [lay, this, e2, if_true, List.append_assoc]
          simp only [e1, Int.toNat_natCast]
          refine ⟨by simp [mixedB], by rw [hL]; simp only [List.length_append, e2]; omega, ?_⟩
          rw [hL]
          simp only [List.length_append, e2, List.append_assoc]
          have e3 : ∀ P : Nat, (zs.drop P).take mm ++ zs.drop (P + mm) = zs.drop P := fun P => by rw [← List.drop_drop, List.take_append_drop]
          rw [← Nat.add_assoc, e3, ← hz2]
          exact hz1
    · simp only [rf, h0, h2, ne_eq, not_true_eq_false, if_false, not_false_eq_true, if_true] at h
  · simp only [rf, h0, ne_eq, not_false_eq_true, if_true] at h

theorem decF_back : ∀ (fuel : Nat) (l : List Fld) (k : Int) (zs : List Int), (∀ c ∈ zs, 0 ≤ c ∧ c ≤ 255) → zs.length ≤ fuel → l.length ≤ 64 → (decF fuel l k zs).2.2 = 0 →
    ∃ fs, (decF fuel l k zs).1 = l ++ fs ∧ okF l fs = true ∧ layAll fs = zs ∧ (l ++ fs).length ≤ 64
  | 0, l, k, zs, _, hl, h64, _ => by
    have : zs = [] := List.eq_nil_of_length_eq_zero (by omega)
    subst this
    exact ⟨[], by simp [decF], rfl, rfl, by simpa using h64⟩
  | fuel + 1, l, k, zs, hz, hl, h64, h => by
    by_cases hnil : zs = []
    · subst hnil
      exact ⟨[], by simp [decF], rfl, rfl, by simpa using h64⟩
    rw [decF, if_neg hnil] at h ⊢
    by_cases h1 : (rf zs).2.2 = 0
    · rw [if_neg (by simp [h1])] at h ⊢
      by_cases h2 : nextE l (rf zs).1 = 0
      · rw [if_neg (by simp [h2])] at h ⊢
        obtain ⟨hmx, hsz, hzs⟩ := rf_back zs hz h1
        have hlt := nextE_len h2 h64
        have hmay : fmay l (rf zs).1 = true := by
          unfold nextE at h2
          split at h2
          · assumption
          · cases h2
        have hpos : 1 ≤ (lay (rf zs).1).length := List.length_pos_iff.2 (lay_ne _)
        rw [hsz, Int.toNat_natCast] at h ⊢
        obtain ⟨fs, e1, e2, e3, e4⟩ := decF_back fuel (l ++ [(rf zs).1]) _ (zs.drop (lay (rf zs).1).length) (fun c hc => hz c (List.mem_of_mem_drop hc)) (by simp; omega) (by simp; omega) h
        refine ⟨(rf zs).1 :: fs, by rw [e1]; simp, by simp [okF, hmay, hmx, e2], ?_, by simpa using e4⟩
        have e : layAll ((rf zs).1 :: fs) = lay (rf zs).1 ++ layAll fs := by simp [layAll]
        rw [e, e3]; exact hzs.symm
      · rw [if_pos h2] at h
        exact absurd h h2
    · rw [if_pos h1] at h
      exact absurd h h1

theorem decF_len : ∀ (fuel : Nat) (l : List Fld) (k : Int) (zs : List Int), l.length ≤ 64 → (decF fuel l k zs).1.length ≤ 64
  | 0, l, k, zs, h => by simpa [decF] using h
  | fuel + 1, l, k, zs, h => by
    rw [decF]
    split
    · exact h
    · split
      · simp
      · split
        · simp
        · rename_i h2
          have := nextE_len (by simpa using h2) h
          exact decF_len fuel _ _ _ (by simp; omega)
theorem decM_len (zs : List Int) : (decM zs).1.length ≤ 64 := by
  unfold decM
  split
  · simp
  · exact decF_len _ _ _ _ (by simp)
theorem encM_dec (zs : List Int) (hz : ∀ c ∈ zs, 0 ≤ c ∧ c ≤ 255) (h : (decM zs).2.2 = 0) : encM (decM zs).1 = (zs, 0) := by
  unfold decM at h ⊢
  split at h
  · cases h
  · rename_i hb
    rw [if_neg hb]
    obtain ⟨fs, e1, e2, e3, e4⟩ := decF_back zs.length [] 0 zs hz (Nat.le_refl _) (by simp) h
    rw [e1, List.nil_append]
    have hbl := blen_lay fs [] e2
    rw [List.nil_append] at e4
    have ht : tooB fs = false := by simp only [tooB, Bool.or_eq_false_iff, decide_eq_false_iff_not]; rw [e3] at hbl; omega
    unfold encM
    rw [ht, if_neg (by simp), if_pos e2, e3, if_neg hb]
end Go.Proofs.Yteidjnkkjjigoaa
