/- Fields' bytes, read back, are the fields. No function of the program. -/
import Derived.Test.YteidjnkkjjigoaaPureJ
import Derived.Test.YteidjnkkjjigoaaPureB
import Derived.Test.YteidjnkkjjigoaaMsgG
namespace Go.Proofs.Yteidjnkkjjigoaa

theorem rf_lay (f : Fld) (more : List Int) (hok : f.ok) (ht : 1 ≤ f.tag ∧ f.tag ≤ 1000) (hmx : mixedB f = false) (hb : f.b.length ≤ 70368744177664) : rf (lay f ++ more) = (f, ((lay f).length : Int), 0) := by
  obtain ⟨tag, isB, n, b⟩ := f
  obtain ⟨-, hn0, hn1⟩ := hok
  simp only at hn0 hn1 ht hb
  cases isB
  · have hbn : b = [] := List.eq_nil_of_length_eq_zero (by simp [mixedB] at hmx; simp [hmx])
    subst hbn
    have hL : lay ⟨tag, false, n, []⟩ = enc (tag * 2) ++ enc n := by simp [lay]
    rw [hL, List.append_assoc]
    have r1 := rd_enc (tag * 2) (enc n ++ more) (by omega) (by omega)
    have r2 := rd_enc n more hn0 hn1
    unfold rf
    simp only [r1, Int.toNat_natCast, List.drop_left, r2]
    simp
  · have hn : n = 0 := by simpa [mixedB] using hmx
    subst hn
    have hL : lay ⟨tag, true, 0, b⟩ = enc (tag * 2 + 1) ++ enc b.length ++ b := by simp [lay]
    rw [hL, List.append_assoc, List.append_assoc]
    have r1 := rd_enc (tag * 2 + 1) (enc b.length ++ (b ++ more)) (by omega) (by omega)
    have r2 := rd_enc b.length (b ++ more) (by omega) (by omega)
    unfold rf
    simp only [r1, Int.toNat_natCast, List.drop_left, r2]
    have e1 : (tag * 2 + 1) % 2 = 1 := by omega
    have e2 : (tag * 2 + 1) / 2 = tag := by omega
    have e3 : ((enc (tag * 2 + 1)).length + (enc (b.length : Int)).length : Int).toNat = (enc (tag * 2 + 1)).length + (enc (b.length : Int)).length := by omega
    have e4 : (enc (tag * 2 + 1) ++ (enc (b.length : Int) ++ (b ++ more))).drop ((enc (tag * 2 + 1)).length + (enc (b.length : Int)).length) = b ++ more := by
      rw [← List.drop_drop, List.drop_left, List.drop_left]
    have e5 : ¬ (((enc (tag * 2 + 1) ++ (enc (b.length : Int) ++ (b ++ more))).length : Int) - ((enc (tag * 2 + 1)).length + (enc (b.length : Int)).length) < b.length) := by
      simp only [List.length_append]; omega
    rw [if_neg (by simp), if_neg (by simp), if_neg (by omega), if_neg e5, e3, e4, e2, List.take_left]
    simp [Int.add_assoc]

theorem lay_ne (f : Fld) : lay f ≠ [] := by
  intro h
  unfold lay at h
  split at h
  · exact enc_ne _ (List.append_eq_nil_iff.1 (List.append_eq_nil_iff.1 h).1).1
  · exact enc_ne _ (List.append_eq_nil_iff.1 h).1

theorem decF_lay : ∀ (fs ahead : List Fld) (k : Int) (fuel : Nat), okF ahead fs = true → ahead.length + fs.length ≤ 64 → (∀ f ∈ fs, f.ok) → (∀ f ∈ fs, f.b.length ≤ 70368744177664) → (layAll fs).length ≤ fuel →
    decF fuel ahead k (layAll fs) = (ahead ++ fs, ((ahead ++ fs).length : Int), 0)
  | [], ahead, k, fuel, _, _, _, _, _ => by
    have e : layAll [] = [] := rfl
    rw [e, decF_nil, List.append_nil]
  | f :: fs, ahead, k, fuel, hok, hl, h1, h2, hf => by
    have e : layAll (f :: fs) = lay f ++ layAll fs := by simp [layAll]
    rw [e] at hf ⊢
    simp only [okF, Bool.and_eq_true, Bool.not_eq_true'] at hok
    obtain ⟨⟨hm, hx⟩, hrest⟩ := hok
    have hne := lay_ne f
    have hpos : 1 ≤ (lay f).length := List.length_pos_iff.2 hne
    simp only [List.length_append, List.length_cons] at hf hl
    obtain ⟨fu, rfl⟩ : ∃ fu, fuel = fu + 1 := ⟨fuel - 1, by omega⟩
    have hr := rf_lay f (layAll fs) (h1 f (by simp)) (fmay_tag hm) hx (h2 f (by simp))
    have hn : nextE ahead f = 0 := by
      unfold nextE
      rw [if_pos hm, if_neg (by omega)]
    have ih := decF_lay fs (ahead ++ [f]) (k + ((lay f).length : Int)) fu hrest (by simp only [List.length_append, List.length_singleton]; omega) (fun g hg => h1 g (by simp [hg])) (fun g hg => h2 g (by simp [hg])) (by omega)
    have hne2 : lay f ++ layAll fs ≠ [] := fun e => hne (List.append_eq_nil_iff.1 e).1
    rw [decF, if_neg hne2, hr]
    simp only [Int.toNat_natCast, List.drop_left, hn, ne_eq, not_true_eq_false, if_false]
    rw [ih]
    simp

theorem decM_enc (fs : List Fld) (h : (encM fs).2 = 0) (hok : ∀ f ∈ fs, f.ok) (hb : ∀ f ∈ fs, f.b.length ≤ 70368744177664) : decM (encM fs).1 = (fs, (fs.length : Int), 0) := by
  obtain ⟨h1, h2⟩ := encM_ok h
  have hl := encM_len fs
  have hlen : fs.length ≤ 64 := by
    unfold encM at h
    split at h
    · cases h
    · rename_i h'; simp [tooB] at h'; omega
  unfold decM
  rw [if_neg (by omega), h2]
  have := decF_lay fs [] 0 (layAll fs).length h1 (by simpa using hlen) hok hb (Nat.le_refl _)
  simpa using this
end Go.Proofs.Yteidjnkkjjigoaa
