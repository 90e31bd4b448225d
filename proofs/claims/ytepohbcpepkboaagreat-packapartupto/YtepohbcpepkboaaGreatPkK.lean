/- The value of bytes: it is clean, its numbers are ints, and it has no more values and letters than there are bytes, and one. In plain mathematics. -/
import Derived.Test.YtepohbcpepkboaaGreatPkJ
namespace Go.Proofs.YtepohbcpepkboaaGreat
open Go.RowKit

set_option maxRecDepth 100000 in
theorem numN_ok {p : Fld → Bool} {fs : List Fld} (h : ∀ f ∈ fs, f.ok) : 0 ≤ numN p fs ∧ numN p fs < 18446744073709551616 := by
  unfold numN
  cases hx : fs[fs.findIdx p]? with
  | none => simp
  | some f =>
    have hm := List.mem_of_getElem? hx
    have h2 := (h f hm).2
    simpa using h2
set_option maxRecDepth 100000 in
theorem bytB_wide (t : Int) (fs : List Fld) : (bytB (fitB t true) fs).length ≤ wide fs := by
  unfold bytB
  cases hx : fs[fs.findIdx (fitB t true)]? with
  | none => simp
  | some f =>
    have hm := List.mem_of_getElem? hx
    have hlt : fs.findIdx (fitB t true) < fs.length := (List.getElem?_eq_some_iff.1 hx).1
    have hp := List.findIdx_getElem (xs := fs) (p := fitB t true) (w := hlt)
    have e : fs[fs.findIdx (fitB t true)] = f := (List.getElem?_eq_some_iff.1 hx).2
    rw [e] at hp
    simp [fitB] at hp
    have := wide_mem hm hp.2
    simp
    omega
set_option maxRecDepth 100000 in
theorem bulk_map_le {g : List Int → V} : ∀ (bs : List (List Int)), (∀ b ∈ bs, (g b).bulk ≤ b.length + 1) → V.bulk.go (bs.map g) ≤ (bs.map (fun b => b.length + 2)).sum
  | [], _ => by simp [V.bulk.go]
  | b :: r, h => by
    have h1 := h b (by simp)
    have h2 := bulk_map_le r (fun x hx => h x (by simp [hx]))
    simp only [List.map_cons, V.bulk.go, List.sum_cons]
    omega
set_option maxRecDepth 100000 in
theorem keys_map_le : ∀ (bs : List (List Int)), ((bs.map strOfNums).map (fun x : ByteArray => 1 + x.size)).sum ≤ (bs.map (fun b => b.length + 2)).sum
  | [] => by simp
  | b :: r => by
    have h2 := keys_map_le r
    simp only [List.map_cons, List.sum_cons, strOfNums_size] at h2 ⊢
    omega
set_option maxRecDepth 100000 in
theorem bulk_mapV (q : List ByteArray) (l : List V) : (mapV q l).bulk ≤ 1 + V.bulk.go l + (q.map (fun x => 1 + x.size)).sum := by
  unfold mapV
  split
  · rename_i h
    have h1 := bulkL_perm (pick_perm q l h.1 h.2)
    have h2 := ((sortK_perm q).map (fun x : ByteArray => 1 + x.size)).sum_nat
    show V.bulk (.mk 7 false 0 0 ByteArray.empty _ _) ≤ _
    simp only [V.bulk]
    rw [h1, h2]
    simp
  · show V.bulk (.mk 0 false 0 0 ByteArray.empty [] []) ≤ _
    simp [V.bulk, V.bulk.go]
    omega
set_option maxRecDepth 100000 in
theorem bulk_leaf (k : Int) (b : Bool) (n m : Int) : (V.mk k b n m ByteArray.empty [] []).bulk = 1 := by simp [V.bulk, V.bulk.go]
set_option maxRecDepth 100000 in
theorem valOf_bulk {g : List Int → V} {fs : List Fld} (h : ∀ t, ∀ b ∈ manyB t fs, (g b).bulk ≤ b.length + 1) : (valOf g fs).bulk ≤ wide fs + 1 := by
  have h5 := bytB_wide 4 fs
  have h6 := many_wide 5 fs
  have h7 := many_wide2 6 7 (by decide) fs
  unfold valOf
  split
  · rw [bulk_leaf]; omega
  split
  · rw [bulk_leaf]; omega
  split
  · rw [bulk_leaf]; omega
  split
  · split
    · rw [bulk_leaf]; omega
    · show V.bulk (.mk 0 false 0 0 ByteArray.empty [] []) ≤ _
      rw [bulk_leaf]; omega
  split
  · simp only [V.bulk, V.bulk.go, strOfNums_size]
    simp
    omega
  split
  · have := bulk_map_le (manyB 5 fs) (h 5)
    show V.bulk (.mk 6 false 0 0 ByteArray.empty _ []) ≤ _
    simp only [V.bulk]
    simp
    omega
  split
  · have h1 := bulk_map_le (manyB 7 fs) (h 7)
    have h2 := bulk_mapV ((manyB 6 fs).map strOfNums) ((manyB 7 fs).map g)
    have h3 := keys_map_le (manyB 6 fs)
    omega
  · show V.bulk (.mk 0 false 0 0 ByteArray.empty [] []) ≤ _
    rw [bulk_leaf]; omega
set_option maxRecDepth 100000 in
theorem clL_mk {l : List V} (h : ∀ x ∈ l, x.cl) : V.cl.go l := by
  induction l with
  | nil => trivial
  | cons x r ih => exact ⟨h x (by simp), ih (fun y hy => h y (by simp [hy]))⟩
set_option maxRecDepth 100000 in
theorem cl_leaf_null : V.null.cl := by
  show V.cl (.mk 0 false 0 0 ByteArray.empty [] [])
  simp [V.cl, V.cl.go]
set_option maxRecDepth 100000 in
theorem nok_leaf {k : Int} {b : Bool} {n m : Int} {s : ByteArray} {q : List ByteArray} (hn : I64 n) (hm : I64 m) : (V.mk k b n m s [] q).nok := by
  simp only [V.nok, V.nok.go]; exact ⟨⟨hn, hm⟩, trivial⟩
set_option maxRecDepth 100000 in
theorem pk_i64_0 : I64 0 := by unfold I64; omega
set_option maxRecDepth 100000 in
theorem mapV_good {q : List ByteArray} {l : List V} (h : ∀ x ∈ l, x.cl ∧ x.nok) : (mapV q l).cl ∧ (mapV q l).nok := by
  unfold mapV
  split
  · rename_i hq
    have hp := pick_perm q l hq.1 hq.2
    have hm : ∀ x ∈ pick q l, x ∈ l := fun x hx => hp.mem_iff.1 hx
    have hl : (sortK q).length = (pick q l).length := by rw [(sortK_perm q).length_eq, hp.length_eq]; exact hq.1
    refine ⟨?_, ?_⟩
    · show V.cl (.mk 7 false 0 0 ByteArray.empty _ _)
      simp only [V.cl]
      exact ⟨⟨by decide, by decide⟩, by simp, by simp, by simp, by simp, by simp, by simp, fun _ => ⟨hl, sortK_rising q hq.2⟩, by simp, clL_mk (fun x hx => (h x (hm x hx)).1)⟩
    · show V.nok (.mk 7 false 0 0 ByteArray.empty _ _)
      simp only [V.nok, nok_go]
      exact ⟨⟨pk_i64_0, pk_i64_0⟩, fun x hx => (h x (hm x hx)).2⟩
  · exact ⟨cl_leaf_null, nok_leaf pk_i64_0 pk_i64_0⟩
set_option maxRecDepth 100000 in
theorem valOf_good {g : List Int → V} {fs : List Fld} (hf : ∀ f ∈ fs, f.ok) (h : ∀ t, ∀ b ∈ manyB t fs, (g b).cl ∧ (g b).nok) : (valOf g fs).cl ∧ (valOf g fs).nok := by
  have n2 := numN_ok (p := fitB 2 false) hf
  have n3 := numN_ok (p := fitB 3 false) hf
  have z2 := zagv_bound _ n2.1 n2.2
  have z3 := zagv_bound _ n3.1 n3.2
  have hmem : ∀ t, ∀ x ∈ (manyB t fs).map g, x.cl ∧ x.nok := fun t x hx => by
    obtain ⟨b, hb, rfl⟩ := List.mem_map.1 hx
    exact h t b hb
  unfold valOf
  split
  · exact ⟨by simp [V.cl, V.cl.go], nok_leaf pk_i64_0 pk_i64_0⟩
  split
  · exact ⟨by simp [V.cl, V.cl.go], nok_leaf pk_i64_0 pk_i64_0⟩
  split
  · exact ⟨by simp [V.cl, V.cl.go], nok_leaf z2 pk_i64_0⟩
  split
  · split
    · rename_i hp
      simp [partB] at hp
      exact ⟨by simp [V.cl, V.cl.go]; omega, nok_leaf z2 z3⟩
    · exact ⟨cl_leaf_null, nok_leaf pk_i64_0 pk_i64_0⟩
  split
  · exact ⟨by simp [V.cl, V.cl.go], nok_leaf pk_i64_0 pk_i64_0⟩
  split
  · refine ⟨?_, ?_⟩
    · show V.cl (.mk 6 false 0 0 ByteArray.empty _ [])
      simp only [V.cl]
      exact ⟨⟨by decide, by decide⟩, by simp, by simp, by simp, by simp, by simp, by simp, by simp, by simp, clL_mk (fun x hx => (hmem 5 x hx).1)⟩
    · show V.nok (.mk 6 false 0 0 ByteArray.empty _ [])
      simp only [V.nok, nok_go]
      exact ⟨⟨pk_i64_0, pk_i64_0⟩, fun x hx => (hmem 5 x hx).2⟩
  split
  · exact mapV_good (hmem 7)
  · exact ⟨cl_leaf_null, nok_leaf pk_i64_0 pk_i64_0⟩
set_option maxRecDepth 100000 in
theorem decF_ok : ∀ (f : Nat) (l : List Fld) (k : Int) (zs : List Int), (∀ c ∈ zs, 0 ≤ c ∧ c ≤ 255) → (∀ x ∈ l, x.ok) → ∀ x ∈ (decF f l k zs).1, x.ok
  | 0, l, k, zs, _, hl => by simpa [decF] using hl
  | f + 1, l, k, zs, hz, hl => by
    unfold decF
    by_cases h1 : zs = []
    · rw [if_pos h1]; exact hl
    · rw [if_neg h1]
      by_cases h2 : (rf zs).2.2 ≠ 0
      · rw [if_pos h2]; simp
      · rw [if_neg h2]
        by_cases h3 : nextE l (rf zs).1 ≠ 0
        · rw [if_pos h3]; simp
        · rw [if_neg h3]
          obtain ⟨s, -, -, -, hok⟩ := rf_ok zs hz (by omega)
          refine decF_ok f _ _ _ (fun c hc => hz c (List.mem_of_mem_drop hc)) (fun x hx => ?_)
          rcases List.mem_append.1 hx with hx | hx
          · exact hl x hx
          · simp at hx; subst hx; exact hok
set_option maxRecDepth 100000 in
theorem decM_ok (zs : List Int) (hz : ∀ c ∈ zs, 0 ≤ c ∧ c ≤ 255) : ∀ x ∈ (decM zs).1, x.ok := by
  unfold decM
  split
  · simp
  · exact decF_ok _ _ _ _ hz (by simp)
set_option maxRecDepth 100000 in
theorem decF_byte : ∀ (f : Nat) (l : List Fld) (k : Int) (zs : List Int), (∀ c ∈ zs, 0 ≤ c ∧ c ≤ 255) → (∀ x ∈ l, ∀ c ∈ x.b, 0 ≤ c ∧ c ≤ 255) → ∀ x ∈ (decF f l k zs).1, ∀ c ∈ x.b, 0 ≤ c ∧ c ≤ 255
  | 0, l, k, zs, _, hl => by simpa [decF] using hl
  | f + 1, l, k, zs, hz, hl => by
    unfold decF
    by_cases h1 : zs = []
    · rw [if_pos h1]; exact hl
    · rw [if_neg h1]
      by_cases h2 : (rf zs).2.2 ≠ 0
      · rw [if_pos h2]; simp
      · rw [if_neg h2]
        by_cases h3 : nextE l (rf zs).1 ≠ 0
        · rw [if_pos h3]; simp
        · rw [if_neg h3]
          refine decF_byte f _ _ _ (fun c hc => hz c (List.mem_of_mem_drop hc)) (fun x hx => ?_)
          rcases List.mem_append.1 hx with hx | hx
          · exact hl x hx
          · simp at hx; subst hx
            intro c hc
            unfold rf at hc
            split at hc
            · simp [zeroF] at hc
            split at hc
            · simp [zeroF] at hc
            split at hc
            · simp at hc
            split at hc
            · simp [zeroF] at hc
            · exact hz c (List.mem_of_mem_drop (List.mem_of_mem_take hc))
set_option maxRecDepth 100000 in
theorem decM_byte (zs : List Int) (hz : ∀ c ∈ zs, 0 ≤ c ∧ c ≤ 255) : ∀ x ∈ (decM zs).1, ∀ c ∈ x.b, 0 ≤ c ∧ c ≤ 255 := by
  unfold decM
  split
  · simp
  · exact decF_byte _ _ _ _ hz (by simp)
set_option maxRecDepth 100000 in
theorem many_byte {zs : List Int} (hz : ∀ c ∈ zs, 0 ≤ c ∧ c ≤ 255) {t : Int} {b : List Int} (hb : b ∈ manyB t (decM zs).1) : (∀ c ∈ b, 0 ≤ c ∧ c ≤ 255) ∧ b.length < zs.length ∧ b.length ≤ 4096 := by
  obtain ⟨f, hf, hB, rfl⟩ := many_mem hb
  have h1 := wide_mem hf hB
  have h2 := dec_wide zs hz
  exact ⟨decM_byte zs hz f hf, by omega, by omega⟩
set_option maxRecDepth 100000 in
theorem valF_bulk : ∀ (f : Nat) (zs : List Int), (∀ c ∈ zs, 0 ≤ c ∧ c ≤ 255) → (valF f zs).bulk ≤ zs.length + 1 ∧ (valF f zs).bulk ≤ 4097
  | 0, zs, _ => by
    have e : (valF 0 zs).bulk = 1 := bulk_leaf _ _ _ _
    omega
  | f + 1, zs, hz => by
    have h1 := valOf_bulk (g := valF f) (fs := (decM zs).1) (fun t b hb => (valF_bulk f b (many_byte hz hb).1).1)
    have h2 := dec_wide zs hz
    have e : valF (f + 1) zs = valOf (valF f) (decM zs).1 := rfl
    rw [e]
    omega
set_option maxRecDepth 100000 in
theorem valF_good : ∀ (f : Nat) (zs : List Int), (∀ c ∈ zs, 0 ≤ c ∧ c ≤ 255) → (valF f zs).cl ∧ (valF f zs).nok
  | 0, _, _ => ⟨cl_leaf_null, nok_leaf pk_i64_0 pk_i64_0⟩
  | f + 1, zs, hz => valOf_good (decM_ok zs hz) (fun _ b hb => valF_good f b (many_byte hz hb).1)
end Go.Proofs.YtepohbcpepkboaaGreat

