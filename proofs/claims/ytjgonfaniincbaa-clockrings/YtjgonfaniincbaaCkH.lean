/- find, without, put: what the law does with its own list. Conditions: it lies in memory. -/
import Derived.Test.YtjgonfaniincbaaCkG
import Derived.Deep.CutRange
namespace Go.Proofs.Ytjgonfaniincbaa
open Go.RowKit

set_option maxRecDepth 100000 in
theorem own_empty (W : World) (X : Nat) (h : X ≤ W.heap.size) : ((W.alloc (.cells #[] 36)).drew).ownsRow X 36 2 (.slice (some ⟨W.heap.size, 0, none⟩) 0 0) ([] : List (Int × ByteArray)).length (flatI []) :=
  ⟨rfl, .inr ⟨W.heap.size, 0, #[], rfl, h, heap_alloc_new W (.cells #[] 36), Nat.le_refl _, Nat.zero_le _, rfl, rfl⟩⟩
set_option maxRecDepth 100000 in
theorem str_ne {a b : ByteArray} (h : a ≠ b) : (a.toList == b.toList) = false := by
  rw [ByteArray.toList_eq, ByteArray.toList_eq, beq_eq_false_iff_ne]
  exact fun e => h (name_inj e)
set_option maxRecDepth 100000 in
theorem str_same {a b : ByteArray} (h : a = b) : (a.toList == b.toList) = true := by subst h; simp
set_option maxRecDepth 100000 in
set_option maxHeartbeats 800000 in
theorem find_any {W : World} {v : Value} {l : List (Int × ByteArray)} (h : IIn W v l) (hl : l.length ≤ 1000) (s : ByteArray) : Calls Try.prog 9 #[v, .string s] W fun e w' => e = .returned (.int .i64 (findI l s)) ∧ W = w' := by
  obtain ⟨p, c, rfl, hc, hno, hrow⟩ := h
  have hbef := idx_before l s
  have hat := idx_at l s
  have hF : Hid (findI l s = if hasA l s = true then (idxA s l : Int) else -1) := rfl
  generalize findI l s = F at *
  obtain ⟨K, hK⟩ : ∃ K, K = (if hasA l s = true then idxA s l else l.length) := ⟨_, rfl⟩
  have hKl : K ≤ l.length := by
    rw [hK]
    split
    · rename_i hh; obtain ⟨h1, -⟩ := hat hh; omega
    · exact Nat.le_refl _
  have hKa : Hid (∀ hk : K < l.length, l[K].2 = s ∧ F = K) := fun hk => by
    by_cases hh : hasA l s = true
    · rw [if_pos hh] at hK
      obtain ⟨h1, h2⟩ := hat hh
      subst hK
      exact ⟨h2, by rw [hF.out, if_pos hh]⟩
    · rw [if_neg hh] at hK; omega
  have hKb : Hid (K = l.length → F = -1) := fun e => by
    by_cases hh : hasA l s = true
    · rw [if_pos hh] at hK
      obtain ⟨h1, -⟩ := hat hh
      omega
    · rw [hF.out, if_neg hh]
  have hB : Hid (∀ (j : Nat) (hj : j < l.length), j < K → l[j].2 ≠ s) := fun j hj hjk => hbef j hj (by rw [← hK]; exact hjk)
  clear hbef hat hF hK
  go_enter Try.func9, Try.ntmps9
  go_wp2
  go_loop [5] (fun si => ∃ j : Nat, j ≤ K ∧ si = .int .i64 (j : Int)) (fun si => K - (intOf si).toNat)
  case atStart => exact ⟨0, by omega, rfl⟩
  case round =>
    obtain ⟨j, hj, rfl⟩ := hrel
    by_cases hjl : j < l.length
    · obtain ⟨b, off, rfl, hcc⟩ := hrow (by intro e; subst e; simp at hjl)
      obtain ⟨c0, c1⟩ := hcc j hjl
      by_cases hjk : j < K
      · have hne := str_ne (hB.out j hjl hjk)
        clear hcc hrow
        generalize l[j] = x at *
        go_wp2
        go_round
        case rel => exact ⟨j + 1, by omega, by go_num⟩
        case measure => simp [intOf]; omega
      · have hjK : j = K := by omega
        subst hjK
        obtain ⟨h1, h2⟩ := hKa.out hjl
        have heq := str_same h1
        have hfin : Hid (F = (j : Int)) := h2
        clear hcc hrow h1 h2
        generalize l[j] = x at *
        go_wp2
        go_ret
        exact ⟨ret_int hfin.out.symm, rfl⟩
    · have hfin : Hid (F = -1) := hKb.out (by omega)
      clear hrow
      go_wp2
      go_ret
      exact ⟨ret_int hfin.out.symm, rfl⟩
set_option maxRecDepth 100000 in
set_option maxHeartbeats 1600000 in
theorem without_any {W : World} {v : Value} {l : List (Int × ByteArray)} (h : IIn W v l) (hl : l.length ≤ 1000) (i : Nat) (hi : i < l.length) : Calls Try.prog 11 #[v, .int .i64 (i : Int)] W fun e w' => ∃ v', e = .returned v' ∧ IIn w' v' (l.take i ++ l.drop (i + 1)) ∧ Below W.heap.size W w' := by
  obtain ⟨p, c, rfl, hc, hno, hrow⟩ := h
  have hcut1 : Hid (∀ wz, (Instr.slice 26 (.slice p l.length c) none (some (.int .i64 (i : Int))) none).run Try.prog wz = .ok (.slice (cutI p c 0) i c) wz) := fun wz => run_cutI_h p l.length c i _ rfl (by omega) wz
  have hcut2 : Hid (∀ wz, (Instr.slice 26 (.slice p l.length c) (some (.int .i64 ((i : Int) + 1))) none none).run Try.prog wz = .ok (.slice (cutI p c (i + 1)) (l.length - (i + 1)) (c - (i + 1))) wz) := fun wz => run_cutI_l p l.length c (i + 1) _ (by omega) (by omega) wz
  have hr1 := cutI_row 0 i hc W hrow
  have hr2 := cutI_row (i + 1) (l.length - (i + 1)) hc W hrow
  rw [List.drop_zero] at hr1
  rw [List.take_of_length_le (by simp)] at hr2
  have hl1 : (l.take i).length = i := by simp; omega
  have hl2 : (l.drop (i + 1)).length = l.length - (i + 1) := by simp
  have hno1 : cutI p c 0 = none → i = 0 ∧ c = 0 := fun e => by have := cutI_nil 0 hno e; omega
  have hno2 : cutI p c (i + 1) = none → l.length - (i + 1) = 0 ∧ c - (i + 1) = 0 := fun e => by have := cutI_nil (i + 1) hno e; omega
  have hw1 : IntKind.i64.wrap ((i : Int) + 1) = (i : Int) + 1 := IntWalk.i64_in _ ⟨by omega, by omega⟩
  go_enter Try.func11, Try.ntmps11
  go_upto_region 1 with fail
  refine wp_region_held_drew (S := fun w' => Below W.heap.size W w') (by kernel_rfl) (Below.drew (Below.refl _ _)) (fun hSS => ?_)
  refine wpAnyH_take (i := 1) (v := ?_) rfl (by kernel_rfl) (by kernel_rfl) (by kernel_rfl) (fun _ _ _ h => h) (Or.inl ⟨by rfl, ?_⟩) hSS ?_
  rotate_left
  · intro wz hSz
    go_simp
    try with_reducible rfl
  simp only [List.getElem_toArray, List.getElem_cons_zero, List.getElem_cons_succ, Act.put, List.setIfInBounds_toArray, List.set_cons_zero, List.set_cons_succ]
  refine wpAnyH_take (i := 2) (v := ?_) rfl (by kernel_rfl) (by kernel_rfl) (by kernel_rfl) (fun _ _ _ h => h) (Or.inl ⟨by rfl, ?_⟩) hSS ?_
  rotate_left
  · intro wz hSz
    go_simp
    try with_reducible rfl
  simp only [List.getElem_toArray, List.getElem_cons_zero, List.getElem_cons_succ, Act.put, List.setIfInBounds_toArray, List.set_cons_zero, List.set_cons_succ]
  refine wpAnyH_take (i := 3) (v := .slice (cutI p c 0) i c) rfl (by kernel_rfl) (by kernel_rfl) (by kernel_rfl) (fun _ _ _ h => h) (Or.inl ⟨by rfl, ?_⟩) hSS ?_
  · intro wz hSz
    have hcz := hcut1.out wz
    go_simp
  simp only [List.getElem_toArray, List.getElem_cons_zero, List.getElem_cons_succ, Act.put, List.setIfInBounds_toArray, List.set_cons_zero, List.set_cons_succ]
  refine wpAnyH_take (i := 5) (v := ?_) rfl (by kernel_rfl) (by kernel_rfl) (by kernel_rfl) (fun _ _ _ h => h) (Or.inl ⟨by rfl, ?_⟩) hSS ?_
  rotate_left
  · intro wz hSz
    go_simp
    try with_reducible rfl
  simp only [List.getElem_toArray, List.getElem_cons_zero, List.getElem_cons_succ, Act.put, List.setIfInBounds_toArray, List.set_cons_zero, List.set_cons_succ]
  refine wpAnyH_take (i := 6) (v := ?_) rfl (by kernel_rfl) (by kernel_rfl) (by kernel_rfl) (fun _ _ _ h => h) (Or.inl ⟨by rfl, ?_⟩) hSS ?_
  rotate_left
  · intro wz hSz
    go_simp
    try with_reducible rfl
  simp only [List.getElem_toArray, List.getElem_cons_zero, List.getElem_cons_succ, Act.put, List.setIfInBounds_toArray, List.set_cons_zero, List.set_cons_succ]
  refine wpAnyH_take (i := 7) (v := ?_) rfl (by kernel_rfl) (by kernel_rfl) (by kernel_rfl) (fun _ _ _ h => h) (Or.inl ⟨by rfl, ?_⟩) hSS ?_
  rotate_left
  · intro wz hSz
    go_simp
    try with_reducible rfl
  simp only [List.getElem_toArray, List.getElem_cons_zero, List.getElem_cons_succ, Act.put, List.setIfInBounds_toArray, List.set_cons_zero, List.set_cons_succ]
  refine wpAnyH_take (i := 8) (v := .slice (cutI p c (i + 1)) (l.length - (i + 1)) (c - (i + 1))) rfl (by kernel_rfl) (by kernel_rfl) (by kernel_rfl) (fun _ _ _ h => h) (Or.inl ⟨by rfl, ?_⟩) hSS ?_
  · intro wz hSz
    have hcz := hcut2.out wz
    go_simp
  simp only [List.getElem_toArray, List.getElem_cons_zero, List.getElem_cons_succ, Act.put, List.setIfInBounds_toArray, List.set_cons_zero, List.set_cons_succ]
  refine wpAnyH_ready (rs := [0]) (by kernel_rfl) (by simp) (AllReadyH.cons rfl (fun K hK => ?_) AllReadyH.nil)
  go_simp
  refine hK.out _ _ ((Below.refl W.heap.size W).alloc (Nat.le_refl _) _).drew (fun hSS => ?_)
  clear hK
  have hown0 := own_empty W W.heap.size (Nat.le_refl _)
  have hX0 : W.heap.size ≤ (W.alloc (.cells #[] 36)).drew.heap.size := hSS.size
  refine wpAnyH_ready (rs := [4]) (by kernel_rfl) (by simp) (AllReadyH.cons rfl (fun K hK => ?_) AllReadyH.nil)
  obtain ⟨v5, w5, hr5, hown5, hg5⟩ := append_items hown0 (hr1.below hSS) hl1 hno1 hX0 (by simp; omega) 26
  refine step_append_any rfl (.tmp 5) (.tmp 8) 26 rfl _ _ rfl rfl hr5 ?_
  refine hK.out _ _ (hSS.grown hg5 hX0 (fun k hk => (hown0.lt k hk).1)) (fun hSS => ?_)
  clear hK
  have hX5 : W.heap.size ≤ w5.heap.size := hSS.size
  refine wpAnyH_ready (rs := [9]) (by kernel_rfl) (by simp) (AllReadyH.cons rfl (fun K hK => ?_) AllReadyH.nil)
  obtain ⟨v6, w6, hr6, hown6, hg6⟩ := append_items hown5 (hr2.below hSS) hl2 hno2 hX5 (by simp; omega) 26
  refine step_append_any rfl (.tmp 9) (.tmp 13) 26 rfl _ _ rfl rfl hr6 ?_
  refine hK.out _ _ (hSS.grown hg6 hX5 (fun k hk => (hown5.lt k hk).1)) (fun hSS => ?_)
  clear hK
  refine wpAnyH_take (i := 10) (v := ?_) rfl (by kernel_rfl) (by kernel_rfl) (by kernel_rfl) (fun _ _ _ h => h) (Or.inl ⟨by rfl, ?_⟩) hSS ?_
  rotate_left
  · intro wz hSz
    go_simp
    try with_reducible rfl
  simp only [List.getElem_toArray, List.getElem_cons_zero, List.getElem_cons_succ, Act.put, List.setIfInBounds_toArray, List.set_cons_zero, List.set_cons_succ]
  refine wpAnyH_done (by kernel_rfl) ?_ _
  go_wp2_with fail
  go_ret
  exact ⟨_, rfl, own_iin hown6, hSS⟩
end Go.Proofs.Ytjgonfaniincbaa
