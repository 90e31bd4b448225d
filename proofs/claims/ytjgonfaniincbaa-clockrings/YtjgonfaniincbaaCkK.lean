/- Set and Tick once more: all blocks but the alarms' own two stay as they were. Conditions: as theirs. -/
import Derived.Test.YtjgonfaniincbaaCkN
namespace Go.Proofs.Ytjgonfaniincbaa
open Go.RowKit Go.Maps Go.ChangeMaps Go.WideShapes Go.WideMaps

/-- All blocks that were there, but two, stay as they were. -/
def Keep (W w' : World) (B Mb : Nat) : Prop := W.heap.size ≤ w'.heap.size ∧ ∀ k, k < W.heap.size → k ≠ B → k ≠ Mb → w'.heap[k]? = W.heap[k]?
set_option maxRecDepth 100000 in
theorem Keep.refl (W : World) (B Mb : Nat) : Keep W W B Mb := ⟨Nat.le_refl _, fun _ _ _ _ => rfl⟩
set_option maxRecDepth 100000 in
theorem Keep.trans {W w1 w2 : World} {B Mb : Nat} (h1 : Keep W w1 B Mb) (h2 : Keep w1 w2 B Mb) : Keep W w2 B Mb :=
  ⟨Nat.le_trans h1.1 h2.1, fun k hk hB hM => (h2.2 k (Nat.lt_of_lt_of_le hk h1.1) hB hM).trans (h1.2 k hk hB hM)⟩
set_option maxRecDepth 100000 in
theorem Keep.drew {W w1 : World} {B Mb : Nat} (h : Keep W w1 B Mb) : Keep W w1.drew B Mb := h
set_option maxRecDepth 100000 in
theorem Keep.below {W w1 w2 : World} {B Mb : Nat} (h : Keep W w1 B Mb) (hb : Below w1.heap.size w1 w2) : Keep W w2 B Mb := h.trans ⟨hb.size, fun k hk _ _ => hb.block k hk⟩
set_option maxRecDepth 100000 in
theorem Keep.alloc {W w1 : World} {B Mb : Nat} (h : Keep W w1 B Mb) (o : Obj) : Keep W (w1.alloc o) B Mb := h.below ((Below.refl _ _).alloc (Nat.le_refl _) o)
set_option maxRecDepth 100000 in
theorem Keep.setB {W w1 : World} {B Mb : Nat} (h : Keep W w1 B Mb) (j : Nat) (u : Value) : Keep W (w1.setCell ⟨B, j, none⟩ u) B Mb :=
  h.trans ⟨by simp, fun k _ hB _ => Below.heap_setCell _ _ _ _ hB⟩
set_option maxRecDepth 100000 in
theorem Keep.turned {W w1 w2 : World} {B Mb : Nat} (h : Keep W w1 B Mb) (ht : w1.mapTurned w2 Mb) : Keep W w2 B Mb :=
  h.trans ⟨ht.grown.size, fun _ hk _ hM => turned_block ht hM hk⟩
set_option maxRecDepth 100000 in
theorem AlIn.store' {W : World} {B Mb : Nat} {now : Int} {l : List (Int × ByteArray)} (h : AlIn W B Mb now l) (hl : l.length ≤ 32) (s : ByteArray) (hs : s.size ≤ maxLen) (n : Int) (hn : 0 ≤ n ∧ n ≤ 1152921504606846976) (base : Nat) (hM : base ≤ Mb) :
    ∃ w', (Instr.mapUpdate 51 (.map (some Mb)) (.string s) (.int .i64 n)).run Try.prog W = .ok () w' ∧ AlIn w' B Mb now (insA (n, s) (delA s l)) ∧ Below base W w' ∧ W.mapTurned w' Mb := by
  have hlt := h.2.lt
  have hA := h
  obtain ⟨-, D, hown, hv⟩ := h
  obtain ⟨w', hrun, hown', ht⟩ := hown.store keyed Try.underlying51 (by unfold maxLen; omega) (key_of hs) (plainElem_int Try.underlying3 (q := .i64) (a := n) (WalkArith.wf_i64 (by omega)))
  exact ⟨w', hrun, hA.turned ht (MapIn.mk hown' (hv.put n s)), turned_below ht base hM (by omega), ht⟩
set_option maxRecDepth 100000 in
set_option maxHeartbeats 1600000 in
theorem set_keep {W : World} {B Mb : Nat} {now : Int} {l : List (Int × ByteArray)} (h : AlIn W B Mb now l) (hok : OkA l) (hnow : 0 ≤ now ∧ now ≤ 1152921504606846976) (hl : l.length ≤ 32) (s : ByteArray) (hs : s.size ≤ maxLen) (n : Int) (hn : I64 n) (base : Nat) (hM : base ≤ Mb) :
    Calls Try.prog 10 #[.pointer (some ⟨B, 0, none⟩), .string s, .int .i64 n] W fun e w' => e = .returned (.int .i64 (setE l s n)) ∧ AlIn w' B Mb now (setA now l s n) ∧ Below base W w' ∧ Keep W w' B Mb := by
  obtain ⟨z0, z1, zf⟩ := h.cells
  have hlt := h.1.lt
  have hml := h.2.lt
  obtain ⟨hn0, hn1⟩ := hn
  by_cases hneg : n < 0
  · have hE : Hid (setE l s n = 1) := if_pos hneg
    have hS : Hid (setA now l s n = l) := if_pos (Or.inl hneg)
    go_enter Try.func10, Try.ntmps10
    go_wp2
    go_ret
    exact ⟨ret_int hE.out.symm, by rw [hS.out]; exact h, Below.refl _ _, Keep.refl _ _ _⟩
  · obtain ⟨c, hrun, -, -⟩ := h.look hok s hs
    have hsz := h.size
    by_cases hfull : hasA l s = false ∧ 32 ≤ l.length
    · obtain ⟨hf, h32⟩ := hfull
      have hE : Hid (setE l s n = 10) := (if_neg hneg).trans (if_pos ⟨hf, h32⟩)
      have hS : Hid (setA now l s n = l) := if_pos (Or.inr ⟨hf, h32⟩)
      rw [hf] at hrun
      clear hf
      go_enter Try.func10, Try.ntmps10
      go_wp2
      go_ret
      exact ⟨ret_int hE.out.symm, by rw [hS.out]; exact h, Below.refl _ _, Keep.refl _ _ _⟩
    · have hE : Hid (setE l s n = 0) := (if_neg hneg).trans (if_neg hfull)
      have hS : Hid (setA now l s n = insA (clp (now + clp n), s) (delA s l)) := if_neg (fun x => x.elim hneg hfull)
      have CA : Hid (∀ w, Calls Try.prog 21 #[.int .i64 now, .int .i64 n] w fun e w' => e = .returned (.int .i64 (clp (now + clp n))) ∧ w = w') := fun w => by have := add_any now n w; rwa [show clp now = now by simp only [clp, brought]; omega] at this
      cases hh : hasA l s
      · have h32 : ¬ 32 ≤ l.length := fun x => hfull ⟨hh, x⟩
        have h32' : ((l.length : Nat) : Int) < 32 := by omega
        rw [hh] at hrun
        clear hfull hh h32
        go_enter Try.func10, Try.ntmps10
        go_upto_region 8 with fail
        refine wp_region_held_drew (S := fun w' => BoxA w' B Mb now ∧ Below base W w' ∧ Keep W w' B Mb) (by kernel_rfl) ⟨h.drew.1, Below.drew (Below.refl _ _), Keep.drew (Keep.refl _ _ _)⟩ (fun hSS => ?_)
        refine wpAnyH_take (i := 0) (v := ?_) rfl (by kernel_rfl) (by kernel_rfl) (by kernel_rfl) (fun _ _ _ h => h) (Or.inl ⟨by rfl, ?_⟩) hSS ?_
        rotate_left
        · intro wz hSz
          go_simp
          try with_reducible rfl
        simp only [List.getElem_toArray, List.getElem_cons_zero, Act.put, List.setIfInBounds_toArray, List.set_cons_zero, List.set_cons_succ]
        refine wpAnyH_take (i := 1) (v := ?_) rfl (by kernel_rfl) (by kernel_rfl) (by kernel_rfl) (fun _ _ _ h => h) (Or.inl ⟨by rfl, ?_⟩) hSS ?_
        rotate_left
        · intro wz hSz
          obtain ⟨z0, z1, zf⟩ := hSz.1.cells
          go_simp
          try with_reducible rfl
        simp only [List.getElem_toArray, List.getElem_cons_zero, List.getElem_cons_succ, Act.put, List.setIfInBounds_toArray, List.set_cons_zero, List.set_cons_succ]
        refine wpAnyH_take (i := 2) (v := ?_) rfl (by kernel_rfl) (by kernel_rfl) (by kernel_rfl) (fun _ _ _ h => h) (Or.inl ⟨by rfl, ?_⟩) hSS ?_
        rotate_left
        · intro wz hSz
          go_simp
          try with_reducible rfl
        simp only [List.getElem_toArray, List.getElem_cons_zero, List.getElem_cons_succ, Act.put, List.setIfInBounds_toArray, List.set_cons_zero, List.set_cons_succ]
        refine wpAnyH_take (i := 3) (v := ?_) rfl (by kernel_rfl) (by kernel_rfl) (by kernel_rfl) (fun _ _ _ h => h) (Or.inl ⟨by rfl, ?_⟩) hSS ?_
        rotate_left
        · intro wz hSz
          obtain ⟨z0, z1, zf⟩ := hSz.1.cells
          go_simp
          try with_reducible rfl
        simp only [List.getElem_toArray, List.getElem_cons_zero, List.getElem_cons_succ, Act.put, List.setIfInBounds_toArray, List.set_cons_zero, List.set_cons_succ]
        refine wpAnyH_take (i := 4) (v := ?_) rfl (by kernel_rfl) (by kernel_rfl) (by kernel_rfl) (fun _ _ _ h => h) (Or.inl ⟨by rfl, ?_⟩) hSS ?_
        rotate_left
        · intro wz hSz
          go_simp
          try with_reducible rfl
        simp only [List.getElem_toArray, List.getElem_cons_zero, List.getElem_cons_succ, Act.put, List.setIfInBounds_toArray, List.set_cons_zero, List.set_cons_succ]
        refine wpAnyH_take (i := 5) (v := ?_) rfl (by kernel_rfl) (by kernel_rfl) (by kernel_rfl) (fun _ _ _ h => h) (Or.inl ⟨by rfl, ?_⟩) hSS ?_
        rotate_left
        · intro wz hSz
          go_simp
          try with_reducible rfl
        simp only [List.getElem_toArray, List.getElem_cons_zero, List.getElem_cons_succ, Act.put, List.setIfInBounds_toArray, List.set_cons_zero, List.set_cons_succ]
        refine wpAnyH_take (i := 6) (v := ?_) rfl (by kernel_rfl) (by kernel_rfl) (by kernel_rfl) (fun _ _ _ h => h) (Or.inl ⟨by rfl, ?_⟩) hSS ?_
        rotate_left
        · intro wz hSz
          obtain ⟨z0, z1, zf⟩ := hSz.1.cells
          go_simp
          try with_reducible rfl
        simp only [List.getElem_toArray, List.getElem_cons_zero, List.getElem_cons_succ, Act.put, List.setIfInBounds_toArray, List.set_cons_zero, List.set_cons_succ]
        refine wpAnyH_take (i := 7) (v := ?_) rfl (by kernel_rfl) (by kernel_rfl) (by kernel_rfl) (fun _ _ _ h => h) (Or.inl ⟨by rfl, ?_⟩) hSS ?_
        rotate_left
        · intro wz hSz
          go_simp
          try with_reducible rfl
        simp only [List.getElem_toArray, List.getElem_cons_zero, List.getElem_cons_succ, Act.put, List.setIfInBounds_toArray, List.set_cons_zero, List.set_cons_succ]
        refine wpAnyH_take (i := 8) (v := ?_) rfl (by kernel_rfl) (by kernel_rfl) (by kernel_rfl) (fun _ _ _ h => h) (Or.inl ⟨by rfl, ?_⟩) hSS ?_
        rotate_left
        · intro wz hSz
          obtain ⟨z0, z1, zf⟩ := hSz.1.cells
          go_simp
          try with_reducible rfl
        simp only [List.getElem_toArray, List.getElem_cons_zero, List.getElem_cons_succ, Act.put, List.setIfInBounds_toArray, List.set_cons_zero, List.set_cons_succ]
        refine wpAnyH_take (i := 9) (v := ?_) rfl (by kernel_rfl) (by kernel_rfl) (by kernel_rfl) (fun _ _ _ h => h) (Or.inl ⟨by rfl, ?_⟩) hSS ?_
        rotate_left
        · intro wz hSz
          go_simp
          try with_reducible rfl
        simp only [List.getElem_toArray, List.getElem_cons_zero, List.getElem_cons_succ, Act.put, List.setIfInBounds_toArray, List.set_cons_zero, List.set_cons_succ]
        refine wpAnyH_ready (rs := [10]) (by kernel_rfl) (by simp) (AllReadyH.cons rfl (fun K hK => ?_) AllReadyH.nil)
        go_simp
        go_at_call 21
        refine (CA.out _).mono ?_
        rintro e wk ⟨rfl, rfl⟩
        go_simp
        refine hK.out _ _ hSS (fun hSS => ?_)
        clear hK
        refine wpAnyH_ready (rs := [11]) (by kernel_rfl) (by simp) (AllReadyH.cons rfl (fun K hK => ?_) AllReadyH.nil)
        obtain ⟨w2, hrun2, hA2, hb2, ht2⟩ := h.drew.store' hl s hs (clp (now + clp n)) (clp_range _) base hM
        refine step_update rfl (.tmp 35) (.tmp 36) (.tmp 42) _ rfl rfl hrun2 ?_
        refine hK.out _ _ ⟨hA2.1, (Below.drew (Below.refl base W)).trans hb2, (Keep.drew (Keep.refl W B Mb)).turned ht2⟩ (fun hSS2 => ?_)
        clear hK
        refine wpAnyH_done (by kernel_rfl) ?_ _
        go_wp2_with fail
        go_ret
        exact ⟨ret_int hE.out.symm, by rw [hS.out]; exact hA2, hSS2.2.1, hSS2.2.2⟩
      · rw [hh] at hrun
        clear hfull hh
        go_enter Try.func10, Try.ntmps10
        go_upto_region 8 with fail
        refine wp_region_held_drew (S := fun w' => BoxA w' B Mb now ∧ Below base W w' ∧ Keep W w' B Mb) (by kernel_rfl) ⟨h.drew.1, Below.drew (Below.refl _ _), Keep.drew (Keep.refl _ _ _)⟩ (fun hSS => ?_)
        refine wpAnyH_take (i := 0) (v := ?_) rfl (by kernel_rfl) (by kernel_rfl) (by kernel_rfl) (fun _ _ _ h => h) (Or.inl ⟨by rfl, ?_⟩) hSS ?_
        rotate_left
        · intro wz hSz
          go_simp
          try with_reducible rfl
        simp only [List.getElem_toArray, List.getElem_cons_zero, Act.put, List.setIfInBounds_toArray, List.set_cons_zero, List.set_cons_succ]
        refine wpAnyH_take (i := 1) (v := ?_) rfl (by kernel_rfl) (by kernel_rfl) (by kernel_rfl) (fun _ _ _ h => h) (Or.inl ⟨by rfl, ?_⟩) hSS ?_
        rotate_left
        · intro wz hSz
          obtain ⟨z0, z1, zf⟩ := hSz.1.cells
          go_simp
          try with_reducible rfl
        simp only [List.getElem_toArray, List.getElem_cons_zero, List.getElem_cons_succ, Act.put, List.setIfInBounds_toArray, List.set_cons_zero, List.set_cons_succ]
        refine wpAnyH_take (i := 2) (v := ?_) rfl (by kernel_rfl) (by kernel_rfl) (by kernel_rfl) (fun _ _ _ h => h) (Or.inl ⟨by rfl, ?_⟩) hSS ?_
        rotate_left
        · intro wz hSz
          go_simp
          try with_reducible rfl
        simp only [List.getElem_toArray, List.getElem_cons_zero, List.getElem_cons_succ, Act.put, List.setIfInBounds_toArray, List.set_cons_zero, List.set_cons_succ]
        refine wpAnyH_take (i := 3) (v := ?_) rfl (by kernel_rfl) (by kernel_rfl) (by kernel_rfl) (fun _ _ _ h => h) (Or.inl ⟨by rfl, ?_⟩) hSS ?_
        rotate_left
        · intro wz hSz
          obtain ⟨z0, z1, zf⟩ := hSz.1.cells
          go_simp
          try with_reducible rfl
        simp only [List.getElem_toArray, List.getElem_cons_zero, List.getElem_cons_succ, Act.put, List.setIfInBounds_toArray, List.set_cons_zero, List.set_cons_succ]
        refine wpAnyH_take (i := 4) (v := ?_) rfl (by kernel_rfl) (by kernel_rfl) (by kernel_rfl) (fun _ _ _ h => h) (Or.inl ⟨by rfl, ?_⟩) hSS ?_
        rotate_left
        · intro wz hSz
          go_simp
          try with_reducible rfl
        simp only [List.getElem_toArray, List.getElem_cons_zero, List.getElem_cons_succ, Act.put, List.setIfInBounds_toArray, List.set_cons_zero, List.set_cons_succ]
        refine wpAnyH_take (i := 5) (v := ?_) rfl (by kernel_rfl) (by kernel_rfl) (by kernel_rfl) (fun _ _ _ h => h) (Or.inl ⟨by rfl, ?_⟩) hSS ?_
        rotate_left
        · intro wz hSz
          go_simp
          try with_reducible rfl
        simp only [List.getElem_toArray, List.getElem_cons_zero, List.getElem_cons_succ, Act.put, List.setIfInBounds_toArray, List.set_cons_zero, List.set_cons_succ]
        refine wpAnyH_take (i := 6) (v := ?_) rfl (by kernel_rfl) (by kernel_rfl) (by kernel_rfl) (fun _ _ _ h => h) (Or.inl ⟨by rfl, ?_⟩) hSS ?_
        rotate_left
        · intro wz hSz
          obtain ⟨z0, z1, zf⟩ := hSz.1.cells
          go_simp
          try with_reducible rfl
        simp only [List.getElem_toArray, List.getElem_cons_zero, List.getElem_cons_succ, Act.put, List.setIfInBounds_toArray, List.set_cons_zero, List.set_cons_succ]
        refine wpAnyH_take (i := 7) (v := ?_) rfl (by kernel_rfl) (by kernel_rfl) (by kernel_rfl) (fun _ _ _ h => h) (Or.inl ⟨by rfl, ?_⟩) hSS ?_
        rotate_left
        · intro wz hSz
          go_simp
          try with_reducible rfl
        simp only [List.getElem_toArray, List.getElem_cons_zero, List.getElem_cons_succ, Act.put, List.setIfInBounds_toArray, List.set_cons_zero, List.set_cons_succ]
        refine wpAnyH_take (i := 8) (v := ?_) rfl (by kernel_rfl) (by kernel_rfl) (by kernel_rfl) (fun _ _ _ h => h) (Or.inl ⟨by rfl, ?_⟩) hSS ?_
        rotate_left
        · intro wz hSz
          obtain ⟨z0, z1, zf⟩ := hSz.1.cells
          go_simp
          try with_reducible rfl
        simp only [List.getElem_toArray, List.getElem_cons_zero, List.getElem_cons_succ, Act.put, List.setIfInBounds_toArray, List.set_cons_zero, List.set_cons_succ]
        refine wpAnyH_take (i := 9) (v := ?_) rfl (by kernel_rfl) (by kernel_rfl) (by kernel_rfl) (fun _ _ _ h => h) (Or.inl ⟨by rfl, ?_⟩) hSS ?_
        rotate_left
        · intro wz hSz
          go_simp
          try with_reducible rfl
        simp only [List.getElem_toArray, List.getElem_cons_zero, List.getElem_cons_succ, Act.put, List.setIfInBounds_toArray, List.set_cons_zero, List.set_cons_succ]
        refine wpAnyH_ready (rs := [10]) (by kernel_rfl) (by simp) (AllReadyH.cons rfl (fun K hK => ?_) AllReadyH.nil)
        go_simp
        go_at_call 21
        refine (CA.out _).mono ?_
        rintro e wk ⟨rfl, rfl⟩
        go_simp
        refine hK.out _ _ hSS (fun hSS => ?_)
        clear hK
        refine wpAnyH_ready (rs := [11]) (by kernel_rfl) (by simp) (AllReadyH.cons rfl (fun K hK => ?_) AllReadyH.nil)
        obtain ⟨w2, hrun2, hA2, hb2, ht2⟩ := h.drew.store' hl s hs (clp (now + clp n)) (clp_range _) base hM
        refine step_update rfl (.tmp 35) (.tmp 36) (.tmp 42) _ rfl rfl hrun2 ?_
        refine hK.out _ _ ⟨hA2.1, (Below.drew (Below.refl base W)).trans hb2, (Keep.drew (Keep.refl W B Mb)).turned ht2⟩ (fun hSS2 => ?_)
        clear hK
        refine wpAnyH_done (by kernel_rfl) ?_ _
        go_wp2_with fail
        go_ret
        exact ⟨ret_int hE.out.symm, by rw [hS.out]; exact hA2, hSS2.2.1, hSS2.2.2⟩
set_option maxRecDepth 100000 in
set_option maxHeartbeats 3200000 in
theorem tick_keep {W : World} {B Mb : Nat} {now : Int} {l : List (Int × ByteArray)} (h : AlIn W B Mb now l) (hok : OkA l) (hl : l.length ≤ 32) (hnow : 0 ≤ now ∧ now ≤ 1152921504606846976) (n : Int) (hn : 1 ≤ n) (base : Nat) (hB : base ≤ B) (hM : base ≤ Mb) :
    Calls Try.prog 15 #[.pointer (some ⟨B, 0, none⟩), .int .i64 n] W fun e w' => ∃ v, e = .returned v ∧ w'.ownsRow W.heap.size 9 1 v (dueA (clp (now + clp n)) l).length ((dueA (clp (now + clp n)) l).map (fun x => Value.string x.2)) ∧
      AlIn w' B Mb (clp (now + clp n)) (l.drop (dueA (clp (now + clp n)) l).length) ∧ Below base W w' ∧ Keep W w' B Mb := by
  obtain ⟨z0, z1, zf⟩ := h.cells
  have hlt := h.1.lt
  have hml := h.2.lt
  have hne := h.apart
  have CA : Hid (∀ w, Calls Try.prog 21 #[.int .i64 now, .int .i64 n] w fun e w' => e = .returned (.int .i64 (clp (now + clp n))) ∧ w = w') := fun w => by have := add_any now n w; rwa [show clp now = now by simp only [clp, brought]; omega] at this
  have hdp : Hid (dueA (clp (now + clp n)) l = l.take (dueA (clp (now + clp n)) l).length) := due_take (tick := clp (now + clp n)) hok.1
  have hdl := due_len (tick := clp (now + clp n)) (l := l)
  have hW1 : AlIn (W.setCell ⟨B, 0, none⟩ (.int .i64 (clp (now + clp n)))) B Mb (clp (now + clp n)) l :=
    ⟨heap_setCell_same _ _ 0 _ _ _ h.1, h.2.block (Below.heap_setCell _ _ _ _ (Ne.symm hne))⟩
  have hbW1 : Below base W (W.setCell ⟨B, 0, none⟩ (.int .i64 (clp (now + clp n)))) := (Below.refl _ _).setCell hB _
  have hkW1 : Keep W (W.setCell ⟨B, 0, none⟩ (.int .i64 (clp (now + clp n)))) B Mb := Keep.setB (Keep.refl _ _ _) _ _
  have hszW1 : Hid ((W.setCell ⟨B, 0, none⟩ (.int .i64 (clp (now + clp n)))).heap.size = W.heap.size) := by show _ = _; simp
  have CB : Hid (∀ W1, AlIn W1 B Mb (clp (now + clp n)) l → Calls Try.prog 22 #[.pointer (some ⟨B, 0, none⟩), .int .i64 (clp (now + clp n))] W1 fun e w' => ∃ v, e = .returned v ∧ ARow w' W1.heap.size v (dueA (clp (now + clp n)) l) ∧ Below W1.heap.size W1 w') := fun W1 h1 => by_any h1 hok hl _
  obtain ⟨i0, hi, hz0, hz1, hz2⟩ := info_parts infoN
  generalize dueA (clp (now + clp n)) l = due at *
  generalize clp (now + clp n) = N at *
  go_enter Try.func15, Try.ntmps15
  go_wp2_with (go_at_call 21; refine (CA.out _).mono ?_; rintro e w' ⟨rfl, rfl⟩)
  refine (CB.out _ hW1).mono ?_
  rintro e w2 ⟨v, rfl, hA, hb2⟩
  have hA2 : AlIn w2 B Mb N l := hW1.below hb2
  have hbw2 : Below base W w2 := hbW1.trans (hb2.mono (by rw [hszW1.out]; omega))
  have hkw2 : Keep W w2 B Mb := hkW1.below hb2
  have hsz2 : W.heap.size ≤ w2.heap.size := by have := hb2.size; rw [hszW1.out] at this; exact this
  rw [hszW1.out] at hA
  clear CA CB hW1 hbW1 hszW1 hb2 z0 z1 zf h hkW1
  rcases hA with ⟨rfl, p, c, rfl⟩ | ⟨g, c, hne2, rfl, hgW, hg, hc⟩
  · go_wp2_with fail
    refine wp_loop_rounds 1 ?_
    rw [rounds_succ]
    go_wp2_with fail
    go_ret
    exact ⟨_, rfl, World.ownsRow_nil _ _ _ _, hA2, hbw2, hkw2⟩
  · have hSh : Shows w2 g due := hc
    have hdl32 : due.length ≤ 32 := by omega
    clear hc hne2
    go_wp2_with fail
    go_loopw [5, 30] (fun s5 si wr => ∃ k : Nat, k ≤ due.length ∧ si = .int .i64 (k : Int) ∧ wr.ownsRow w2.heap.size 9 1 s5 k ((due.take k).map (fun x => Value.string x.2)) ∧ AlIn wr B Mb N (l.drop k) ∧ Shows wr g due ∧ Below base W wr ∧ w2.heap.size ≤ wr.heap.size ∧ Keep W wr B Mb) (fun _ si _ => due.length - (intOf si).toNat)
    case atStart => exact ⟨0, by omega, rfl, World.ownsRow_nil _ _ _ _, hA2, hSh, hbw2, Nat.le_refl _, hkw2⟩
    case round =>
      clear hA2 hSh hbw2 hkw2
      obtain ⟨k, hk, rfl, hrow, hAl, hSh, hbel, hsz, hkp⟩ := hrel
      by_cases hlt : k < due.length
      · obtain ⟨y0, y1⟩ := hSh k hlt
        have hkl : k < l.length := by omega
        have hdk : due[k] = l[k] := by
          have : due[k]? = l[k]? := by
            have h5 := List.getElem?_take_of_lt (l := l) hlt
            rwa [← hdp.out] at h5
          simpa [hlt, hkl] using this
        have hdel := drop_del hok.2.1 hkl
        have hns := names_snoc (l := due) hlt
        have hnm : due[k].2.size ≤ maxLen := by rw [hdk]; exact (hok.2.2 _ (List.getElem_mem hkl)).2.2
        rw [← hdk] at hdel
        have hmlr := hAl.2.lt
        have hltr := hAl.1.lt
        generalize due[k] = d at *
        obtain ⟨at_, nm⟩ := d
        simp only at y0 y1 hdel hnm hns
        clear hdk
        have hgM : g ≠ Mb := by omega
        have hgr : g < wr.heap.size := by omega
        have hMr : Mb < w2.heap.size := by omega
        have hA3 : AlIn (wr.alloc (.cells #[.int .i64 at_, .string nm] 57)).drew B Mb N (l.drop k) := (hAl.below ((Below.refl _ _).alloc (Nat.le_refl _) _)).drew
        have hX := heap_alloc_new wr (.cells #[.int .i64 at_, .string nm] 57)
        have hrow3 := (hrow.alloc (.cells #[.int .i64 at_, .string nm] 57)).drew
        have hSh3 : Shows (wr.alloc (.cells #[.int .i64 at_, .string nm] 57)).drew g due := hSh.block (Below.heap_alloc _ _ _ hgr)
        have hbel3 : Below base W (wr.alloc (.cells #[.int .i64 at_, .string nm] 57)).drew := Below.drew (hbel.alloc (by have := hbel.size; omega) _)
        have hkp3 : Keep W (wr.alloc (.cells #[.int .i64 at_, .string nm] 57)).drew B Mb := Keep.drew (hkp.alloc _)
        have hsz3 : wr.heap.size < (wr.alloc (.cells #[.int .i64 at_, .string nm] 57)).heap.size := by simp
        have hXM : wr.heap.size ≠ Mb := by omega
        go_upto_region 8 with fail
        clear hrow hSh hAl hbel y0 y1 hkp
        generalize wr.alloc (.cells #[.int .i64 at_, .string nm] 57) = W3 at *
        generalize wr.heap.size = X at *
        refine wp_region_held_drew (S := fun w' => BoxA w' B Mb N ∧ w'.heap[X]? = some (.cells #[.int .i64 at_, .string nm] 57)) (by kernel_rfl) ⟨hA3.1, hX⟩ (fun hSS => ?_)
        refine wpAnyH_take (i := 0) (v := ?_) rfl (by kernel_rfl) (by kernel_rfl) (by kernel_rfl) (fun _ _ _ h => h) (Or.inl ⟨by rfl, ?_⟩) hSS ?_
        rotate_left
        · intro wz hSz
          go_simp
          try with_reducible rfl
        simp only [List.getElem_toArray, List.getElem_cons_zero, Act.put, List.setIfInBounds_toArray, List.set_cons_zero, List.set_cons_succ]
        refine wpAnyH_take (i := 1) (v := ?_) rfl (by kernel_rfl) (by kernel_rfl) (by kernel_rfl) (fun _ _ _ h => h) (Or.inl ⟨by rfl, ?_⟩) hSS ?_
        rotate_left
        · intro wz hSz
          obtain ⟨z0, z1, zf⟩ := hSz.1.cells; have z7 := cell_of_row _ _ 1 _ _ _ hSz.2
          go_simp
          try with_reducible rfl
        simp only [List.getElem_toArray, List.getElem_cons_zero, List.getElem_cons_succ, Act.put, List.setIfInBounds_toArray, List.set_cons_zero, List.set_cons_succ]
        refine wpAnyH_take (i := 2) (v := ?_) rfl (by kernel_rfl) (by kernel_rfl) (by kernel_rfl) (fun _ _ _ h => h) (Or.inl ⟨by rfl, ?_⟩) hSS ?_
        rotate_left
        · intro wz hSz
          go_simp
          try with_reducible rfl
        simp only [List.getElem_toArray, List.getElem_cons_zero, List.getElem_cons_succ, Act.put, List.setIfInBounds_toArray, List.set_cons_zero, List.set_cons_succ]
        refine wpAnyH_take (i := 3) (v := ?_) rfl (by kernel_rfl) (by kernel_rfl) (by kernel_rfl) (fun _ _ _ h => h) (Or.inl ⟨by rfl, ?_⟩) hSS ?_
        rotate_left
        · intro wz hSz
          obtain ⟨z0, z1, zf⟩ := hSz.1.cells; have z7 := cell_of_row _ _ 1 _ _ _ hSz.2
          go_simp
          try with_reducible rfl
        simp only [List.getElem_toArray, List.getElem_cons_zero, List.getElem_cons_succ, Act.put, List.setIfInBounds_toArray, List.set_cons_zero, List.set_cons_succ]
        refine wpAnyH_take (i := 4) (v := ?_) rfl (by kernel_rfl) (by kernel_rfl) (by kernel_rfl) (fun _ _ _ h => h) (Or.inl ⟨by rfl, ?_⟩) hSS ?_
        rotate_left
        · intro wz hSz
          go_simp
          try with_reducible rfl
        simp only [List.getElem_toArray, List.getElem_cons_zero, List.getElem_cons_succ, Act.put, List.setIfInBounds_toArray, List.set_cons_zero, List.set_cons_succ]
        refine wpAnyH_take (i := 5) (v := ?_) rfl (by kernel_rfl) (by kernel_rfl) (by kernel_rfl) (fun _ _ _ h => h) (Or.inl ⟨by rfl, ?_⟩) hSS ?_
        rotate_left
        · intro wz hSz
          obtain ⟨z0, z1, zf⟩ := hSz.1.cells; have z7 := cell_of_row _ _ 1 _ _ _ hSz.2
          go_simp
          try with_reducible rfl
        simp only [List.getElem_toArray, List.getElem_cons_zero, List.getElem_cons_succ, Act.put, List.setIfInBounds_toArray, List.set_cons_zero, List.set_cons_succ]
        refine wpAnyH_ready (rs := [6]) (by kernel_rfl) (by simp) (AllReadyH.cons rfl (fun K hK => ?_) AllReadyH.nil)
        obtain ⟨w4, hrun4, hA4, hb4, ht4⟩ := hA3.drop' nm hnm base hM 0
        refine step_delete rfl (.tmp 37) (.tmp 39) rfl rfl rfl hrun4 ?_
        refine hK.out _ _ ⟨hA4.1, (turned_block ht4 (by omega) (by have := (Array.getElem?_eq_some_iff.1 hSS.2).1; omega)).trans hSS.2⟩ (fun hSS4 => ?_)
        clear hK
        refine wpAnyH_done (by kernel_rfl) ?_ _
        have hrow4 := hrow3.kept ht4.grown (Or.inr (fun e => row_ne_low hrow3 hMr e.symm))
        have hSh4 : Shows w4 g due := hSh3.block (turned_block ht4 hgM (by show g < W3.heap.size; omega))
        have hbel4 := hbel3.trans hb4
        have hkp4 := hkp3.turned ht4
        have hsz4 : X < w4.heap.size := (Array.getElem?_eq_some_iff.1 hSS4.2).1
        have z0 := cell_of_row _ _ 0 _ _ _ hSS4.2
        have z1 := cell_of_row _ _ 1 _ _ _ hSS4.2
        have hrow5 := hrow4.alloc (.cells #[.string nm] 9)
        rw [hdel] at hA4
        clear hA3 hX hrow3 hSh3 hbel3 hSS hSS4 ht4 hb4 hrun4 hkp3
        go_wp2_with (at_builtin; go_must (refine wpList_append_own_at _ rfl (.tmp 40) (.tmp 43) 38 rfl w2.heap.size 9 i0 _ 1 16 Try.underlying38 hi hz0 hz1 hz2 rfl (by decide) _ _ _ rfl hrow5 ⟨w4.heap.size, 0, none⟩ 1 1 [.string nm] rfl rfl ?c1 ?c2 (by unfold maxLen; omega) (by omega) (by simp; omega) ?_))
        case c1 =>
          intro j u hj
          match j, hj with
          | 0, hj => simp at hj; subst hj; simp [Addr.add]
          | j + 1, hj => simp at hj
        case c2 =>
          intro u hu
          simp only [List.mem_singleton] at hu
          subst hu; rfl
        intro v6 w6 hown6 hgrow6 _ hat6
        rw [← List.map_take, ← hns] at hown6
        have hkeep : ∀ i, i < w2.heap.size → w6.heap[i]? = w4.heap[i]? := fun i hi' => by
          have h7 := hgrow6.block i (by simp; omega) (fun e => by have := (hrow5.lt i e.symm).1; omega)
          rw [h7, Below.heap_alloc _ _ _ (by omega)]
        have hA6 : AlIn w6 B Mb N (l.drop (k + 1)) := ⟨(hkeep B (by omega)).trans hA4.1, hA4.2.block (hkeep Mb hMr)⟩
        have hSh6 : Shows w6 g due := hSh4.block (hkeep g hg)
        have hbel6 : Below base W w6 := (hbel4.alloc (by have := hbel4.size; omega) _).grown hgrow6 (by have := hbel4.size; simp; omega) (fun q hq => by have := (hrow5.lt q hq).1; omega)
        have hkp6 : Keep W w6 B Mb := ⟨by have := hgrow6.size; have := hkp4.1; simp at *; omega, fun i hi' h1 h2 => (hkeep i (by omega)).trans (hkp4.2 i hi' h1 h2)⟩
        have hsz6 : w2.heap.size ≤ w6.heap.size := by have := hgrow6.size; simp at this; omega
        clear hrow5 hrow4 hgrow6 hat6 hbel4 hA4 hSh4 hkeep hkp4
        go_wp2
        go_roundw
        case rel => exact ⟨k + 1, by omega, by go_num, by simpa using hown6, hA6, hSh6, hbel6, hsz6, hkp6⟩
        case measure => simp [intOf]; omega
      · have hk2 : k = due.length := by omega
        subst hk2
        rw [List.take_length] at hrow
        go_wp2_with fail
        go_ret
        exact ⟨_, rfl, Joins.ownsRow_le hrow hsz2, hAl, hbel, hkp⟩
end Go.Proofs.Ytjgonfaniincbaa
