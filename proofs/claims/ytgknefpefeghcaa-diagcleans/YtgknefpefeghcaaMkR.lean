/- slices.Reverse at places: the same places the other way round. Conditions: they lie in memory. -/
import Derived.Test.YtgknefpefeghcaaMkC
import Derived.Deep.MidRow
namespace Go.Proofs.Ytgknefpefeghcaa
open Go.RowKit

/-- n places in memory, told by a function. -/
def PR (W : World) (g n : Nat) (f : Nat → Int × Int) : Prop := (∃ cur, W.heap[g]? = some (.cells cur 63 (0, 0))) ∧ ∀ j, j < n → W.cell? ⟨g, j * 2, none⟩ = some (.int .i64 (f j).1) ∧ W.cell? ⟨g, j * 2 + 1, none⟩ = some (.int .i64 (f j).2)
def set2 (W : World) (g j : Nat) (x : Int × Int) : World := (W.setCell ⟨g, j * 2, none⟩ (.int .i64 x.1)).setCell ⟨g, j * 2 + 1, none⟩ (.int .i64 x.2)
set_option maxRecDepth 100000 in
theorem PR.frozen {W : World} {g n : Nat} {f : Nat → Int × Int} (h : PR W g n f) (j : Nat) : W.frozen? ⟨g, j, none⟩ = false := by
  obtain ⟨⟨cur, hb⟩, -⟩ := h
  exact frozen_of_row _ _ _ _ _ hb
set_option maxRecDepth 100000 in
theorem PR.set {W : World} {g n : Nat} {f : Nat → Int × Int} (h : PR W g n f) (j : Nat) (hj : j < n) (x : Int × Int) : PR (set2 W g j x) g n (fun k => if k = j then x else f k) := by
  obtain ⟨h1, h2⟩ := h
  obtain ⟨c0, c1⟩ := h2 j hj
  have d1 : (W.setCell ⟨g, j * 2, none⟩ (.int .i64 x.1)).cell? ⟨g, j * 2 + 1, none⟩ = some (.int .i64 (f j).2) := by
    rw [World.cell?_setCell_other _ _ _ _ (by simp)]; exact c1
  refine ⟨?_, fun k hk => ?_⟩
  · obtain ⟨cur, hb⟩ := h1
    exact ⟨_, heap_setCell_same _ _ _ _ _ _ (heap_setCell_same _ _ _ _ _ _ hb)⟩
  · obtain ⟨e0, e1⟩ := h2 k hk
    unfold set2
    dsimp only
    by_cases e : k = j
    · subst e
      rw [if_pos rfl]
      refine ⟨?_, World.cell?_setCell_same _ _ _ (by rw [d1])⟩
      rw [World.cell?_setCell_other _ _ _ _ (by simp)]
      exact World.cell?_setCell_same _ _ _ (by rw [c0])
    · rw [if_neg e]
      refine ⟨?_, ?_⟩
      · rw [World.cell?_setCell_other _ _ _ _ (by simp; try omega), World.cell?_setCell_other _ _ _ _ (by simp; try omega)]; exact e0
      · rw [World.cell?_setCell_other _ _ _ _ (by simp; try omega), World.cell?_setCell_other _ _ _ _ (by simp; try omega)]; exact e1
set_option maxRecDepth 100000 in
theorem PR.drew {W : World} {g n : Nat} {f : Nat → Int × Int} (h : PR W g n f) : PR W.drew g n f := h
set_option maxRecDepth 100000 in
theorem set2_below {W w' : World} {base g : Nat} (h : Below base W w') (hg : base ≤ g) (j : Nat) (x : Int × Int) : Below base W (set2 w' g j x) := (h.setCell hg _).setCell hg _
set_option maxRecDepth 100000 in
theorem sizeP : (Try.prog.info? 63).map (·.size) = some 2 := by kernel_rfl
set_option maxRecDepth 100000 in
theorem step_setP {ops : Array Oper} {o : Oper} {a : Act} {W : World} {K : Act → World → Prop} {Q : Exit → Act → World → Prop} {E : Prop} (hgd : o.guard = none) (x y : Operand) (ho : o.op = .store 63 x y) (hd : o.dst = none)
    {g j n : Nat} {f : Nat → Int × Int} {q : Int × Int} (hx : a.eval x = .pointer (some ⟨g, j * 2, none⟩)) (hy : a.eval y = .agg #[.int .i64 q.1, .int .i64 q.2]) (hz : PR W g n f) (hj : j < n) (h : K a (set2 W g j q)) :
    if Region.wanted o (yielded ops a.tmps) = true then Oper.wp Try.prog o a W K Q else E := by
  refine step_plain hgd ?_
  refine wp_store_mid 63 x y ho g (j * 2) #[.int .i64 q.1, .int .i64 q.2] hx hy ?_ sizeP (by simp [Value.oneCell']) ?_
  · intro i hi
    have hi : i < 2 := hi
    refine ⟨?_, hz.frozen _⟩
    match i, hi with
    | 0, _ => rw [Nat.add_zero, (hz.2 j hj).1]; rfl
    | 1, _ => rw [(hz.2 j hj).2]; rfl
  · rw [hd]
    exact h
/-- After so many swaps. -/
def revF (n i : Nat) (f : Nat → Int × Int) (j : Nat) : Int × Int := if j < i ∨ n - i ≤ j then f (n - 1 - j) else f j
set_option maxRecDepth 100000 in
theorem rev_step {n i m : Nat} (f : Nat → Int × Int) (hm : m = n - 1 - i) (hi : i + 1 ≤ n - i - 1) : ∀ k, k < n → (fun k => if k = m then revF n i f i else (fun k => if k = i then revF n i f m else revF n i f k) k) k = revF n (i + 1) f k := by
  intro k hk
  subst hm
  simp only [revF]
  have a1 : ¬ (i < i ∨ n - i ≤ i) := by omega
  have a2 : ¬ (n - 1 - i < i ∨ n - i ≤ n - 1 - i) := by omega
  rw [if_neg a1, if_neg a2]
  by_cases e1 : k = n - 1 - i
  · rw [if_pos e1, if_pos (by omega), e1]
    congr 1; omega
  · rw [if_neg e1]
    by_cases e2 : k = i
    · rw [if_pos e2, if_pos (by omega), e2]
    · rw [if_neg e2]
      by_cases e3 : k < i ∨ n - i ≤ k
      · rw [if_pos e3, if_pos (by omega)]
      · rw [if_neg e3, if_neg (by omega)]
set_option maxRecDepth 100000 in
theorem PR.ext {W : World} {g n : Nat} {f f' : Nat → Int × Int} (h : PR W g n f) (he : ∀ k, k < n → f k = f' k) : PR W g n f' := ⟨h.1, fun j hj => by rw [← he j hj]; exact h.2 j hj⟩
set_option maxRecDepth 100000 in
set_option maxHeartbeats 800000 in
theorem rev_any {W : World} {g n cap : Nat} {f : Nat → Int × Int} (h : PR W g n f) (hn : n ≤ 100000) (base : Nat) (hbg : base ≤ g) : Calls Try.prog 55 #[.slice (some ⟨g, 0, none⟩) n cap] W fun e w' => e = .returned (.tuple #[]) ∧ PR w' g n (fun j => f (n - 1 - j)) ∧ Below base W w' := by
  have hpr0 : PR W g n (revF n 0 f) := h.ext (fun k hk => by simp only [revF]; rw [if_neg (by omega)])
  have hb0 := Below.refl base W
  clear h
  go_enter Try.func55, Try.ntmps55
  go_wp2_with fail
  go_loopw [2, 3] (fun s2 s3 wr => ∃ (i : Nat) (m : Int), i * 2 ≤ n + 1 ∧ m = (n : Int) - 1 - i ∧ s2 = .int .i64 (i : Int) ∧ s3 = .int .i64 m ∧ PR wr g n (revF n i f) ∧ Below base W wr) (fun s2 _ _ => n - (intOf s2).toNat)
  case atStart => exact ⟨0, _, by omega, by simp, rfl, rfl, hpr0, hb0⟩
  case round =>
    clear hpr0 hb0
    obtain ⟨i, m, hi, hm, rfl, rfl, hpr, hb⟩ := hrel
    by_cases hlt : i + 1 ≤ n - i - 1
    · obtain ⟨k, rfl⟩ : ∃ k : Nat, m = k := ⟨m.toNat, by omega⟩
      have hk : Hid (k = n - 1 - i) := by show _ = _; omega
      have hki : i < k := by omega
      have hkn : k < n := by omega
      have hin : i < n := by omega
      clear hm
      have hlt : Hid (i + 1 ≤ n - i - 1) := hlt
      obtain ⟨F, hFf⟩ : ∃ F, Hid (F = revF n i f) := ⟨_, rfl⟩
      rw [← hFf.out] at hpr
      go_upto_region 3 with fail
      replace hpr := hpr.drew
      replace hb := hb.drew
      refine wp_region_held_drew (S := fun _ => True) (by kernel_rfl) trivial (fun hSS => ?_)
      refine wpAnyH_take (i := 0) (v := ?_) rfl (by kernel_rfl) (by kernel_rfl) (by kernel_rfl) (fun _ _ _ h => h) (Or.inl ⟨by rfl, ?_⟩) hSS ?_
      rotate_left
      · intro wz hSz
        go_simp
        try with_reducible rfl
      simp only [List.getElem_toArray, List.getElem_cons_zero, Act.put, List.setIfInBounds_toArray, List.set_cons_zero, List.set_cons_succ]
      refine wpAnyH_take (i := 1) (v := ?_) rfl (by kernel_rfl) (by kernel_rfl) (by kernel_rfl) (fun _ _ _ h => h) (Or.inl ⟨by rfl, ?_⟩) hSS ?_
      rotate_left
      · intro wz hSz
        go_simp
        try with_reducible rfl
      simp only [List.getElem_toArray, List.getElem_cons_zero, List.getElem_cons_succ, Act.put, List.setIfInBounds_toArray, List.set_cons_zero, List.set_cons_succ]
      refine wpAnyH_take (i := 2) (v := ?_) rfl (by kernel_rfl) (by kernel_rfl) (by kernel_rfl) (fun _ _ _ h => h) (Or.inl ⟨by rfl, ?_⟩) hSS ?_
      rotate_left
      · intro wz hSz
        go_simp
        try with_reducible rfl
      simp only [List.getElem_toArray, List.getElem_cons_zero, List.getElem_cons_succ, Act.put, List.setIfInBounds_toArray, List.set_cons_zero, List.set_cons_succ]
      refine wpAnyH_take (i := 3) (v := ?_) rfl (by kernel_rfl) (by kernel_rfl) (by kernel_rfl) (fun _ _ _ h => h) (Or.inl ⟨by rfl, ?_⟩) hSS ?_
      rotate_left
      · intro wz hSz
        go_simp
        try with_reducible rfl
      simp only [List.getElem_toArray, List.getElem_cons_zero, List.getElem_cons_succ, Act.put, List.setIfInBounds_toArray, List.set_cons_zero, List.set_cons_succ]
      refine wpAnyH_take (i := 4) (v := ?_) rfl (by kernel_rfl) (by kernel_rfl) (by kernel_rfl) (fun _ _ _ h => h) (Or.inl ⟨by rfl, ?_⟩) hSS ?_
      rotate_left
      · intro wz hSz
        go_simp
        try with_reducible rfl
      simp only [List.getElem_toArray, List.getElem_cons_zero, List.getElem_cons_succ, Act.put, List.setIfInBounds_toArray, List.set_cons_zero, List.set_cons_succ]
      refine wpAnyH_take (i := 5) (v := ?_) rfl (by kernel_rfl) (by kernel_rfl) (by kernel_rfl) (fun _ _ _ h => h) (Or.inl ⟨by rfl, ?_⟩) hSS ?_
      rotate_left
      · intro wz hSz
        go_simp
        try with_reducible rfl
      simp only [List.getElem_toArray, List.getElem_cons_zero, List.getElem_cons_succ, Act.put, List.setIfInBounds_toArray, List.set_cons_zero, List.set_cons_succ]
      refine wpAnyH_take (i := 6) (v := ?_) rfl (by kernel_rfl) (by kernel_rfl) (by kernel_rfl) (fun _ _ _ h => h) (Or.inl ⟨by rfl, ?_⟩) hSS ?_
      rotate_left
      · intro wz hSz
        go_simp
        try with_reducible rfl
      simp only [List.getElem_toArray, List.getElem_cons_zero, List.getElem_cons_succ, Act.put, List.setIfInBounds_toArray, List.set_cons_zero, List.set_cons_succ]
      refine wpAnyH_take (i := 8) (v := ?_) rfl (by kernel_rfl) (by kernel_rfl) (by kernel_rfl) (fun _ _ _ h => h) (Or.inl ⟨by rfl, ?_⟩) hSS ?_
      rotate_left
      · intro wz hSz
        go_simp
        try with_reducible rfl
      simp only [List.getElem_toArray, List.getElem_cons_zero, List.getElem_cons_succ, Act.put, List.setIfInBounds_toArray, List.set_cons_zero, List.set_cons_succ]
      refine wpAnyH_take (i := 9) (v := ?_) rfl (by kernel_rfl) (by kernel_rfl) (by kernel_rfl) (fun _ _ _ h => h) (Or.inl ⟨by rfl, ?_⟩) hSS ?_
      rotate_left
      · intro wz hSz
        go_simp
        try with_reducible rfl
      simp only [List.getElem_toArray, List.getElem_cons_zero, List.getElem_cons_succ, Act.put, List.setIfInBounds_toArray, List.set_cons_zero, List.set_cons_succ]
      refine wpAnyH_take (i := 10) (v := ?_) rfl (by kernel_rfl) (by kernel_rfl) (by kernel_rfl) (fun _ _ _ h => h) (Or.inl ⟨by rfl, ?_⟩) hSS ?_
      rotate_left
      · intro wz hSz
        go_simp
        try with_reducible rfl
      simp only [List.getElem_toArray, List.getElem_cons_zero, List.getElem_cons_succ, Act.put, List.setIfInBounds_toArray, List.set_cons_zero, List.set_cons_succ]
      refine wpAnyH_ready (rs := [7, 11]) (by kernel_rfl) (by simp) (AllReadyH.cons rfl (fun K hK => ?_) (AllReadyH.cons rfl (fun K hK => ?_) AllReadyH.nil))
      · skip
        obtain ⟨c0, c1⟩ := hpr.2 k (by omega)
        go_simp
        refine hK.out _ _ trivial (fun hSS => ?_)
        clear hK c0 c1
        refine wpAnyH_ready (rs := [11]) (by kernel_rfl) (by simp) (AllReadyH.cons rfl (fun K hK => ?_) AllReadyH.nil)
        obtain ⟨c0, c1⟩ := hpr.2 i (by omega)
        go_simp
        refine hK.out _ _ trivial (fun hSS => ?_)
        clear hK c0 c1
        refine wpAnyH_take (i := 12) (v := ?_) rfl (by kernel_rfl) (by kernel_rfl) (by kernel_rfl) (fun _ _ _ h => h) (Or.inl ⟨by rfl, ?_⟩) hSS ?_
        rotate_left
        · intro wz hSz
          go_simp
          try with_reducible rfl
        simp only [List.getElem_toArray, List.getElem_cons_zero, List.getElem_cons_succ, Act.put, List.setIfInBounds_toArray, List.set_cons_zero, List.set_cons_succ]
        refine wpAnyH_ready (rs := [13]) (by kernel_rfl) (by simp) (AllReadyH.cons rfl (fun K hK => ?_) AllReadyH.nil)
        refine step_setP rfl (.tmp 26) (.tmp 21) rfl rfl (j := i) (q := F k) rfl rfl hpr (by omega) ?_
        refine hK.out _ _ trivial (fun hSS => ?_)
        clear hK
        have hpr := hpr.set i (by omega) (F k)
        have hb := set2_below hb hbg i (F k)
        refine wpAnyH_take (i := 14) (v := ?_) rfl (by kernel_rfl) (by kernel_rfl) (by kernel_rfl) (fun _ _ _ h => h) (Or.inl ⟨by rfl, ?_⟩) hSS ?_
        rotate_left
        · intro wz hSz
          go_simp
          try with_reducible rfl
        simp only [List.getElem_toArray, List.getElem_cons_zero, List.getElem_cons_succ, Act.put, List.setIfInBounds_toArray, List.set_cons_zero, List.set_cons_succ]
        refine wpAnyH_ready (rs := [15]) (by kernel_rfl) (by simp) (AllReadyH.cons rfl (fun K hK => ?_) AllReadyH.nil)
        refine step_setP rfl (.tmp 27) (.tmp 25) rfl rfl (j := k) (q := F i) rfl rfl hpr (by omega) ?_
        refine hK.out _ _ trivial (fun hSS => ?_)
        clear hK
        have hpr := hpr.set k (by omega) (F i)
        have hb := set2_below hb hbg k (F i)
        refine wpAnyH_done (by kernel_rfl) ?_ _
        go_wp2_with fail
        go_roundw
        case rel => exact ⟨i + 1, (k : Int) - 1, by omega, by have := hk.out; omega, by go_num, by go_num, hpr.ext (fun j hj => by rw [← rev_step f hk.out hlt.out j hj, ← hFf.out]), hb⟩
        case measure => simp [intOf]; omega
      · skip
        obtain ⟨c0, c1⟩ := hpr.2 i (by omega)
        go_simp
        refine hK.out _ _ trivial (fun hSS => ?_)
        clear hK c0 c1
        refine wpAnyH_ready (rs := [7]) (by kernel_rfl) (by simp) (AllReadyH.cons rfl (fun K hK => ?_) AllReadyH.nil)
        obtain ⟨c0, c1⟩ := hpr.2 k (by omega)
        go_simp
        refine hK.out _ _ trivial (fun hSS => ?_)
        clear hK c0 c1
        refine wpAnyH_take (i := 12) (v := ?_) rfl (by kernel_rfl) (by kernel_rfl) (by kernel_rfl) (fun _ _ _ h => h) (Or.inl ⟨by rfl, ?_⟩) hSS ?_
        rotate_left
        · intro wz hSz
          go_simp
          try with_reducible rfl
        simp only [List.getElem_toArray, List.getElem_cons_zero, List.getElem_cons_succ, Act.put, List.setIfInBounds_toArray, List.set_cons_zero, List.set_cons_succ]
        refine wpAnyH_ready (rs := [13]) (by kernel_rfl) (by simp) (AllReadyH.cons rfl (fun K hK => ?_) AllReadyH.nil)
        refine step_setP rfl (.tmp 26) (.tmp 21) rfl rfl (j := i) (q := F k) rfl rfl hpr (by omega) ?_
        refine hK.out _ _ trivial (fun hSS => ?_)
        clear hK
        have hpr := hpr.set i (by omega) (F k)
        have hb := set2_below hb hbg i (F k)
        refine wpAnyH_take (i := 14) (v := ?_) rfl (by kernel_rfl) (by kernel_rfl) (by kernel_rfl) (fun _ _ _ h => h) (Or.inl ⟨by rfl, ?_⟩) hSS ?_
        rotate_left
        · intro wz hSz
          go_simp
          try with_reducible rfl
        simp only [List.getElem_toArray, List.getElem_cons_zero, List.getElem_cons_succ, Act.put, List.setIfInBounds_toArray, List.set_cons_zero, List.set_cons_succ]
        refine wpAnyH_ready (rs := [15]) (by kernel_rfl) (by simp) (AllReadyH.cons rfl (fun K hK => ?_) AllReadyH.nil)
        refine step_setP rfl (.tmp 27) (.tmp 25) rfl rfl (j := k) (q := F i) rfl rfl hpr (by omega) ?_
        refine hK.out _ _ trivial (fun hSS => ?_)
        clear hK
        have hpr := hpr.set k (by omega) (F i)
        have hb := set2_below hb hbg k (F i)
        refine wpAnyH_done (by kernel_rfl) ?_ _
        go_wp2_with fail
        go_roundw
        case rel => exact ⟨i + 1, (k : Int) - 1, by omega, by have := hk.out; omega, by go_num, by go_num, hpr.ext (fun j hj => by rw [← rev_step f hk.out hlt.out j hj, ← hFf.out]), hb⟩
        case measure => simp [intOf]; omega
    · have hmi : m ≤ (i : Int) := by omega
      go_wp2_with fail
      go_end0
      exact ⟨rfl, hpr.ext (fun j hj => by simp only [revF]; by_cases e : j < i ∨ n - i ≤ j
                                          · rw [if_pos e]
                                          · rw [if_neg e]; congr 1; omega), hb⟩
end Go.Proofs.Ytgknefpefeghcaa
