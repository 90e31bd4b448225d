/- sooner: which one of two alarms rings first: it boxes both, and makes a slice of two numbers. No conditions. -/
import Derived.Test.YtjgonfaniincbaaCkM
import Derived.Sort.Grow
namespace Go.Proofs.Ytjgonfaniincbaa
open Go.RowKit Go.Sort

/-- Which one rings first, as a number. -/
def cfA (x y : Int × ByteArray) : Int := if cmpI x.1 y.1 = 0 then cmpS x.2 y.2 else cmpI x.1 y.1
/-- Two alarms in boxes, behind draws and blocks. -/
def SoS (W w' : World) (x y : Int × ByteArray) : Prop := (∃ q os, w' = grow (W.drewN q) os) ∧ w'.heap[W.heap.size]? = some (.cells #[.int .i64 x.1, .string x.2] 57) ∧ w'.heap[W.heap.size + 1]? = some (.cells #[.int .i64 y.1, .string y.2] 57)
set_option maxRecDepth 100000 in
theorem SoS.cells {W w' : World} {x y : Int × ByteArray} (h : SoS W w' x y) : w'.cell? ⟨W.heap.size, 0, none⟩ = some (.int .i64 x.1) ∧ w'.cell? ⟨W.heap.size, 1, none⟩ = some (.string x.2) ∧ w'.cell? ⟨W.heap.size + 1, 0, none⟩ = some (.int .i64 y.1) ∧ w'.cell? ⟨W.heap.size + 1, 1, none⟩ = some (.string y.2) :=
  ⟨cell_of_row _ _ _ _ _ _ h.2.1, cell_of_row _ _ _ _ _ _ h.2.1, cell_of_row _ _ _ _ _ _ h.2.2, cell_of_row _ _ _ _ _ _ h.2.2⟩
set_option maxRecDepth 100000 in
theorem SoS.alloc {W w' : World} {x y : Int × ByteArray} (h : SoS W w' x y) (o : Obj) : SoS W (w'.alloc o) x y := by
  obtain ⟨⟨q, os, e⟩, h1, h2⟩ := h
  refine ⟨⟨q, os ++ #[o], by rw [alloc_eq_grow, e, grow_grow]⟩, ?_, ?_⟩
  · rw [Below.heap_alloc _ _ _ (Array.getElem?_eq_some_iff.1 h1).1]; exact h1
  · rw [Below.heap_alloc _ _ _ (Array.getElem?_eq_some_iff.1 h2).1]; exact h2
set_option maxRecDepth 100000 in
theorem SoS.drew {W w' : World} {x y : Int × ByteArray} (h : SoS W w' x y) : SoS W w'.drew x y := by
  obtain ⟨⟨q, os, e⟩, h1, h2⟩ := h
  refine ⟨⟨q + 1, os, ?_⟩, h1, h2⟩
  rw [e]
  simp [grow, World.drew, World.drewN]
  try rfl
set_option maxRecDepth 100000 in
theorem SoS.start (W : World) (x y : Int × ByteArray) : SoS W ((W.alloc (.cells #[.int .i64 x.1, .string x.2] 57)).alloc (.cells #[.int .i64 y.1, .string y.2] 57)) x y := by
  refine ⟨⟨0, #[.cells #[.int .i64 x.1, .string x.2] 57, .cells #[.int .i64 y.1, .string y.2] 57], ?_⟩, ?_, ?_⟩
  · rw [alloc_eq_grow, alloc_eq_grow, grow_grow]; rfl
  · rw [Below.heap_alloc _ _ _ (by simp)]; exact heap_alloc_new _ _
  · simpa using heap_alloc_new (W.alloc (.cells #[.int .i64 x.1, .string x.2] 57)) (.cells #[.int .i64 y.1, .string y.2] 57)
set_option maxRecDepth 100000 in
set_option maxHeartbeats 1600000 in
theorem sooner_any (x y : Int × ByteArray) (W : World) : Calls Try.prog 24 #[.agg #[.int .i64 x.1, .string x.2], .agg #[.int .i64 y.1, .string y.2]] W fun e w' => e = .returned (.int .i64 (cfA x y)) ∧ ∃ q os, w' = grow (W.drewN q) os := by
  have h0 := SoS.start W x y
  obtain ⟨x1, x2⟩ := x
  obtain ⟨y1, y2⟩ := y
  have CI : Hid (∀ w, Calls Try.prog 28 #[.int .i64 x1, .int .i64 y1] w fun e w' => e = .returned (.int .i64 (cmpI x1 y1)) ∧ w = w') := cmpi_any x1 y1
  have CS : Hid (∀ w, Calls Try.prog 29 #[.string x2, .string y2] w fun e w' => e = .returned (.int .i64 (cmpS x2 y2)) ∧ w = w') := cmps_any x2 y2
  have hR : Hid (cfA (x1, x2) (y1, y2) = if cmpI x1 y1 = 0 then cmpS x2 y2 else cmpI x1 y1) := rfl
  generalize cfA (x1, x2) (y1, y2) = R at *
  generalize cmpI x1 y1 = c1 at *
  generalize cmpS x2 y2 = c2 at *
  go_enter Try.func24, Try.ntmps24
  go_upto_region 1 with fail
  generalize (W.alloc (.cells #[.int .i64 x1, .string x2] 57)).alloc (.cells #[.int .i64 y1, .string y2] 57) = W1 at *
  refine wp_region_held_drew (S := fun w' => SoS W w' (x1, x2) (y1, y2)) (by kernel_rfl) h0.drew (fun hSS => ?_)
  refine wpAnyH_take (i := 0) (v := ?_) rfl (by kernel_rfl) (by kernel_rfl) (by kernel_rfl) (fun _ _ _ h => h) (Or.inl ⟨by rfl, ?_⟩) hSS ?_
  rotate_left
  · intro wz hSz
    go_simp
    try with_reducible rfl
  simp only [List.getElem_toArray, List.getElem_cons_zero, Act.put, List.setIfInBounds_toArray, List.set_cons_zero, List.set_cons_succ]
  refine wpAnyH_take (i := 1) (v := ?_) rfl (by kernel_rfl) (by kernel_rfl) (by kernel_rfl) (fun _ _ _ h => h) (Or.inl ⟨by rfl, ?_⟩) hSS ?_
  rotate_left
  · intro wz hSz
    obtain ⟨z0, z1, z2, z3⟩ := hSz.cells
    go_simp
    try with_reducible rfl
  simp only [List.getElem_toArray, List.getElem_cons_zero, List.getElem_cons_succ, Act.put, List.setIfInBounds_toArray, List.set_cons_zero, List.set_cons_succ]
  refine wpAnyH_take (i := 2) (v := ?_) rfl (by kernel_rfl) (by kernel_rfl) (by kernel_rfl) (fun _ _ _ h => h) (Or.inl ⟨by rfl, ?_⟩) hSS ?_
  rotate_left
  · intro wz hSz
    go_simp
    try with_reducible rfl
  simp only [List.getElem_toArray, List.getElem_cons_zero, List.getElem_cons_succ, Act.put, List.setIfInBounds_toArray, List.set_cons_zero, List.set_cons_succ]
  refine wpAnyH_take (i := 3) (v := ?_) rfl (by kernel_rfl) (by kernel_rfl) (by kernel_rfl) (fun _ _ _ h => h) (Or.inl ⟨by rfl, ?_⟩) hSS ?_
  rotate_left
  · intro wz hSz
    obtain ⟨z0, z1, z2, z3⟩ := hSz.cells
    go_simp
    try with_reducible rfl
  simp only [List.getElem_toArray, List.getElem_cons_zero, List.getElem_cons_succ, Act.put, List.setIfInBounds_toArray, List.set_cons_zero, List.set_cons_succ]
  refine wpAnyH_take (i := 5) (v := ?_) rfl (by kernel_rfl) (by kernel_rfl) (by kernel_rfl) (fun _ _ _ h => h) (Or.inl ⟨by rfl, ?_⟩) hSS ?_
  rotate_left
  · intro wz hSz
    go_simp
    try with_reducible rfl
  simp only [List.getElem_toArray, List.getElem_cons_zero, List.getElem_cons_succ, Act.put, List.setIfInBounds_toArray, List.set_cons_zero, List.set_cons_succ]
  refine wpAnyH_take (i := 6) (v := ?_) rfl (by kernel_rfl) (by kernel_rfl) (by kernel_rfl) (fun _ _ _ h => h) (Or.inl ⟨by rfl, ?_⟩) hSS ?_
  rotate_left
  · intro wz hSz
    obtain ⟨z0, z1, z2, z3⟩ := hSz.cells
    go_simp
    try with_reducible rfl
  simp only [List.getElem_toArray, List.getElem_cons_zero, List.getElem_cons_succ, Act.put, List.setIfInBounds_toArray, List.set_cons_zero, List.set_cons_succ]
  refine wpAnyH_take (i := 7) (v := ?_) rfl (by kernel_rfl) (by kernel_rfl) (by kernel_rfl) (fun _ _ _ h => h) (Or.inl ⟨by rfl, ?_⟩) hSS ?_
  rotate_left
  · intro wz hSz
    go_simp
    try with_reducible rfl
  simp only [List.getElem_toArray, List.getElem_cons_zero, List.getElem_cons_succ, Act.put, List.setIfInBounds_toArray, List.set_cons_zero, List.set_cons_succ]
  refine wpAnyH_take (i := 8) (v := ?_) rfl (by kernel_rfl) (by kernel_rfl) (by kernel_rfl) (fun _ _ _ h => h) (Or.inl ⟨by rfl, ?_⟩) hSS ?_
  rotate_left
  · intro wz hSz
    obtain ⟨z0, z1, z2, z3⟩ := hSz.cells
    go_simp
    try with_reducible rfl
  simp only [List.getElem_toArray, List.getElem_cons_zero, List.getElem_cons_succ, Act.put, List.setIfInBounds_toArray, List.set_cons_zero, List.set_cons_succ]
  refine wpAnyH_ready (rs := [4]) (by kernel_rfl) (by simp) (AllReadyH.cons rfl (fun K hK => ?_) AllReadyH.nil)
  go_simp
  go_at_call 28
  refine (CI.out _).mono ?_
  rintro e wk ⟨rfl, rfl⟩
  go_simp
  refine hK.out _ _ hSS (fun hSS => ?_)
  clear hK
  refine wpAnyH_ready (rs := [9]) (by kernel_rfl) (by simp) (AllReadyH.cons rfl (fun K hK => ?_) AllReadyH.nil)
  go_simp
  go_at_call 29
  refine (CS.out _).mono ?_
  rintro e wk ⟨rfl, rfl⟩
  go_simp
  refine hK.out _ _ hSS (fun hSS => ?_)
  clear hK
  refine wpAnyH_ready (rs := [10]) (by kernel_rfl) (by simp) (AllReadyH.cons rfl (fun K hK => ?_) AllReadyH.nil)
  go_simp
  refine hK.out _ _ (hSS.alloc _) (fun hSS => ?_)
  clear hK
  have y0 := cell_of_row _ _ 0 _ _ _ (heap_alloc_new W1.drew (.cells #[.int .i64 c1, .int .i64 c2] 3))
  have y1 := cell_of_row _ _ 1 _ _ _ (heap_alloc_new W1.drew (.cells #[.int .i64 c1, .int .i64 c2] 3))
  refine wpAnyH_ready (rs := [11]) (by kernel_rfl) (by simp) (AllReadyH.cons rfl (fun K hK => ?_) AllReadyH.nil)
  go_simp
  go_at_call 27
  refine (or_any y0 y1).mono ?_
  rintro e wk ⟨rfl, rfl⟩
  go_simp
  refine hK.out _ _ hSS (fun hSS => ?_)
  clear hK
  refine wpAnyH_take (i := 12) (v := ?_) rfl (by kernel_rfl) (by kernel_rfl) (by kernel_rfl) (fun _ _ _ h => h) (Or.inl ⟨by rfl, ?_⟩) hSS ?_
  rotate_left
  · intro wz hSz
    go_simp
    try with_reducible rfl
  simp only [List.getElem_toArray, List.getElem_cons_zero, List.getElem_cons_succ, Act.put, List.setIfInBounds_toArray, List.set_cons_zero, List.set_cons_succ]
  refine wpAnyH_done (by kernel_rfl) ?_ _
  go_wp2_with fail
  all_goals
    go_ret
    refine ⟨ret_int ?_, ?_⟩
    · rw [hR.out]
      split
      · first | rfl | (exfalso; omega)
      · first | rfl | (exfalso; omega)
    · first
        | exact hSS.1
        | (have hw := hSS.1; have e : c1 = 0 := by omega
           rw [e] at hw; exact hw)
end Go.Proofs.Ytjgonfaniincbaa
