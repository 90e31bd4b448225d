/- mark.Unknown of the value that is unknown; the law's awake. No conditions. -/
import Derived.Test.YtgknefpefeghcaaMkI
import Derived.Test.YtgknefpefeghcaaMkJ
import Derived.Test.YtgknefpefeghcaaVMeas
import Derived.Test.YtgknefpefeghcaaVGetB
import Derived.Lib.SliceRun
namespace Go.Proofs.Ytgknefpefeghcaa
open Go.RowKit

set_option maxRecDepth 100000 in
theorem clones_nil (W : World) : Calls Try.prog 83 #[.slice none 0 0] W fun e w' => e = .returned (.slice none 0 0) ∧ W = w' := by
  have q := fun (W : World) (a : Option Addr) (n c n' c' : Nat) => Lib.run_eql_slice_nil (P := Try.prog) W 93 146 a n c n' c' Try.underlying93
  go_enter Try.func83, Try.ntmps83
  go_wp2_with fail
  go_ret
  exact ⟨rfl, rfl⟩
set_option maxRecDepth 100000 in
theorem known_later (W : World) : Calls Try.prog 81 #[.agg #[.iface 98 (.agg #[])]] W fun e w' => e = .returned (.bool false) ∧ Below W.heap.size W w' := by
  go_enter Try.func81, Try.ntmps81
  go_wp2_with fail
  refine (measOf_any (ok := fun _ => True) (Rep.later (w := _)) _ (Below.refl _ _)).mono ?_
  rintro e w1 ⟨rfl, hb1⟩
  have hb2 := ((Below.refl W.heap.size W).alloc (Nat.le_refl _) (.cells #[.iface 98 (.agg #[])] 53)).trans (hb1.mono (by simp))
  have hf : (Instr.field 170 (V.meas (.mk 1 false 0 0 ByteArray.empty [] [])) 2).run Try.prog w1 = .ok (.bool false) w1 := by kernel_rfl
  go_wp2_with fail
  go_ret
  exact ⟨rfl, hb2⟩
/-- A searcher of which no place has been found. -/
def SBox (W : World) (S M : Nat) (v : Value) : Prop := W.heap[S]? = some (.cells #[.slice none 0 0, v, .slice none 0 0, .map (some M)] 96)
set_option maxRecDepth 100000 in
theorem infoSs : (Try.prog.info? 93).map (fun i => (i.zero, i.size, i.bytes)) = some (some (.slice none 0 0), 1, 24) := by kernel_rfl
set_option maxRecDepth 100000 in
theorem append_one {W : World} {S : Nat} (hS : S < W.heap.size) {X : Nat} (hX : W.heap[X]? = some (.cells #[.slice none 0 0] 93)) (ty : TypeId) :
    ∃ g c W', (Builtin.append_ #[50, 50] ty #[.slice none 0 0, .slice (some ⟨X, 0, none⟩) 1 1]).run Try.prog W = .ok (.slice (some ⟨g, 0, none⟩) 1 c) W' ∧ W'.heap[S]? = W.heap[S]? ∧ W.grownBy W' (Value.slice none 0 0).ownBlock := by
  obtain ⟨i0, hi, hz0, hz1, hz2⟩ := info_parts infoSs
  obtain ⟨v', w', h2, h3, h4, -⟩ := run_append_any W W.heap.size 50 ty 93 i0 _ 1 24 Try.underlying50 hi hz0 hz1 hz2 rfl (by omega) (.slice none 0 0) 0 [] (World.ownsRow_nil _ _ _ _) (some ⟨X, 0, none⟩) 1 1 [.slice none 0 0] rfl (fun e => by cases e)
    (fun ad had j u hu => by
      cases had
      match j, hu with
      | 0, hu => simp at hu; subst hu; rw [Addr.add_lit]; exact cell_of_row _ _ _ _ _ _ hX
      | j + 1, hu => simp at hu)
    (fun u hu => by simp at hu; rcases hu with rfl; rfl) (by unfold maxLen; omega) (by omega) (Nat.le_refl _)
  rcases h3.2 with ⟨-, h0⟩ | ⟨g, cap, cur, rfl, -⟩
  · simp at h0
  · exact ⟨g, cap, w', h2, h4.block S hS (by simp [Value.ownBlock]), h4⟩
set_option maxRecDepth 100000 in
set_option maxHeartbeats 800000 in
theorem look_later {W : World} {S M : Nat} (h : SBox W S M (.slice none 0 0)) : Calls Try.prog 69 #[.pointer (some ⟨S, 0, none⟩), .agg #[.iface 98 (.agg #[])]] W fun e w' => e = .returned (.bool true) ∧ ∃ a c, SBox w' S M (.slice a 1 c) ∧ Below S W w' := by
  have hS := (Array.getElem?_eq_some_iff.1 h).1
  go_enter Try.func69, Try.ntmps69
  go_wp2_with fail
  refine (known_later _).mono ?_
  rintro e w1 ⟨rfl, hb1⟩
  have hX1 : w1.heap[W.heap.size]? = some (.cells #[.iface 98 (.agg #[])] 53) := (hb1.block _ (by simp)).trans (heap_alloc_new W _)
  have hb2 := ((Below.refl W.heap.size W).alloc (Nat.le_refl _) (.cells #[.iface 98 (.agg #[])] 53)).trans (hb1.mono (by simp))
  clear hb1
  have h1 : SBox w1 S M (.slice none 0 0) := (hb2.block S hS).trans h
  have zX := cell_of_row _ _ 0 _ _ _ hX1
  go_wp2_with fail
  refine (kind_any (w0 := w1) (ok := fun _ => True) Rep.later _).mono ?_
  rintro e w2 ⟨rfl, hb3⟩
  have h2 : SBox w2 S M (.slice none 0 0) := (hb3.block S (by have := hb2.size; omega)).trans h1
  have hX2 := (hb3.block W.heap.size (World.block_lt_of_cell? _ _ zX)).trans hX1
  have zX2 := cell_of_row _ _ 0 _ _ _ hX2
  have hb4 := hb2.trans (hb3.mono (by have := hb2.size; omega))
  clear hb3 hb2 hX1 zX h1 hX2
  go_upto_region 4 with fail
  refine wp_region_held_drew (S := fun wz => wz.cell? ⟨S, 0, none⟩ = some (.slice none 0 0)) (by kernel_rfl) (cell_of_row _ _ 0 _ _ _ h2) (fun hSS => ?_)
  have hS2' : S < w2.heap.size := (Array.getElem?_eq_some_iff.1 h2).1
  have c0 := cell_of_row _ _ 0 _ _ _ h2
  have d0 := cell_of_row _ _ 1 _ _ _ h2
  refine wpAnyH_take (i := 0) (v := ?_) rfl (by kernel_rfl) (by kernel_rfl) (by kernel_rfl) (fun _ _ _ h => h) (Or.inl ⟨by rfl, ?_⟩) hSS ?_
  rotate_left
  · intro wz hSz
    go_simp
    try with_reducible rfl
  simp only [List.getElem_toArray, List.getElem_cons_zero, Act.put, List.setIfInBounds_toArray, List.set_cons_zero, List.set_cons_succ]
  refine wpAnyH_take (i := 1) (v := ?_) rfl (by kernel_rfl) (by kernel_rfl) (by kernel_rfl) (fun _ _ _ h => h) (Or.inl ⟨by rfl, ?_⟩) hSS ?_
  rotate_left
  · intro wz hSz
    go_simp
    try with_reducible rfl
  simp only [List.getElem_toArray, List.getElem_cons_zero, List.getElem_cons_succ, Act.put, List.setIfInBounds_toArray, List.set_cons_zero, List.set_cons_succ]
  refine wpAnyH_take (i := 2) (v := ?_) rfl (by kernel_rfl) (by kernel_rfl) (by kernel_rfl) (fun _ _ _ h => h) (Or.inl ⟨by rfl, ?_⟩) hSS ?_
  rotate_left
  · intro wz hSz
    have z0 := hSz
    go_simp
    try with_reducible rfl
  simp only [List.getElem_toArray, List.getElem_cons_zero, List.getElem_cons_succ, Act.put, List.setIfInBounds_toArray, List.set_cons_zero, List.set_cons_succ]
  refine wpAnyH_take (i := 3) (v := ?_) rfl (by kernel_rfl) (by kernel_rfl) (by kernel_rfl) (fun _ _ _ h => h) (Or.inl ⟨by rfl, ?_⟩) hSS ?_
  rotate_left
  · intro wz hSz
    go_simp
    try with_reducible rfl
  simp only [List.getElem_toArray, List.getElem_cons_zero, List.getElem_cons_succ, Act.put, List.setIfInBounds_toArray, List.set_cons_zero, List.set_cons_succ]
  refine wpAnyH_take (i := 5) (v := ?_) rfl (by kernel_rfl) (by kernel_rfl) (by kernel_rfl) (fun _ _ _ h => h) (Or.inl ⟨by rfl, ?_⟩) hSS ?_
  rotate_left
  · intro wz hSz
    go_simp
    try with_reducible rfl
  simp only [List.getElem_toArray, List.getElem_cons_zero, List.getElem_cons_succ, Act.put, List.setIfInBounds_toArray, List.set_cons_zero, List.set_cons_succ]
  refine wpAnyH_take (i := 6) (v := ?_) rfl (by kernel_rfl) (by kernel_rfl) (by kernel_rfl) (fun _ _ _ h => h) (Or.inl ⟨by rfl, ?_⟩) hSS ?_
  rotate_left
  · intro wz hSz
    have z0 := hSz
    go_simp
    try with_reducible rfl
  simp only [List.getElem_toArray, List.getElem_cons_zero, List.getElem_cons_succ, Act.put, List.setIfInBounds_toArray, List.set_cons_zero, List.set_cons_succ]
  refine wpAnyH_take (i := 7) (v := ?_) rfl (by kernel_rfl) (by kernel_rfl) (by kernel_rfl) (fun _ _ _ h => h) (Or.inl ⟨by rfl, ?_⟩) hSS ?_
  rotate_left
  · intro wz hSz
    go_simp
    try with_reducible rfl
  simp only [List.getElem_toArray, List.getElem_cons_zero, List.getElem_cons_succ, Act.put, List.setIfInBounds_toArray, List.set_cons_zero, List.set_cons_succ]
  refine wpAnyH_take (i := 8) (v := ?_) rfl (by kernel_rfl) (by kernel_rfl) (by kernel_rfl) (fun _ _ _ h => h) (Or.inl ⟨by rfl, ?_⟩) hSS ?_
  rotate_left
  · intro wz hSz
    have z0 := hSz
    go_simp
    try with_reducible rfl
  simp only [List.getElem_toArray, List.getElem_cons_zero, List.getElem_cons_succ, Act.put, List.setIfInBounds_toArray, List.set_cons_zero, List.set_cons_succ]
  refine wpAnyH_ready (rs := [4, 9]) (by kernel_rfl) (by simp) (AllReadyH.cons rfl (fun K hK => ?_) (AllReadyH.cons rfl (fun K hK => ?_) AllReadyH.nil))
  · skip
    go_simp
    refine hK.out _ _ c0 (fun hSS => ?_)
    clear hK
    refine wpAnyH_ready (rs := [9]) (by kernel_rfl) (by simp) (AllReadyH.cons rfl (fun K hK => ?_) AllReadyH.nil)
    go_simp
    go_at_call 83
    refine (clones_nil _).mono ?_
    rintro e wk ⟨rfl, rfl⟩
    go_simp
    refine hK.out _ _ c0 (fun hSS => ?_)
    clear hK
    refine wpAnyH_ready (rs := [10]) (by kernel_rfl) (by simp) (AllReadyH.cons rfl (fun K hK => ?_) AllReadyH.nil)
    go_simp
    have hS2 : S < w2.drew.heap.size := hS2'
    have hbx1 := (Below.heap_alloc w2.drew (.cells #[.slice none 0 0] 93) S hS2).trans h2
    have c1 := cell_of_row _ _ 0 _ _ _ hbx1
    have d1 := cell_of_row _ _ 1 _ _ _ hbx1
    refine hK.out _ _ c1 (fun hSS => ?_)
    clear hK
    obtain ⟨g6, c6, w6, hr6, hs6, hg6⟩ := append_one (W := w2.drew.alloc (.cells #[.slice none 0 0] 93)) (Nat.lt_of_lt_of_le hS2 (by simp)) (heap_alloc_new _ _) 50
    have hbx6 := hs6.trans hbx1
    have c6' := cell_of_row _ _ 0 _ _ _ hbx6
    have z6 := cell_of_row _ _ 1 _ _ _ hbx6
    have zf6 : w6.frozen? ⟨S, 1, none⟩ = false := frozen_of_row _ _ _ _ _ hbx6
    have hbx7 := heap_setCell_same _ _ 1 _ _ (.slice (some ⟨g6, 0, none⟩) 1 c6) hbx6
    have c7 := cell_of_row _ _ 0 _ _ _ hbx7
    refine wpAnyH_ready (rs := [11]) (by kernel_rfl) (by simp) (AllReadyH.cons rfl (fun K hK => ?_) AllReadyH.nil)
    refine step_append_any rfl (.tmp 16) (.tmp 22) 50 rfl _ _ rfl rfl hr6 ?_
    refine hK.out _ _ c6' (fun hSS => ?_)
    clear hK
    refine wpAnyH_take (i := 12) (v := ?_) rfl (by kernel_rfl) (by kernel_rfl) (by kernel_rfl) (fun _ _ _ h => h) (Or.inl ⟨by rfl, ?_⟩) hSS ?_
    rotate_left
    · intro wz hSz
      have z0 := hSz
      go_simp
      try with_reducible rfl
    simp only [List.getElem_toArray, List.getElem_cons_zero, List.getElem_cons_succ, Act.put, List.setIfInBounds_toArray, List.set_cons_zero, List.set_cons_succ]
    refine wpAnyH_take (i := 13) (v := ?_) rfl (by kernel_rfl) (by kernel_rfl) (by kernel_rfl) (fun _ _ _ h => h) (Or.inl ⟨by rfl, ?_⟩) hSS ?_
    rotate_left
    · intro wz hSz
      go_simp
      try with_reducible rfl
    simp only [List.getElem_toArray, List.getElem_cons_zero, List.getElem_cons_succ, Act.put, List.setIfInBounds_toArray, List.set_cons_zero, List.set_cons_succ]
    refine wpAnyH_ready (rs := [14]) (by kernel_rfl) (by simp) (AllReadyH.cons rfl (fun K hK => ?_) AllReadyH.nil)
    go_simp
    refine hK.out _ _ c7 (fun hSS => ?_)
    clear hK
    refine wpAnyH_done (by kernel_rfl) ?_ _
    go_wp2_with fail
    go_ret
    refine ⟨rfl, some ⟨g6, 0, none⟩, c6, hbx7, ?_⟩
    have hbA := ((Below.drew (hb4.mono (Nat.le_of_lt hS))).alloc (Nat.le_of_lt hS2') (.cells #[.slice none 0 0] 93)).grown hg6 (Nat.le_of_lt (Nat.lt_of_lt_of_le hS2' (by simp))) (fun k hk => by cases hk)
    exact hbA.setCell (Nat.le_refl _) _
  · skip
    go_simp
    go_at_call 83
    refine (clones_nil _).mono ?_
    rintro e wk ⟨rfl, rfl⟩
    go_simp
    refine hK.out _ _ c0 (fun hSS => ?_)
    clear hK
    refine wpAnyH_ready (rs := [4, 10]) (by kernel_rfl) (by simp) (AllReadyH.cons rfl (fun K hK => ?_) (AllReadyH.cons rfl (fun K hK => ?_) AllReadyH.nil))
    · skip
      go_simp
      refine hK.out _ _ c0 (fun hSS => ?_)
      clear hK
      refine wpAnyH_ready (rs := [10]) (by kernel_rfl) (by simp) (AllReadyH.cons rfl (fun K hK => ?_) AllReadyH.nil)
      go_simp
      have hS2 : S < w2.drew.heap.size := hS2'
      have hbx1 := (Below.heap_alloc w2.drew (.cells #[.slice none 0 0] 93) S hS2).trans h2
      have c1 := cell_of_row _ _ 0 _ _ _ hbx1
      have d1 := cell_of_row _ _ 1 _ _ _ hbx1
      refine hK.out _ _ c1 (fun hSS => ?_)
      clear hK
      obtain ⟨g6, c6, w6, hr6, hs6, hg6⟩ := append_one (W := w2.drew.alloc (.cells #[.slice none 0 0] 93)) (Nat.lt_of_lt_of_le hS2 (by simp)) (heap_alloc_new _ _) 50
      have hbx6 := hs6.trans hbx1
      have c6' := cell_of_row _ _ 0 _ _ _ hbx6
      have z6 := cell_of_row _ _ 1 _ _ _ hbx6
      have zf6 : w6.frozen? ⟨S, 1, none⟩ = false := frozen_of_row _ _ _ _ _ hbx6
      have hbx7 := heap_setCell_same _ _ 1 _ _ (.slice (some ⟨g6, 0, none⟩) 1 c6) hbx6
      have c7 := cell_of_row _ _ 0 _ _ _ hbx7
      refine wpAnyH_ready (rs := [11]) (by kernel_rfl) (by simp) (AllReadyH.cons rfl (fun K hK => ?_) AllReadyH.nil)
      refine step_append_any rfl (.tmp 16) (.tmp 22) 50 rfl _ _ rfl rfl hr6 ?_
      refine hK.out _ _ c6' (fun hSS => ?_)
      clear hK
      refine wpAnyH_take (i := 12) (v := ?_) rfl (by kernel_rfl) (by kernel_rfl) (by kernel_rfl) (fun _ _ _ h => h) (Or.inl ⟨by rfl, ?_⟩) hSS ?_
      rotate_left
      · intro wz hSz
        have z0 := hSz
        go_simp
        try with_reducible rfl
      simp only [List.getElem_toArray, List.getElem_cons_zero, List.getElem_cons_succ, Act.put, List.setIfInBounds_toArray, List.set_cons_zero, List.set_cons_succ]
      refine wpAnyH_take (i := 13) (v := ?_) rfl (by kernel_rfl) (by kernel_rfl) (by kernel_rfl) (fun _ _ _ h => h) (Or.inl ⟨by rfl, ?_⟩) hSS ?_
      rotate_left
      · intro wz hSz
        go_simp
        try with_reducible rfl
      simp only [List.getElem_toArray, List.getElem_cons_zero, List.getElem_cons_succ, Act.put, List.setIfInBounds_toArray, List.set_cons_zero, List.set_cons_succ]
      refine wpAnyH_ready (rs := [14]) (by kernel_rfl) (by simp) (AllReadyH.cons rfl (fun K hK => ?_) AllReadyH.nil)
      go_simp
      refine hK.out _ _ c7 (fun hSS => ?_)
      clear hK
      refine wpAnyH_done (by kernel_rfl) ?_ _
      go_wp2_with fail
      go_ret
      refine ⟨rfl, some ⟨g6, 0, none⟩, c6, hbx7, ?_⟩
      have hbA := ((Below.drew (hb4.mono (Nat.le_of_lt hS))).alloc (Nat.le_of_lt hS2') (.cells #[.slice none 0 0] 93)).grown hg6 (Nat.le_of_lt (Nat.lt_of_lt_of_le hS2' (by simp))) (fun k hk => by cases hk)
      exact hbA.setCell (Nat.le_refl _) _
    · skip
      go_simp
      have hS2 : S < w2.drew.heap.size := hS2'
      have hbx1 := (Below.heap_alloc w2.drew (.cells #[.slice none 0 0] 93) S hS2).trans h2
      have c1 := cell_of_row _ _ 0 _ _ _ hbx1
      have d1 := cell_of_row _ _ 1 _ _ _ hbx1
      refine hK.out _ _ c1 (fun hSS => ?_)
      clear hK
      obtain ⟨g6, c6, w6, hr6, hs6, hg6⟩ := append_one (W := w2.drew.alloc (.cells #[.slice none 0 0] 93)) (Nat.lt_of_lt_of_le hS2 (by simp)) (heap_alloc_new _ _) 50
      have hbx6 := hs6.trans hbx1
      have c6' := cell_of_row _ _ 0 _ _ _ hbx6
      have z6 := cell_of_row _ _ 1 _ _ _ hbx6
      have zf6 : w6.frozen? ⟨S, 1, none⟩ = false := frozen_of_row _ _ _ _ _ hbx6
      have hbx7 := heap_setCell_same _ _ 1 _ _ (.slice (some ⟨g6, 0, none⟩) 1 c6) hbx6
      have c7 := cell_of_row _ _ 0 _ _ _ hbx7
      refine wpAnyH_ready (rs := [4]) (by kernel_rfl) (by simp) (AllReadyH.cons rfl (fun K hK => ?_) AllReadyH.nil)
      go_simp
      refine hK.out _ _ c1 (fun hSS => ?_)
      clear hK
      refine wpAnyH_ready (rs := [11]) (by kernel_rfl) (by simp) (AllReadyH.cons rfl (fun K hK => ?_) AllReadyH.nil)
      refine step_append_any rfl (.tmp 16) (.tmp 22) 50 rfl _ _ rfl rfl hr6 ?_
      refine hK.out _ _ c6' (fun hSS => ?_)
      clear hK
      refine wpAnyH_take (i := 12) (v := ?_) rfl (by kernel_rfl) (by kernel_rfl) (by kernel_rfl) (fun _ _ _ h => h) (Or.inl ⟨by rfl, ?_⟩) hSS ?_
      rotate_left
      · intro wz hSz
        have z0 := hSz
        go_simp
        try with_reducible rfl
      simp only [List.getElem_toArray, List.getElem_cons_zero, List.getElem_cons_succ, Act.put, List.setIfInBounds_toArray, List.set_cons_zero, List.set_cons_succ]
      refine wpAnyH_take (i := 13) (v := ?_) rfl (by kernel_rfl) (by kernel_rfl) (by kernel_rfl) (fun _ _ _ h => h) (Or.inl ⟨by rfl, ?_⟩) hSS ?_
      rotate_left
      · intro wz hSz
        go_simp
        try with_reducible rfl
      simp only [List.getElem_toArray, List.getElem_cons_zero, List.getElem_cons_succ, Act.put, List.setIfInBounds_toArray, List.set_cons_zero, List.set_cons_succ]
      refine wpAnyH_ready (rs := [14]) (by kernel_rfl) (by simp) (AllReadyH.cons rfl (fun K hK => ?_) AllReadyH.nil)
      go_simp
      refine hK.out _ _ c7 (fun hSS => ?_)
      clear hK
      refine wpAnyH_done (by kernel_rfl) ?_ _
      go_wp2_with fail
      go_ret
      refine ⟨rfl, some ⟨g6, 0, none⟩, c6, hbx7, ?_⟩
      have hbA := ((Below.drew (hb4.mono (Nat.le_of_lt hS))).alloc (Nat.le_of_lt hS2') (.cells #[.slice none 0 0] 93)).grown hg6 (Nat.le_of_lt (Nat.lt_of_lt_of_le hS2' (by simp))) (fun k hk => by cases hk)
      exact hbA.setCell (Nat.le_refl _) _
set_option maxRecDepth 100000 in
set_option maxHeartbeats 800000 in
theorem all_later {W : World} {S M : Nat} (h : SBox W S M (.slice none 0 0)) : Calls Try.prog 47 #[.pointer (some ⟨S, 0, none⟩), .agg #[.iface 98 (.agg #[])]] W fun e w' => e = .returned (.tuple #[]) ∧ ∃ a c, SBox w' S M (.slice a 1 c) ∧ Below S W w' := by
  have hS := (Array.getElem?_eq_some_iff.1 h).1
  have h1 : SBox (W.alloc (.cells #[.iface 98 (.agg #[])] 53)) S M (.slice none 0 0) := (Below.heap_alloc W _ S hS).trans h
  have CL : Hid (Calls Try.prog 69 #[.pointer (some ⟨S, 0, none⟩), .agg #[.iface 98 (.agg #[])]] (W.alloc (.cells #[.iface 98 (.agg #[])] 53)) fun e w' => e = .returned (.bool true) ∧ ∃ a c, SBox w' S M (.slice a 1 c) ∧ Below S (W.alloc (.cells #[.iface 98 (.agg #[])] 53)) w') := look_later h1
  go_enter Try.func47, Try.ntmps47
  go_wp2_with fail
  refine CL.out.mono ?_
  rintro e w2 ⟨rfl, a, c, h2, hb2⟩
  have hb3 := ((Below.refl S W).alloc (Nat.le_of_lt hS) (.cells #[.iface 98 (.agg #[])] 53)).trans hb2
  have z2 := cell_of_row _ _ 2 _ _ _ h2
  clear CL h1 hb2
  go_wp2_with fail
  refine wp_loop_rounds 1 ?_
  rw [rounds_succ]
  go_wp2_with fail
  go_end0
  exact ⟨rfl, a, c, h2, hb3⟩
set_option maxRecDepth 100000 in
set_option maxHeartbeats 800000 in
theorem unknown_later (W : World) : Calls Try.prog 24 #[.agg #[.iface 98 (.agg #[])]] W fun e w' => (∃ a c, e = .returned (.slice a 1 c)) ∧ Below W.heap.size W w' := by
  have hmm := @run_makeMap Try.prog
  have hS : SBox (((W.alloc (.cells #[.iface 98 (.agg #[])] 53)).alloc (.map #[] 0)).alloc (.cells #[.slice none 0 0, .slice none 0 0, .slice none 0 0, .map (some (W.heap.size + 1))] 96)) (W.heap.size + 1 + 1) (W.heap.size + 1) (.slice none 0 0) := by
    have := heap_alloc_new ((W.alloc (.cells #[.iface 98 (.agg #[])] 53)).alloc (.map #[] 0)) (.cells #[.slice none 0 0, .slice none 0 0, .slice none 0 0, .map (some (W.heap.size + 1))] 96)
    simpa [SBox] using this
  have hb := (((Below.refl W.heap.size W).alloc (Nat.le_refl _) (.cells #[.iface 98 (.agg #[])] 53)).alloc (by simp) (.map #[] 0)).alloc (by simp; omega) (.cells #[.slice none 0 0, .slice none 0 0, .slice none 0 0, .map (some (W.heap.size + 1))] 96)
  have CA := all_later hS
  have CA : Hid (Calls Try.prog 47 #[.pointer (some ⟨W.heap.size + 1 + 1, 0, none⟩), .agg #[.iface 98 (.agg #[])]] (((W.alloc (.cells #[.iface 98 (.agg #[])] 53)).alloc (.map #[] 0)).alloc (.cells #[.slice none 0 0, .slice none 0 0, .slice none 0 0, .map (some (W.heap.size + 1))] 96)) fun e w' => e = .returned (.tuple #[]) ∧ ∃ a c, SBox w' (W.heap.size + 1 + 1) (W.heap.size + 1) (.slice a 1 c) ∧ Below W.heap.size W w') := by
    refine CA.mono ?_
    rintro e w1 ⟨rfl, a, c, h2, hb2⟩
    exact ⟨rfl, a, c, h2, hb.trans (hb2.mono (by omega))⟩
  clear hS hb
  go_enter Try.func24, Try.ntmps24
  go_wp2_with fail
  refine CA.out.mono ?_
  rintro e w1 ⟨rfl, a, c, h2, hb2⟩
  have z1 := cell_of_row _ _ 1 _ _ _ h2
  go_wp2_with fail
  go_ret
  exact ⟨⟨a, c, rfl⟩, hb2⟩
end Go.Proofs.Ytgknefpefeghcaa
