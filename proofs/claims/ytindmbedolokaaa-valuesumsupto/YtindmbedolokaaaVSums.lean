/- ValueSums, walked: of any two values it answers true. Condition: two values of at most 1048576 values and letters together. -/
import Derived.Test.YtindmbedolokaaaVClean
import Derived.Test.YtindmbedolokaaaVUnlike
import Derived.Test.YtindmbedolokaaaVGreat
import Derived.Test.YtindmbedolokaaaVAwake
import Derived.Test.YtindmbedolokaaaVSame
import Derived.Test.YtindmbedolokaaaVRSame
import Derived.Test.YtindmbedolokaaaVSum
import Derived.Test.YtindmbedolokaaaVTwo
import Derived.Test.YtindmbedolokaaaVRSum
import Derived.Deep.CutRange
namespace Go.Proofs.Ytindmbedolokaaa
open Go.RowKit Go.Maps Go.WideMaps

set_option maxRecDepth 100000 in
set_option maxHeartbeats 25600000 in
theorem sums_law {w : World} {v u : V} {p q : VP} (hv : VIn w (fun _ => True) v p) (hu : VIn w (fun _ => True) u q) (hbk : v.bulk + u.bulk ≤ 1048576) :
    Calls Try.prog 6 #[v.val p, u.val q] w fun e w' => e = .returned (.bool true) ∧ Below w.heap.size w w' := by
  have hvb : v.bulk ≤ 1048576 := by omega
  have hub : u.bulk ≤ 1048576 := by omega
  have G1 : Hid (∀ W, Below w.heap.size w W → Calls Try.prog 8 #[v.val p] W fun e w' => (∃ g : Int, e = .returned (.int .i64 g)) ∧ Below W.heap.size W w') := fun W hW => great_v hv W hW hvb
  have G2 : Hid (∀ W, Below w.heap.size w W → Calls Try.prog 8 #[u.val q] W fun e w' => (∃ g : Int, e = .returned (.int .i64 g)) ∧ Below W.heap.size W w') := fun W hW => great_v hu W hW hub
  have CA : Hid (∀ W, Calls Try.prog 9 #[] W fun e w' => e = .returned (.bool true) ∧ Below W.heap.size W w') := awake4_any
  have C1 : Hid (∀ W, Below w.heap.size w W → Calls Try.prog 10 #[v.val p] W fun e w' => ∃ p', e = .returned (v.clean.val p') ∧ VIn w' (fun b => W.heap.size ≤ b) v.clean p' ∧ Below W.heap.size W w') := fun W hW => clean_any hv W hW hvb
  have C2 : Hid (∀ W, Below w.heap.size w W → Calls Try.prog 10 #[u.val q] W fun e w' => ∃ p', e = .returned (u.clean.val p') ∧ VIn w' (fun b => W.heap.size ≤ b) u.clean p' ∧ Below W.heap.size W w') := fun W hW => clean_any hu W hW hub
  have hx := clean_cl v
  have hy := clean_cl u
  have hxy : v.clean.bulk + u.clean.bulk ≤ 1048576 := by have := clean_bulk v; have := clean_bulk u; omega
  have hB0 := BW.start w v p u q
  have HBC : Hid (∀ W, BW w W v p u q → (W.cell? ⟨w.heap.size, 0, none⟩ = some (.int .i64 v.k) ∧ W.cell? ⟨w.heap.size, 1, none⟩ = some (.bool v.b) ∧ W.cell? ⟨w.heap.size, 2, none⟩ = some (.int .i64 v.n) ∧ W.cell? ⟨w.heap.size, 3, none⟩ = some (.int .i64 v.m) ∧ W.cell? ⟨w.heap.size, 4, none⟩ = some (.string v.s) ∧ W.cell? ⟨w.heap.size, 5, none⟩ = some (.slice p.la v.l.length p.lc) ∧ W.cell? ⟨w.heap.size, 6, none⟩ = some (.slice p.ka v.keys.length p.kc)) ∧ (W.cell? ⟨w.heap.size + 1, 0, none⟩ = some (.int .i64 u.k) ∧ W.cell? ⟨w.heap.size + 1, 1, none⟩ = some (.bool u.b) ∧ W.cell? ⟨w.heap.size + 1, 2, none⟩ = some (.int .i64 u.n) ∧ W.cell? ⟨w.heap.size + 1, 3, none⟩ = some (.int .i64 u.m) ∧ W.cell? ⟨w.heap.size + 1, 4, none⟩ = some (.string u.s) ∧ W.cell? ⟨w.heap.size + 1, 5, none⟩ = some (.slice q.la u.l.length q.lc) ∧ W.cell? ⟨w.heap.size + 1, 6, none⟩ = some (.slice q.ka u.keys.length q.kc))) := fun W hB => ⟨box_cells hB.1, box_cells hB.2.1⟩
  clear hv hu hbk hvb hub
  generalize v.clean = x at *
  generalize u.clean = y at *
  unfold V.val at G1 G2 C1 C2 ⊢
  obtain ⟨⟨k0, k1, k2, k3, k4, k5, k6⟩, ⟨l0, l1, l2, l3, l4, l5, l6⟩⟩ := HBC.out _ hB0
  unfold V.box at hB0 k0 k1 k2 k3 k4 k5 k6 l0 l1 l2 l3 l4 l5 l6
  go_enter Try.func6, Try.ntmps6
  go_wp2_with fail
  refine (G1.out _ hB0.2.2).mono ?_
  rintro e w1 ⟨⟨g1, rfl⟩, hb1⟩
  have hB1 := BW.below hB0 hb1
  clear k0 k1 k2 k3 k4 k5 k6 l0 l1 l2 l3 l4 l5 l6 G1 hb1 hB0
  obtain ⟨⟨k0, k1, k2, k3, k4, k5, k6⟩, ⟨l0, l1, l2, l3, l4, l5, l6⟩⟩ := HBC.out _ hB1
  by_cases hg1 : 0 < g1
  · clear C1 C2 HBC G2
    go_wp2_with fail
    refine (CA.out _).mono ?_
    rintro e w3 ⟨rfl, hb3⟩
    go_wp2_with fail
    go_ret
    exact ⟨rfl, (hB1.below hb3).2.2⟩
  · go_wp2_with fail
    refine (G2.out _ hB1.2.2).mono ?_
    rintro e w2 ⟨⟨g2, rfl⟩, hb2⟩
    have hB2 := BW.below hB1 hb2
    clear k0 k1 k2 k3 k4 k5 k6 l0 l1 l2 l3 l4 l5 l6 G2 hb2 hB1
    obtain ⟨⟨k0, k1, k2, k3, k4, k5, k6⟩, ⟨l0, l1, l2, l3, l4, l5, l6⟩⟩ := HBC.out _ hB2
    by_cases hg2 : 0 < g2
    · clear C1 C2 HBC
      go_wp2_with fail
      refine (CA.out _).mono ?_
      rintro e w3 ⟨rfl, hb3⟩
      go_wp2_with fail
      go_ret
      exact ⟨rfl, (hB2.below hb3).2.2⟩
    · go_wp2_with fail
      refine (CA.out _).mono ?_
      rintro e w3 ⟨rfl, hb3⟩
      have hB3 := BW.below hB2 hb3
      clear k0 k1 k2 k3 k4 k5 k6 l0 l1 l2 l3 l4 l5 l6 hb3 hB2 CA
      go_wp2_with fail
      go_cut [5, 6] from 28 to 31 (fun s5 s6 wx => Two w wx x y s5 s6)
      case first =>
        refine wp_region_held_drew (S := fun w' => BW w w' v p u q) (by kernel_rfl) hB3.drew (fun hSS => ?_)
        refine wpAnyH_take (i := 0) (v := ?_) rfl (by kernel_rfl) (by kernel_rfl) (by kernel_rfl) (fun _ _ _ h => h) (Or.inl ⟨by rfl, ?_⟩) hSS ?_
        rotate_left
        · intro wz hSz
          obtain ⟨⟨k0, k1, k2, k3, k4, k5, k6⟩, ⟨l0, l1, l2, l3, l4, l5, l6⟩⟩ := HBC.out _ hSz
          go_simp
          try with_reducible rfl
        simp only [List.getElem_toArray, List.getElem_cons_zero, Act.put, List.setIfInBounds_toArray, List.set_cons_zero, List.set_cons_succ]
        refine wpAnyH_take (i := 2) (v := ?_) rfl (by kernel_rfl) (by kernel_rfl) (by kernel_rfl) (fun _ _ _ h => h) (Or.inl ⟨by rfl, ?_⟩) hSS ?_
        rotate_left
        · intro wz hSz
          obtain ⟨⟨k0, k1, k2, k3, k4, k5, k6⟩, ⟨l0, l1, l2, l3, l4, l5, l6⟩⟩ := HBC.out _ hSz
          go_simp
          try with_reducible rfl
        simp only [List.getElem_toArray, List.getElem_cons_zero, List.getElem_cons_succ, Act.put, List.setIfInBounds_toArray, List.set_cons_zero, List.set_cons_succ]
        generalize w3.drew = W0 at *
        have hz0 := hSS.lt
        clear hB3 HBC
        refine wpAnyH_ready (rs := [1, 4, 5]) (by kernel_rfl) (by simp) (AllReadyH.cons rfl (fun K1 hK1 => ?_) (AllReadyH.cons rfl (fun K1 hK1 => ?_) (AllReadyH.cons rfl (fun K1 hK1 => ?_) AllReadyH.nil)))
        · refine step_plain (by rfl) ?_
          simp only [List.getElem_toArray, List.getElem_cons_zero, List.getElem_cons_succ]
          go_simp
          go_at_call 10
          refine (C1.out _ hSS.2.2).mono ?_
          rintro e W1 ⟨xp, rfl, hX, hbn⟩
          replace hX := hX.mono (ok' := fun b => W0.heap.size ≤ b ∧ b < W1.heap.size) (fun _ h1 h2 => ⟨h1, h2⟩)
          have hz1 := hbn.size
          go_simp
          refine hK1.out _ _ (hSS.below hbn) (fun hSS => ?_)
          clear hbn hK1
          refine wpAnyH_ready (rs := [3, 4, 5]) (by kernel_rfl) (by simp) (AllReadyH.cons rfl (fun K2 hK2 => ?_) (AllReadyH.cons rfl (fun K2 hK2 => ?_) (AllReadyH.cons rfl (fun K2 hK2 => ?_) AllReadyH.nil)))
          · refine step_plain (by rfl) ?_
            simp only [List.getElem_toArray, List.getElem_cons_zero, List.getElem_cons_succ]
            go_simp
            go_at_call 10
            refine (C2.out _ hSS.2.2).mono ?_
            rintro e W2 ⟨yp, rfl, hY, hbn⟩
            replace hX := hX.stays hbn
            replace hY := hY.mono (ok' := fun b => W1.heap.size ≤ b ∧ b < W2.heap.size) (fun _ h1 h2 => ⟨h1, h2⟩)
            have hz2 := hbn.size
            go_simp
            refine hK2.out _ _ (hSS.below hbn) (fun hSS => ?_)
            clear hbn hK2
            refine wpAnyH_ready (rs := [4, 5]) (by kernel_rfl) (by simp) (AllReadyH.cons rfl (fun K3 hK3 => ?_) (AllReadyH.cons rfl (fun K3 hK3 => ?_) AllReadyH.nil))
            · refine step_plain (by rfl) ?_
              simp only [List.getElem_toArray, List.getElem_cons_zero, List.getElem_cons_succ]
              go_simp
              have hbn : Below W2.heap.size W2 (W2.alloc (.cells #[.int .i64 0, .bool false, .int .i64 0, .int .i64 0, .string { data := #[] }, .slice none 0 0, .slice none 0 0] 25)) := (Below.refl _ _).alloc (Nat.le_refl _) _
              have hA := heap_alloc_new W2 (.cells #[.int .i64 0, .bool false, .int .i64 0, .int .i64 0, .string { data := #[] }, .slice none 0 0, .slice none 0 0] 25)
              replace hX := hX.stays hbn
              replace hY := hY.stays hbn
              have hz3 : W2.heap.size < (W2.alloc (.cells #[.int .i64 0, .bool false, .int .i64 0, .int .i64 0, .string { data := #[] }, .slice none 0 0, .slice none 0 0] 25)).heap.size := by simp
              refine hK3.out _ _ (hSS.below hbn) (fun hSS => ?_)
              clear hbn hK3
              generalize W2.alloc (.cells #[.int .i64 0, .bool false, .int .i64 0, .int .i64 0, .string { data := #[] }, .slice none 0 0, .slice none 0 0] 25) = W3 at *
              refine wpAnyH_ready (rs := [5]) (by kernel_rfl) (by simp) (AllReadyH.cons rfl (fun K4 hK4 => ?_) AllReadyH.nil)
              refine step_plain (by rfl) ?_
              simp only [List.getElem_toArray, List.getElem_cons_zero, List.getElem_cons_succ]
              go_simp
              have hbn : Below W3.heap.size W3 (W3.alloc (.cells #[.int .i64 0, .bool false, .int .i64 0, .int .i64 0, .string { data := #[] }, .slice none 0 0, .slice none 0 0] 25)) := (Below.refl _ _).alloc (Nat.le_refl _) _
              have hB := heap_alloc_new W3 (.cells #[.int .i64 0, .bool false, .int .i64 0, .int .i64 0, .string { data := #[] }, .slice none 0 0, .slice none 0 0] 25)
              replace hX := hX.stays hbn
              replace hY := hY.stays hbn
              replace hA := (hbn.block _ (Array.getElem?_eq_some_iff.1 hA).1).trans hA
              have hz4 : W3.heap.size < (W3.alloc (.cells #[.int .i64 0, .bool false, .int .i64 0, .int .i64 0, .string { data := #[] }, .slice none 0 0, .slice none 0 0] 25)).heap.size := by simp
              refine hK4.out _ _ (hSS.below hbn) (fun hSS => ?_)
              clear hbn hK4
              generalize W3.alloc (.cells #[.int .i64 0, .bool false, .int .i64 0, .int .i64 0, .string { data := #[] }, .slice none 0 0, .slice none 0 0] 25) = W4 at *
              have hTwo := Two.mk (A := W2.heap.size) (B := W3.heap.size) hSS hA hB hX hY (by omega) (by omega) (by omega) (fun b hb => by omega) (fun b hb => by omega)
              have hS6 := BW.set hSS (B := W2.heap.size) (by omega) x xp
              have hS7 := BW.set hS6 (B := W3.heap.size) (by omega) y yp
              have hB6 := (setBox_other W4 (W2.heap.size) x xp (W3.heap.size) (by omega)).trans hB
              refine wpAnyH_ready (rs := [6]) (by kernel_rfl) (by simp) (AllReadyH.cons rfl (fun K5 hK5 => ?_) AllReadyH.nil)
              refine step_setbox (by rfl) _ _ (by rfl) (by rfl) (B := W2.heap.size) (v := x) (p := xp) (by rfl) (by rfl) hA ?_
              refine hK5.out _ _ hS6 (fun hSS6 => ?_)
              clear hS6 hK5
              generalize setBox W4 (W2.heap.size) x xp = WB at *
              refine wpAnyH_ready (rs := [7]) (by kernel_rfl) (by simp) (AllReadyH.cons rfl (fun K6 hK6 => ?_) AllReadyH.nil)
              refine step_setbox (by rfl) _ _ (by rfl) (by rfl) (B := W3.heap.size) (v := y) (p := yp) (by rfl) (by rfl) hB6 ?_
              refine hK6.out _ _ hS7 (fun hSS7 => ?_)
              clear hS7 hK6
              generalize setBox WB (W3.heap.size) y yp = WC at *
              refine wpAnyH_done (by kernel_rfl) ?_ _
              go_wp2_with fail
              go_meet
              exact hTwo
            · refine step_plain (by rfl) ?_
              simp only [List.getElem_toArray, List.getElem_cons_zero, List.getElem_cons_succ]
              go_simp
              have hbn : Below W2.heap.size W2 (W2.alloc (.cells #[.int .i64 0, .bool false, .int .i64 0, .int .i64 0, .string { data := #[] }, .slice none 0 0, .slice none 0 0] 25)) := (Below.refl _ _).alloc (Nat.le_refl _) _
              have hB := heap_alloc_new W2 (.cells #[.int .i64 0, .bool false, .int .i64 0, .int .i64 0, .string { data := #[] }, .slice none 0 0, .slice none 0 0] 25)
              replace hX := hX.stays hbn
              replace hY := hY.stays hbn
              have hz3 : W2.heap.size < (W2.alloc (.cells #[.int .i64 0, .bool false, .int .i64 0, .int .i64 0, .string { data := #[] }, .slice none 0 0, .slice none 0 0] 25)).heap.size := by simp
              refine hK3.out _ _ (hSS.below hbn) (fun hSS => ?_)
              clear hbn hK3
              generalize W2.alloc (.cells #[.int .i64 0, .bool false, .int .i64 0, .int .i64 0, .string { data := #[] }, .slice none 0 0, .slice none 0 0] 25) = W3 at *
              refine wpAnyH_ready (rs := [4]) (by kernel_rfl) (by simp) (AllReadyH.cons rfl (fun K4 hK4 => ?_) AllReadyH.nil)
              refine step_plain (by rfl) ?_
              simp only [List.getElem_toArray, List.getElem_cons_zero, List.getElem_cons_succ]
              go_simp
              have hbn : Below W3.heap.size W3 (W3.alloc (.cells #[.int .i64 0, .bool false, .int .i64 0, .int .i64 0, .string { data := #[] }, .slice none 0 0, .slice none 0 0] 25)) := (Below.refl _ _).alloc (Nat.le_refl _) _
              have hA := heap_alloc_new W3 (.cells #[.int .i64 0, .bool false, .int .i64 0, .int .i64 0, .string { data := #[] }, .slice none 0 0, .slice none 0 0] 25)
              replace hX := hX.stays hbn
              replace hY := hY.stays hbn
              replace hB := (hbn.block _ (Array.getElem?_eq_some_iff.1 hB).1).trans hB
              have hz4 : W3.heap.size < (W3.alloc (.cells #[.int .i64 0, .bool false, .int .i64 0, .int .i64 0, .string { data := #[] }, .slice none 0 0, .slice none 0 0] 25)).heap.size := by simp
              refine hK4.out _ _ (hSS.below hbn) (fun hSS => ?_)
              clear hbn hK4
              generalize W3.alloc (.cells #[.int .i64 0, .bool false, .int .i64 0, .int .i64 0, .string { data := #[] }, .slice none 0 0, .slice none 0 0] 25) = W4 at *
              have hTwo := Two.mk (A := W3.heap.size) (B := W2.heap.size) hSS hA hB hX hY (by omega) (by omega) (by omega) (fun b hb => by omega) (fun b hb => by omega)
              have hS6 := BW.set hSS (B := W3.heap.size) (by omega) x xp
              have hS7 := BW.set hS6 (B := W2.heap.size) (by omega) y yp
              have hB6 := (setBox_other W4 (W3.heap.size) x xp (W2.heap.size) (by omega)).trans hB
              refine wpAnyH_ready (rs := [6]) (by kernel_rfl) (by simp) (AllReadyH.cons rfl (fun K5 hK5 => ?_) AllReadyH.nil)
              refine step_setbox (by rfl) _ _ (by rfl) (by rfl) (B := W3.heap.size) (v := x) (p := xp) (by rfl) (by rfl) hA ?_
              refine hK5.out _ _ hS6 (fun hSS6 => ?_)
              clear hS6 hK5
              generalize setBox W4 (W3.heap.size) x xp = WB at *
              refine wpAnyH_ready (rs := [7]) (by kernel_rfl) (by simp) (AllReadyH.cons rfl (fun K6 hK6 => ?_) AllReadyH.nil)
              refine step_setbox (by rfl) _ _ (by rfl) (by rfl) (B := W2.heap.size) (v := y) (p := yp) (by rfl) (by rfl) hB6 ?_
              refine hK6.out _ _ hS7 (fun hSS7 => ?_)
              clear hS7 hK6
              generalize setBox WB (W2.heap.size) y yp = WC at *
              refine wpAnyH_done (by kernel_rfl) ?_ _
              go_wp2_with fail
              go_meet
              exact hTwo
          · refine step_plain (by rfl) ?_
            simp only [List.getElem_toArray, List.getElem_cons_zero, List.getElem_cons_succ]
            go_simp
            have hbn : Below W1.heap.size W1 (W1.alloc (.cells #[.int .i64 0, .bool false, .int .i64 0, .int .i64 0, .string { data := #[] }, .slice none 0 0, .slice none 0 0] 25)) := (Below.refl _ _).alloc (Nat.le_refl _) _
            have hA := heap_alloc_new W1 (.cells #[.int .i64 0, .bool false, .int .i64 0, .int .i64 0, .string { data := #[] }, .slice none 0 0, .slice none 0 0] 25)
            replace hX := hX.stays hbn
            have hz2 : W1.heap.size < (W1.alloc (.cells #[.int .i64 0, .bool false, .int .i64 0, .int .i64 0, .string { data := #[] }, .slice none 0 0, .slice none 0 0] 25)).heap.size := by simp
            refine hK2.out _ _ (hSS.below hbn) (fun hSS => ?_)
            clear hbn hK2
            generalize W1.alloc (.cells #[.int .i64 0, .bool false, .int .i64 0, .int .i64 0, .string { data := #[] }, .slice none 0 0, .slice none 0 0] 25) = W2 at *
            refine wpAnyH_ready (rs := [3, 5]) (by kernel_rfl) (by simp) (AllReadyH.cons rfl (fun K3 hK3 => ?_) (AllReadyH.cons rfl (fun K3 hK3 => ?_) AllReadyH.nil))
            · refine step_plain (by rfl) ?_
              simp only [List.getElem_toArray, List.getElem_cons_zero, List.getElem_cons_succ]
              go_simp
              go_at_call 10
              refine (C2.out _ hSS.2.2).mono ?_
              rintro e W3 ⟨yp, rfl, hY, hbn⟩
              replace hX := hX.stays hbn
              replace hA := (hbn.block _ (Array.getElem?_eq_some_iff.1 hA).1).trans hA
              replace hY := hY.mono (ok' := fun b => W2.heap.size ≤ b ∧ b < W3.heap.size) (fun _ h1 h2 => ⟨h1, h2⟩)
              have hz3 := hbn.size
              go_simp
              refine hK3.out _ _ (hSS.below hbn) (fun hSS => ?_)
              clear hbn hK3
              refine wpAnyH_ready (rs := [5]) (by kernel_rfl) (by simp) (AllReadyH.cons rfl (fun K4 hK4 => ?_) AllReadyH.nil)
              refine step_plain (by rfl) ?_
              simp only [List.getElem_toArray, List.getElem_cons_zero, List.getElem_cons_succ]
              go_simp
              have hbn : Below W3.heap.size W3 (W3.alloc (.cells #[.int .i64 0, .bool false, .int .i64 0, .int .i64 0, .string { data := #[] }, .slice none 0 0, .slice none 0 0] 25)) := (Below.refl _ _).alloc (Nat.le_refl _) _
              have hB := heap_alloc_new W3 (.cells #[.int .i64 0, .bool false, .int .i64 0, .int .i64 0, .string { data := #[] }, .slice none 0 0, .slice none 0 0] 25)
              replace hX := hX.stays hbn
              replace hA := (hbn.block _ (Array.getElem?_eq_some_iff.1 hA).1).trans hA
              replace hY := hY.stays hbn
              have hz4 : W3.heap.size < (W3.alloc (.cells #[.int .i64 0, .bool false, .int .i64 0, .int .i64 0, .string { data := #[] }, .slice none 0 0, .slice none 0 0] 25)).heap.size := by simp
              refine hK4.out _ _ (hSS.below hbn) (fun hSS => ?_)
              clear hbn hK4
              generalize W3.alloc (.cells #[.int .i64 0, .bool false, .int .i64 0, .int .i64 0, .string { data := #[] }, .slice none 0 0, .slice none 0 0] 25) = W4 at *
              have hTwo := Two.mk (A := W1.heap.size) (B := W3.heap.size) hSS hA hB hX hY (by omega) (by omega) (by omega) (fun b hb => by omega) (fun b hb => by omega)
              have hS6 := BW.set hSS (B := W1.heap.size) (by omega) x xp
              have hS7 := BW.set hS6 (B := W3.heap.size) (by omega) y yp
              have hB6 := (setBox_other W4 (W1.heap.size) x xp (W3.heap.size) (by omega)).trans hB
              refine wpAnyH_ready (rs := [6]) (by kernel_rfl) (by simp) (AllReadyH.cons rfl (fun K5 hK5 => ?_) AllReadyH.nil)
              refine step_setbox (by rfl) _ _ (by rfl) (by rfl) (B := W1.heap.size) (v := x) (p := xp) (by rfl) (by rfl) hA ?_
              refine hK5.out _ _ hS6 (fun hSS6 => ?_)
              clear hS6 hK5
              generalize setBox W4 (W1.heap.size) x xp = WB at *
              refine wpAnyH_ready (rs := [7]) (by kernel_rfl) (by simp) (AllReadyH.cons rfl (fun K6 hK6 => ?_) AllReadyH.nil)
              refine step_setbox (by rfl) _ _ (by rfl) (by rfl) (B := W3.heap.size) (v := y) (p := yp) (by rfl) (by rfl) hB6 ?_
              refine hK6.out _ _ hS7 (fun hSS7 => ?_)
              clear hS7 hK6
              generalize setBox WB (W3.heap.size) y yp = WC at *
              refine wpAnyH_done (by kernel_rfl) ?_ _
              go_wp2_with fail
              go_meet
              exact hTwo
            · refine step_plain (by rfl) ?_
              simp only [List.getElem_toArray, List.getElem_cons_zero, List.getElem_cons_succ]
              go_simp
              have hbn : Below W2.heap.size W2 (W2.alloc (.cells #[.int .i64 0, .bool false, .int .i64 0, .int .i64 0, .string { data := #[] }, .slice none 0 0, .slice none 0 0] 25)) := (Below.refl _ _).alloc (Nat.le_refl _) _
              have hB := heap_alloc_new W2 (.cells #[.int .i64 0, .bool false, .int .i64 0, .int .i64 0, .string { data := #[] }, .slice none 0 0, .slice none 0 0] 25)
              replace hX := hX.stays hbn
              replace hA := (hbn.block _ (Array.getElem?_eq_some_iff.1 hA).1).trans hA
              have hz3 : W2.heap.size < (W2.alloc (.cells #[.int .i64 0, .bool false, .int .i64 0, .int .i64 0, .string { data := #[] }, .slice none 0 0, .slice none 0 0] 25)).heap.size := by simp
              refine hK3.out _ _ (hSS.below hbn) (fun hSS => ?_)
              clear hbn hK3
              generalize W2.alloc (.cells #[.int .i64 0, .bool false, .int .i64 0, .int .i64 0, .string { data := #[] }, .slice none 0 0, .slice none 0 0] 25) = W3 at *
              refine wpAnyH_ready (rs := [3]) (by kernel_rfl) (by simp) (AllReadyH.cons rfl (fun K4 hK4 => ?_) AllReadyH.nil)
              refine step_plain (by rfl) ?_
              simp only [List.getElem_toArray, List.getElem_cons_zero, List.getElem_cons_succ]
              go_simp
              go_at_call 10
              refine (C2.out _ hSS.2.2).mono ?_
              rintro e W4 ⟨yp, rfl, hY, hbn⟩
              replace hX := hX.stays hbn
              replace hA := (hbn.block _ (Array.getElem?_eq_some_iff.1 hA).1).trans hA
              replace hB := (hbn.block _ (Array.getElem?_eq_some_iff.1 hB).1).trans hB
              replace hY := hY.mono (ok' := fun b => W3.heap.size ≤ b ∧ b < W4.heap.size) (fun _ h1 h2 => ⟨h1, h2⟩)
              have hz4 := hbn.size
              go_simp
              refine hK4.out _ _ (hSS.below hbn) (fun hSS => ?_)
              clear hbn hK4
              have hTwo := Two.mk (A := W1.heap.size) (B := W2.heap.size) hSS hA hB hX hY (by omega) (by omega) (by omega) (fun b hb => by omega) (fun b hb => by omega)
              have hS6 := BW.set hSS (B := W1.heap.size) (by omega) x xp
              have hS7 := BW.set hS6 (B := W2.heap.size) (by omega) y yp
              have hB6 := (setBox_other W4 (W1.heap.size) x xp (W2.heap.size) (by omega)).trans hB
              refine wpAnyH_ready (rs := [6]) (by kernel_rfl) (by simp) (AllReadyH.cons rfl (fun K5 hK5 => ?_) AllReadyH.nil)
              refine step_setbox (by rfl) _ _ (by rfl) (by rfl) (B := W1.heap.size) (v := x) (p := xp) (by rfl) (by rfl) hA ?_
              refine hK5.out _ _ hS6 (fun hSS6 => ?_)
              clear hS6 hK5
              generalize setBox W4 (W1.heap.size) x xp = WB at *
              refine wpAnyH_ready (rs := [7]) (by kernel_rfl) (by simp) (AllReadyH.cons rfl (fun K6 hK6 => ?_) AllReadyH.nil)
              refine step_setbox (by rfl) _ _ (by rfl) (by rfl) (B := W2.heap.size) (v := y) (p := yp) (by rfl) (by rfl) hB6 ?_
              refine hK6.out _ _ hS7 (fun hSS7 => ?_)
              clear hS7 hK6
              generalize setBox WB (W2.heap.size) y yp = WC at *
              refine wpAnyH_done (by kernel_rfl) ?_ _
              go_wp2_with fail
              go_meet
              exact hTwo
          · refine step_plain (by rfl) ?_
            simp only [List.getElem_toArray, List.getElem_cons_zero, List.getElem_cons_succ]
            go_simp
            have hbn : Below W1.heap.size W1 (W1.alloc (.cells #[.int .i64 0, .bool false, .int .i64 0, .int .i64 0, .string { data := #[] }, .slice none 0 0, .slice none 0 0] 25)) := (Below.refl _ _).alloc (Nat.le_refl _) _
            have hB := heap_alloc_new W1 (.cells #[.int .i64 0, .bool false, .int .i64 0, .int .i64 0, .string { data := #[] }, .slice none 0 0, .slice none 0 0] 25)
            replace hX := hX.stays hbn
            have hz2 : W1.heap.size < (W1.alloc (.cells #[.int .i64 0, .bool false, .int .i64 0, .int .i64 0, .string { data := #[] }, .slice none 0 0, .slice none 0 0] 25)).heap.size := by simp
            refine hK2.out _ _ (hSS.below hbn) (fun hSS => ?_)
            clear hbn hK2
            generalize W1.alloc (.cells #[.int .i64 0, .bool false, .int .i64 0, .int .i64 0, .string { data := #[] }, .slice none 0 0, .slice none 0 0] 25) = W2 at *
            refine wpAnyH_ready (rs := [3, 4]) (by kernel_rfl) (by simp) (AllReadyH.cons rfl (fun K3 hK3 => ?_) (AllReadyH.cons rfl (fun K3 hK3 => ?_) AllReadyH.nil))
            · refine step_plain (by rfl) ?_
              simp only [List.getElem_toArray, List.getElem_cons_zero, List.getElem_cons_succ]
              go_simp
              go_at_call 10
              refine (C2.out _ hSS.2.2).mono ?_
              rintro e W3 ⟨yp, rfl, hY, hbn⟩
              replace hX := hX.stays hbn
              replace hB := (hbn.block _ (Array.getElem?_eq_some_iff.1 hB).1).trans hB
              replace hY := hY.mono (ok' := fun b => W2.heap.size ≤ b ∧ b < W3.heap.size) (fun _ h1 h2 => ⟨h1, h2⟩)
              have hz3 := hbn.size
              go_simp
              refine hK3.out _ _ (hSS.below hbn) (fun hSS => ?_)
              clear hbn hK3
              refine wpAnyH_ready (rs := [4]) (by kernel_rfl) (by simp) (AllReadyH.cons rfl (fun K4 hK4 => ?_) AllReadyH.nil)
              refine step_plain (by rfl) ?_
              simp only [List.getElem_toArray, List.getElem_cons_zero, List.getElem_cons_succ]
              go_simp
              have hbn : Below W3.heap.size W3 (W3.alloc (.cells #[.int .i64 0, .bool false, .int .i64 0, .int .i64 0, .string { data := #[] }, .slice none 0 0, .slice none 0 0] 25)) := (Below.refl _ _).alloc (Nat.le_refl _) _
              have hA := heap_alloc_new W3 (.cells #[.int .i64 0, .bool false, .int .i64 0, .int .i64 0, .string { data := #[] }, .slice none 0 0, .slice none 0 0] 25)
              replace hX := hX.stays hbn
              replace hB := (hbn.block _ (Array.getElem?_eq_some_iff.1 hB).1).trans hB
              replace hY := hY.stays hbn
              have hz4 : W3.heap.size < (W3.alloc (.cells #[.int .i64 0, .bool false, .int .i64 0, .int .i64 0, .string { data := #[] }, .slice none 0 0, .slice none 0 0] 25)).heap.size := by simp
              refine hK4.out _ _ (hSS.below hbn) (fun hSS => ?_)
              clear hbn hK4
              generalize W3.alloc (.cells #[.int .i64 0, .bool false, .int .i64 0, .int .i64 0, .string { data := #[] }, .slice none 0 0, .slice none 0 0] 25) = W4 at *
              have hTwo := Two.mk (A := W3.heap.size) (B := W1.heap.size) hSS hA hB hX hY (by omega) (by omega) (by omega) (fun b hb => by omega) (fun b hb => by omega)
              have hS6 := BW.set hSS (B := W3.heap.size) (by omega) x xp
              have hS7 := BW.set hS6 (B := W1.heap.size) (by omega) y yp
              have hB6 := (setBox_other W4 (W3.heap.size) x xp (W1.heap.size) (by omega)).trans hB
              refine wpAnyH_ready (rs := [6]) (by kernel_rfl) (by simp) (AllReadyH.cons rfl (fun K5 hK5 => ?_) AllReadyH.nil)
              refine step_setbox (by rfl) _ _ (by rfl) (by rfl) (B := W3.heap.size) (v := x) (p := xp) (by rfl) (by rfl) hA ?_
              refine hK5.out _ _ hS6 (fun hSS6 => ?_)
              clear hS6 hK5
              generalize setBox W4 (W3.heap.size) x xp = WB at *
              refine wpAnyH_ready (rs := [7]) (by kernel_rfl) (by simp) (AllReadyH.cons rfl (fun K6 hK6 => ?_) AllReadyH.nil)
              refine step_setbox (by rfl) _ _ (by rfl) (by rfl) (B := W1.heap.size) (v := y) (p := yp) (by rfl) (by rfl) hB6 ?_
              refine hK6.out _ _ hS7 (fun hSS7 => ?_)
              clear hS7 hK6
              generalize setBox WB (W1.heap.size) y yp = WC at *
              refine wpAnyH_done (by kernel_rfl) ?_ _
              go_wp2_with fail
              go_meet
              exact hTwo
            · refine step_plain (by rfl) ?_
              simp only [List.getElem_toArray, List.getElem_cons_zero, List.getElem_cons_succ]
              go_simp
              have hbn : Below W2.heap.size W2 (W2.alloc (.cells #[.int .i64 0, .bool false, .int .i64 0, .int .i64 0, .string { data := #[] }, .slice none 0 0, .slice none 0 0] 25)) := (Below.refl _ _).alloc (Nat.le_refl _) _
              have hA := heap_alloc_new W2 (.cells #[.int .i64 0, .bool false, .int .i64 0, .int .i64 0, .string { data := #[] }, .slice none 0 0, .slice none 0 0] 25)
              replace hX := hX.stays hbn
              replace hB := (hbn.block _ (Array.getElem?_eq_some_iff.1 hB).1).trans hB
              have hz3 : W2.heap.size < (W2.alloc (.cells #[.int .i64 0, .bool false, .int .i64 0, .int .i64 0, .string { data := #[] }, .slice none 0 0, .slice none 0 0] 25)).heap.size := by simp
              refine hK3.out _ _ (hSS.below hbn) (fun hSS => ?_)
              clear hbn hK3
              generalize W2.alloc (.cells #[.int .i64 0, .bool false, .int .i64 0, .int .i64 0, .string { data := #[] }, .slice none 0 0, .slice none 0 0] 25) = W3 at *
              refine wpAnyH_ready (rs := [3]) (by kernel_rfl) (by simp) (AllReadyH.cons rfl (fun K4 hK4 => ?_) AllReadyH.nil)
              refine step_plain (by rfl) ?_
              simp only [List.getElem_toArray, List.getElem_cons_zero, List.getElem_cons_succ]
              go_simp
              go_at_call 10
              refine (C2.out _ hSS.2.2).mono ?_
              rintro e W4 ⟨yp, rfl, hY, hbn⟩
              replace hX := hX.stays hbn
              replace hB := (hbn.block _ (Array.getElem?_eq_some_iff.1 hB).1).trans hB
              replace hA := (hbn.block _ (Array.getElem?_eq_some_iff.1 hA).1).trans hA
              replace hY := hY.mono (ok' := fun b => W3.heap.size ≤ b ∧ b < W4.heap.size) (fun _ h1 h2 => ⟨h1, h2⟩)
              have hz4 := hbn.size
              go_simp
              refine hK4.out _ _ (hSS.below hbn) (fun hSS => ?_)
              clear hbn hK4
              have hTwo := Two.mk (A := W2.heap.size) (B := W1.heap.size) hSS hA hB hX hY (by omega) (by omega) (by omega) (fun b hb => by omega) (fun b hb => by omega)
              have hS6 := BW.set hSS (B := W2.heap.size) (by omega) x xp
              have hS7 := BW.set hS6 (B := W1.heap.size) (by omega) y yp
              have hB6 := (setBox_other W4 (W2.heap.size) x xp (W1.heap.size) (by omega)).trans hB
              refine wpAnyH_ready (rs := [6]) (by kernel_rfl) (by simp) (AllReadyH.cons rfl (fun K5 hK5 => ?_) AllReadyH.nil)
              refine step_setbox (by rfl) _ _ (by rfl) (by rfl) (B := W2.heap.size) (v := x) (p := xp) (by rfl) (by rfl) hA ?_
              refine hK5.out _ _ hS6 (fun hSS6 => ?_)
              clear hS6 hK5
              generalize setBox W4 (W2.heap.size) x xp = WB at *
              refine wpAnyH_ready (rs := [7]) (by kernel_rfl) (by simp) (AllReadyH.cons rfl (fun K6 hK6 => ?_) AllReadyH.nil)
              refine step_setbox (by rfl) _ _ (by rfl) (by rfl) (B := W1.heap.size) (v := y) (p := yp) (by rfl) (by rfl) hB6 ?_
              refine hK6.out _ _ hS7 (fun hSS7 => ?_)
              clear hS7 hK6
              generalize setBox WB (W1.heap.size) y yp = WC at *
              refine wpAnyH_done (by kernel_rfl) ?_ _
              go_wp2_with fail
              go_meet
              exact hTwo
        · refine step_plain (by rfl) ?_
          simp only [List.getElem_toArray, List.getElem_cons_zero, List.getElem_cons_succ]
          go_simp
          have hbn : Below W0.heap.size W0 (W0.alloc (.cells #[.int .i64 0, .bool false, .int .i64 0, .int .i64 0, .string { data := #[] }, .slice none 0 0, .slice none 0 0] 25)) := (Below.refl _ _).alloc (Nat.le_refl _) _
          have hA := heap_alloc_new W0 (.cells #[.int .i64 0, .bool false, .int .i64 0, .int .i64 0, .string { data := #[] }, .slice none 0 0, .slice none 0 0] 25)
          have hz1 : W0.heap.size < (W0.alloc (.cells #[.int .i64 0, .bool false, .int .i64 0, .int .i64 0, .string { data := #[] }, .slice none 0 0, .slice none 0 0] 25)).heap.size := by simp
          refine hK1.out _ _ (hSS.below hbn) (fun hSS => ?_)
          clear hbn hK1
          generalize W0.alloc (.cells #[.int .i64 0, .bool false, .int .i64 0, .int .i64 0, .string { data := #[] }, .slice none 0 0, .slice none 0 0] 25) = W1 at *
          refine wpAnyH_ready (rs := [1, 5]) (by kernel_rfl) (by simp) (AllReadyH.cons rfl (fun K2 hK2 => ?_) (AllReadyH.cons rfl (fun K2 hK2 => ?_) AllReadyH.nil))
          · refine step_plain (by rfl) ?_
            simp only [List.getElem_toArray, List.getElem_cons_zero, List.getElem_cons_succ]
            go_simp
            go_at_call 10
            refine (C1.out _ hSS.2.2).mono ?_
            rintro e W2 ⟨xp, rfl, hX, hbn⟩
            replace hA := (hbn.block _ (Array.getElem?_eq_some_iff.1 hA).1).trans hA
            replace hX := hX.mono (ok' := fun b => W1.heap.size ≤ b ∧ b < W2.heap.size) (fun _ h1 h2 => ⟨h1, h2⟩)
            have hz2 := hbn.size
            go_simp
            refine hK2.out _ _ (hSS.below hbn) (fun hSS => ?_)
            clear hbn hK2
            refine wpAnyH_ready (rs := [3, 5]) (by kernel_rfl) (by simp) (AllReadyH.cons rfl (fun K3 hK3 => ?_) (AllReadyH.cons rfl (fun K3 hK3 => ?_) AllReadyH.nil))
            · refine step_plain (by rfl) ?_
              simp only [List.getElem_toArray, List.getElem_cons_zero, List.getElem_cons_succ]
              go_simp
              go_at_call 10
              refine (C2.out _ hSS.2.2).mono ?_
              rintro e W3 ⟨yp, rfl, hY, hbn⟩
              replace hA := (hbn.block _ (Array.getElem?_eq_some_iff.1 hA).1).trans hA
              replace hX := hX.stays hbn
              replace hY := hY.mono (ok' := fun b => W2.heap.size ≤ b ∧ b < W3.heap.size) (fun _ h1 h2 => ⟨h1, h2⟩)
              have hz3 := hbn.size
              go_simp
              refine hK3.out _ _ (hSS.below hbn) (fun hSS => ?_)
              clear hbn hK3
              refine wpAnyH_ready (rs := [5]) (by kernel_rfl) (by simp) (AllReadyH.cons rfl (fun K4 hK4 => ?_) AllReadyH.nil)
              refine step_plain (by rfl) ?_
              simp only [List.getElem_toArray, List.getElem_cons_zero, List.getElem_cons_succ]
              go_simp
              have hbn : Below W3.heap.size W3 (W3.alloc (.cells #[.int .i64 0, .bool false, .int .i64 0, .int .i64 0, .string { data := #[] }, .slice none 0 0, .slice none 0 0] 25)) := (Below.refl _ _).alloc (Nat.le_refl _) _
              have hB := heap_alloc_new W3 (.cells #[.int .i64 0, .bool false, .int .i64 0, .int .i64 0, .string { data := #[] }, .slice none 0 0, .slice none 0 0] 25)
              replace hA := (hbn.block _ (Array.getElem?_eq_some_iff.1 hA).1).trans hA
              replace hX := hX.stays hbn
              replace hY := hY.stays hbn
              have hz4 : W3.heap.size < (W3.alloc (.cells #[.int .i64 0, .bool false, .int .i64 0, .int .i64 0, .string { data := #[] }, .slice none 0 0, .slice none 0 0] 25)).heap.size := by simp
              refine hK4.out _ _ (hSS.below hbn) (fun hSS => ?_)
              clear hbn hK4
              generalize W3.alloc (.cells #[.int .i64 0, .bool false, .int .i64 0, .int .i64 0, .string { data := #[] }, .slice none 0 0, .slice none 0 0] 25) = W4 at *
              have hTwo := Two.mk (A := W0.heap.size) (B := W3.heap.size) hSS hA hB hX hY (by omega) (by omega) (by omega) (fun b hb => by omega) (fun b hb => by omega)
              have hS6 := BW.set hSS (B := W0.heap.size) (by omega) x xp
              have hS7 := BW.set hS6 (B := W3.heap.size) (by omega) y yp
              have hB6 := (setBox_other W4 (W0.heap.size) x xp (W3.heap.size) (by omega)).trans hB
              refine wpAnyH_ready (rs := [6]) (by kernel_rfl) (by simp) (AllReadyH.cons rfl (fun K5 hK5 => ?_) AllReadyH.nil)
              refine step_setbox (by rfl) _ _ (by rfl) (by rfl) (B := W0.heap.size) (v := x) (p := xp) (by rfl) (by rfl) hA ?_
              refine hK5.out _ _ hS6 (fun hSS6 => ?_)
              clear hS6 hK5
              generalize setBox W4 (W0.heap.size) x xp = WB at *
              refine wpAnyH_ready (rs := [7]) (by kernel_rfl) (by simp) (AllReadyH.cons rfl (fun K6 hK6 => ?_) AllReadyH.nil)
              refine step_setbox (by rfl) _ _ (by rfl) (by rfl) (B := W3.heap.size) (v := y) (p := yp) (by rfl) (by rfl) hB6 ?_
              refine hK6.out _ _ hS7 (fun hSS7 => ?_)
              clear hS7 hK6
              generalize setBox WB (W3.heap.size) y yp = WC at *
              refine wpAnyH_done (by kernel_rfl) ?_ _
              go_wp2_with fail
              go_meet
              exact hTwo
            · refine step_plain (by rfl) ?_
              simp only [List.getElem_toArray, List.getElem_cons_zero, List.getElem_cons_succ]
              go_simp
              have hbn : Below W2.heap.size W2 (W2.alloc (.cells #[.int .i64 0, .bool false, .int .i64 0, .int .i64 0, .string { data := #[] }, .slice none 0 0, .slice none 0 0] 25)) := (Below.refl _ _).alloc (Nat.le_refl _) _
              have hB := heap_alloc_new W2 (.cells #[.int .i64 0, .bool false, .int .i64 0, .int .i64 0, .string { data := #[] }, .slice none 0 0, .slice none 0 0] 25)
              replace hA := (hbn.block _ (Array.getElem?_eq_some_iff.1 hA).1).trans hA
              replace hX := hX.stays hbn
              have hz3 : W2.heap.size < (W2.alloc (.cells #[.int .i64 0, .bool false, .int .i64 0, .int .i64 0, .string { data := #[] }, .slice none 0 0, .slice none 0 0] 25)).heap.size := by simp
              refine hK3.out _ _ (hSS.below hbn) (fun hSS => ?_)
              clear hbn hK3
              generalize W2.alloc (.cells #[.int .i64 0, .bool false, .int .i64 0, .int .i64 0, .string { data := #[] }, .slice none 0 0, .slice none 0 0] 25) = W3 at *
              refine wpAnyH_ready (rs := [3]) (by kernel_rfl) (by simp) (AllReadyH.cons rfl (fun K4 hK4 => ?_) AllReadyH.nil)
              refine step_plain (by rfl) ?_
              simp only [List.getElem_toArray, List.getElem_cons_zero, List.getElem_cons_succ]
              go_simp
              go_at_call 10
              refine (C2.out _ hSS.2.2).mono ?_
              rintro e W4 ⟨yp, rfl, hY, hbn⟩
              replace hA := (hbn.block _ (Array.getElem?_eq_some_iff.1 hA).1).trans hA
              replace hX := hX.stays hbn
              replace hB := (hbn.block _ (Array.getElem?_eq_some_iff.1 hB).1).trans hB
              replace hY := hY.mono (ok' := fun b => W3.heap.size ≤ b ∧ b < W4.heap.size) (fun _ h1 h2 => ⟨h1, h2⟩)
              have hz4 := hbn.size
              go_simp
              refine hK4.out _ _ (hSS.below hbn) (fun hSS => ?_)
              clear hbn hK4
              have hTwo := Two.mk (A := W0.heap.size) (B := W2.heap.size) hSS hA hB hX hY (by omega) (by omega) (by omega) (fun b hb => by omega) (fun b hb => by omega)
              have hS6 := BW.set hSS (B := W0.heap.size) (by omega) x xp
              have hS7 := BW.set hS6 (B := W2.heap.size) (by omega) y yp
              have hB6 := (setBox_other W4 (W0.heap.size) x xp (W2.heap.size) (by omega)).trans hB
              refine wpAnyH_ready (rs := [6]) (by kernel_rfl) (by simp) (AllReadyH.cons rfl (fun K5 hK5 => ?_) AllReadyH.nil)
              refine step_setbox (by rfl) _ _ (by rfl) (by rfl) (B := W0.heap.size) (v := x) (p := xp) (by rfl) (by rfl) hA ?_
              refine hK5.out _ _ hS6 (fun hSS6 => ?_)
              clear hS6 hK5
              generalize setBox W4 (W0.heap.size) x xp = WB at *
              refine wpAnyH_ready (rs := [7]) (by kernel_rfl) (by simp) (AllReadyH.cons rfl (fun K6 hK6 => ?_) AllReadyH.nil)
              refine step_setbox (by rfl) _ _ (by rfl) (by rfl) (B := W2.heap.size) (v := y) (p := yp) (by rfl) (by rfl) hB6 ?_
              refine hK6.out _ _ hS7 (fun hSS7 => ?_)
              clear hS7 hK6
              generalize setBox WB (W2.heap.size) y yp = WC at *
              refine wpAnyH_done (by kernel_rfl) ?_ _
              go_wp2_with fail
              go_meet
              exact hTwo
          · refine step_plain (by rfl) ?_
            simp only [List.getElem_toArray, List.getElem_cons_zero, List.getElem_cons_succ]
            go_simp
            have hbn : Below W1.heap.size W1 (W1.alloc (.cells #[.int .i64 0, .bool false, .int .i64 0, .int .i64 0, .string { data := #[] }, .slice none 0 0, .slice none 0 0] 25)) := (Below.refl _ _).alloc (Nat.le_refl _) _
            have hB := heap_alloc_new W1 (.cells #[.int .i64 0, .bool false, .int .i64 0, .int .i64 0, .string { data := #[] }, .slice none 0 0, .slice none 0 0] 25)
            replace hA := (hbn.block _ (Array.getElem?_eq_some_iff.1 hA).1).trans hA
            have hz2 : W1.heap.size < (W1.alloc (.cells #[.int .i64 0, .bool false, .int .i64 0, .int .i64 0, .string { data := #[] }, .slice none 0 0, .slice none 0 0] 25)).heap.size := by simp
            refine hK2.out _ _ (hSS.below hbn) (fun hSS => ?_)
            clear hbn hK2
            generalize W1.alloc (.cells #[.int .i64 0, .bool false, .int .i64 0, .int .i64 0, .string { data := #[] }, .slice none 0 0, .slice none 0 0] 25) = W2 at *
            refine wpAnyH_ready (rs := [1]) (by kernel_rfl) (by simp) (AllReadyH.cons rfl (fun K3 hK3 => ?_) AllReadyH.nil)
            refine step_plain (by rfl) ?_
            simp only [List.getElem_toArray, List.getElem_cons_zero, List.getElem_cons_succ]
            go_simp
            go_at_call 10
            refine (C1.out _ hSS.2.2).mono ?_
            rintro e W3 ⟨xp, rfl, hX, hbn⟩
            replace hA := (hbn.block _ (Array.getElem?_eq_some_iff.1 hA).1).trans hA
            replace hB := (hbn.block _ (Array.getElem?_eq_some_iff.1 hB).1).trans hB
            replace hX := hX.mono (ok' := fun b => W2.heap.size ≤ b ∧ b < W3.heap.size) (fun _ h1 h2 => ⟨h1, h2⟩)
            have hz3 := hbn.size
            go_simp
            refine hK3.out _ _ (hSS.below hbn) (fun hSS => ?_)
            clear hbn hK3
            refine wpAnyH_ready (rs := [3]) (by kernel_rfl) (by simp) (AllReadyH.cons rfl (fun K4 hK4 => ?_) AllReadyH.nil)
            refine step_plain (by rfl) ?_
            simp only [List.getElem_toArray, List.getElem_cons_zero, List.getElem_cons_succ]
            go_simp
            go_at_call 10
            refine (C2.out _ hSS.2.2).mono ?_
            rintro e W4 ⟨yp, rfl, hY, hbn⟩
            replace hA := (hbn.block _ (Array.getElem?_eq_some_iff.1 hA).1).trans hA
            replace hB := (hbn.block _ (Array.getElem?_eq_some_iff.1 hB).1).trans hB
            replace hX := hX.stays hbn
            replace hY := hY.mono (ok' := fun b => W3.heap.size ≤ b ∧ b < W4.heap.size) (fun _ h1 h2 => ⟨h1, h2⟩)
            have hz4 := hbn.size
            go_simp
            refine hK4.out _ _ (hSS.below hbn) (fun hSS => ?_)
            clear hbn hK4
            have hTwo := Two.mk (A := W0.heap.size) (B := W1.heap.size) hSS hA hB hX hY (by omega) (by omega) (by omega) (fun b hb => by omega) (fun b hb => by omega)
            have hS6 := BW.set hSS (B := W0.heap.size) (by omega) x xp
            have hS7 := BW.set hS6 (B := W1.heap.size) (by omega) y yp
            have hB6 := (setBox_other W4 (W0.heap.size) x xp (W1.heap.size) (by omega)).trans hB
            refine wpAnyH_ready (rs := [6]) (by kernel_rfl) (by simp) (AllReadyH.cons rfl (fun K5 hK5 => ?_) AllReadyH.nil)
            refine step_setbox (by rfl) _ _ (by rfl) (by rfl) (B := W0.heap.size) (v := x) (p := xp) (by rfl) (by rfl) hA ?_
            refine hK5.out _ _ hS6 (fun hSS6 => ?_)
            clear hS6 hK5
            generalize setBox W4 (W0.heap.size) x xp = WB at *
            refine wpAnyH_ready (rs := [7]) (by kernel_rfl) (by simp) (AllReadyH.cons rfl (fun K6 hK6 => ?_) AllReadyH.nil)
            refine step_setbox (by rfl) _ _ (by rfl) (by rfl) (B := W1.heap.size) (v := y) (p := yp) (by rfl) (by rfl) hB6 ?_
            refine hK6.out _ _ hS7 (fun hSS7 => ?_)
            clear hS7 hK6
            generalize setBox WB (W1.heap.size) y yp = WC at *
            refine wpAnyH_done (by kernel_rfl) ?_ _
            go_wp2_with fail
            go_meet
            exact hTwo
        · refine step_plain (by rfl) ?_
          simp only [List.getElem_toArray, List.getElem_cons_zero, List.getElem_cons_succ]
          go_simp
          have hbn : Below W0.heap.size W0 (W0.alloc (.cells #[.int .i64 0, .bool false, .int .i64 0, .int .i64 0, .string { data := #[] }, .slice none 0 0, .slice none 0 0] 25)) := (Below.refl _ _).alloc (Nat.le_refl _) _
          have hB := heap_alloc_new W0 (.cells #[.int .i64 0, .bool false, .int .i64 0, .int .i64 0, .string { data := #[] }, .slice none 0 0, .slice none 0 0] 25)
          have hz1 : W0.heap.size < (W0.alloc (.cells #[.int .i64 0, .bool false, .int .i64 0, .int .i64 0, .string { data := #[] }, .slice none 0 0, .slice none 0 0] 25)).heap.size := by simp
          refine hK1.out _ _ (hSS.below hbn) (fun hSS => ?_)
          clear hbn hK1
          generalize W0.alloc (.cells #[.int .i64 0, .bool false, .int .i64 0, .int .i64 0, .string { data := #[] }, .slice none 0 0, .slice none 0 0] 25) = W1 at *
          refine wpAnyH_ready (rs := [1, 4]) (by kernel_rfl) (by simp) (AllReadyH.cons rfl (fun K2 hK2 => ?_) (AllReadyH.cons rfl (fun K2 hK2 => ?_) AllReadyH.nil))
          · refine step_plain (by rfl) ?_
            simp only [List.getElem_toArray, List.getElem_cons_zero, List.getElem_cons_succ]
            go_simp
            go_at_call 10
            refine (C1.out _ hSS.2.2).mono ?_
            rintro e W2 ⟨xp, rfl, hX, hbn⟩
            replace hB := (hbn.block _ (Array.getElem?_eq_some_iff.1 hB).1).trans hB
            replace hX := hX.mono (ok' := fun b => W1.heap.size ≤ b ∧ b < W2.heap.size) (fun _ h1 h2 => ⟨h1, h2⟩)
            have hz2 := hbn.size
            go_simp
            refine hK2.out _ _ (hSS.below hbn) (fun hSS => ?_)
            clear hbn hK2
            refine wpAnyH_ready (rs := [3, 4]) (by kernel_rfl) (by simp) (AllReadyH.cons rfl (fun K3 hK3 => ?_) (AllReadyH.cons rfl (fun K3 hK3 => ?_) AllReadyH.nil))
            · refine step_plain (by rfl) ?_
              simp only [List.getElem_toArray, List.getElem_cons_zero, List.getElem_cons_succ]
              go_simp
              go_at_call 10
              refine (C2.out _ hSS.2.2).mono ?_
              rintro e W3 ⟨yp, rfl, hY, hbn⟩
              replace hB := (hbn.block _ (Array.getElem?_eq_some_iff.1 hB).1).trans hB
              replace hX := hX.stays hbn
              replace hY := hY.mono (ok' := fun b => W2.heap.size ≤ b ∧ b < W3.heap.size) (fun _ h1 h2 => ⟨h1, h2⟩)
              have hz3 := hbn.size
              go_simp
              refine hK3.out _ _ (hSS.below hbn) (fun hSS => ?_)
              clear hbn hK3
              refine wpAnyH_ready (rs := [4]) (by kernel_rfl) (by simp) (AllReadyH.cons rfl (fun K4 hK4 => ?_) AllReadyH.nil)
              refine step_plain (by rfl) ?_
              simp only [List.getElem_toArray, List.getElem_cons_zero, List.getElem_cons_succ]
              go_simp
              have hbn : Below W3.heap.size W3 (W3.alloc (.cells #[.int .i64 0, .bool false, .int .i64 0, .int .i64 0, .string { data := #[] }, .slice none 0 0, .slice none 0 0] 25)) := (Below.refl _ _).alloc (Nat.le_refl _) _
              have hA := heap_alloc_new W3 (.cells #[.int .i64 0, .bool false, .int .i64 0, .int .i64 0, .string { data := #[] }, .slice none 0 0, .slice none 0 0] 25)
              replace hB := (hbn.block _ (Array.getElem?_eq_some_iff.1 hB).1).trans hB
              replace hX := hX.stays hbn
              replace hY := hY.stays hbn
              have hz4 : W3.heap.size < (W3.alloc (.cells #[.int .i64 0, .bool false, .int .i64 0, .int .i64 0, .string { data := #[] }, .slice none 0 0, .slice none 0 0] 25)).heap.size := by simp
              refine hK4.out _ _ (hSS.below hbn) (fun hSS => ?_)
              clear hbn hK4
              generalize W3.alloc (.cells #[.int .i64 0, .bool false, .int .i64 0, .int .i64 0, .string { data := #[] }, .slice none 0 0, .slice none 0 0] 25) = W4 at *
              have hTwo := Two.mk (A := W3.heap.size) (B := W0.heap.size) hSS hA hB hX hY (by omega) (by omega) (by omega) (fun b hb => by omega) (fun b hb => by omega)
              have hS6 := BW.set hSS (B := W3.heap.size) (by omega) x xp
              have hS7 := BW.set hS6 (B := W0.heap.size) (by omega) y yp
              have hB6 := (setBox_other W4 (W3.heap.size) x xp (W0.heap.size) (by omega)).trans hB
              refine wpAnyH_ready (rs := [6]) (by kernel_rfl) (by simp) (AllReadyH.cons rfl (fun K5 hK5 => ?_) AllReadyH.nil)
              refine step_setbox (by rfl) _ _ (by rfl) (by rfl) (B := W3.heap.size) (v := x) (p := xp) (by rfl) (by rfl) hA ?_
              refine hK5.out _ _ hS6 (fun hSS6 => ?_)
              clear hS6 hK5
              generalize setBox W4 (W3.heap.size) x xp = WB at *
              refine wpAnyH_ready (rs := [7]) (by kernel_rfl) (by simp) (AllReadyH.cons rfl (fun K6 hK6 => ?_) AllReadyH.nil)
              refine step_setbox (by rfl) _ _ (by rfl) (by rfl) (B := W0.heap.size) (v := y) (p := yp) (by rfl) (by rfl) hB6 ?_
              refine hK6.out _ _ hS7 (fun hSS7 => ?_)
              clear hS7 hK6
              generalize setBox WB (W0.heap.size) y yp = WC at *
              refine wpAnyH_done (by kernel_rfl) ?_ _
              go_wp2_with fail
              go_meet
              exact hTwo
            · refine step_plain (by rfl) ?_
              simp only [List.getElem_toArray, List.getElem_cons_zero, List.getElem_cons_succ]
              go_simp
              have hbn : Below W2.heap.size W2 (W2.alloc (.cells #[.int .i64 0, .bool false, .int .i64 0, .int .i64 0, .string { data := #[] }, .slice none 0 0, .slice none 0 0] 25)) := (Below.refl _ _).alloc (Nat.le_refl _) _
              have hA := heap_alloc_new W2 (.cells #[.int .i64 0, .bool false, .int .i64 0, .int .i64 0, .string { data := #[] }, .slice none 0 0, .slice none 0 0] 25)
              replace hB := (hbn.block _ (Array.getElem?_eq_some_iff.1 hB).1).trans hB
              replace hX := hX.stays hbn
              have hz3 : W2.heap.size < (W2.alloc (.cells #[.int .i64 0, .bool false, .int .i64 0, .int .i64 0, .string { data := #[] }, .slice none 0 0, .slice none 0 0] 25)).heap.size := by simp
              refine hK3.out _ _ (hSS.below hbn) (fun hSS => ?_)
              clear hbn hK3
              generalize W2.alloc (.cells #[.int .i64 0, .bool false, .int .i64 0, .int .i64 0, .string { data := #[] }, .slice none 0 0, .slice none 0 0] 25) = W3 at *
              refine wpAnyH_ready (rs := [3]) (by kernel_rfl) (by simp) (AllReadyH.cons rfl (fun K4 hK4 => ?_) AllReadyH.nil)
              refine step_plain (by rfl) ?_
              simp only [List.getElem_toArray, List.getElem_cons_zero, List.getElem_cons_succ]
              go_simp
              go_at_call 10
              refine (C2.out _ hSS.2.2).mono ?_
              rintro e W4 ⟨yp, rfl, hY, hbn⟩
              replace hB := (hbn.block _ (Array.getElem?_eq_some_iff.1 hB).1).trans hB
              replace hX := hX.stays hbn
              replace hA := (hbn.block _ (Array.getElem?_eq_some_iff.1 hA).1).trans hA
              replace hY := hY.mono (ok' := fun b => W3.heap.size ≤ b ∧ b < W4.heap.size) (fun _ h1 h2 => ⟨h1, h2⟩)
              have hz4 := hbn.size
              go_simp
              refine hK4.out _ _ (hSS.below hbn) (fun hSS => ?_)
              clear hbn hK4
              have hTwo := Two.mk (A := W2.heap.size) (B := W0.heap.size) hSS hA hB hX hY (by omega) (by omega) (by omega) (fun b hb => by omega) (fun b hb => by omega)
              have hS6 := BW.set hSS (B := W2.heap.size) (by omega) x xp
              have hS7 := BW.set hS6 (B := W0.heap.size) (by omega) y yp
              have hB6 := (setBox_other W4 (W2.heap.size) x xp (W0.heap.size) (by omega)).trans hB
              refine wpAnyH_ready (rs := [6]) (by kernel_rfl) (by simp) (AllReadyH.cons rfl (fun K5 hK5 => ?_) AllReadyH.nil)
              refine step_setbox (by rfl) _ _ (by rfl) (by rfl) (B := W2.heap.size) (v := x) (p := xp) (by rfl) (by rfl) hA ?_
              refine hK5.out _ _ hS6 (fun hSS6 => ?_)
              clear hS6 hK5
              generalize setBox W4 (W2.heap.size) x xp = WB at *
              refine wpAnyH_ready (rs := [7]) (by kernel_rfl) (by simp) (AllReadyH.cons rfl (fun K6 hK6 => ?_) AllReadyH.nil)
              refine step_setbox (by rfl) _ _ (by rfl) (by rfl) (B := W0.heap.size) (v := y) (p := yp) (by rfl) (by rfl) hB6 ?_
              refine hK6.out _ _ hS7 (fun hSS7 => ?_)
              clear hS7 hK6
              generalize setBox WB (W0.heap.size) y yp = WC at *
              refine wpAnyH_done (by kernel_rfl) ?_ _
              go_wp2_with fail
              go_meet
              exact hTwo
          · refine step_plain (by rfl) ?_
            simp only [List.getElem_toArray, List.getElem_cons_zero, List.getElem_cons_succ]
            go_simp
            have hbn : Below W1.heap.size W1 (W1.alloc (.cells #[.int .i64 0, .bool false, .int .i64 0, .int .i64 0, .string { data := #[] }, .slice none 0 0, .slice none 0 0] 25)) := (Below.refl _ _).alloc (Nat.le_refl _) _
            have hA := heap_alloc_new W1 (.cells #[.int .i64 0, .bool false, .int .i64 0, .int .i64 0, .string { data := #[] }, .slice none 0 0, .slice none 0 0] 25)
            replace hB := (hbn.block _ (Array.getElem?_eq_some_iff.1 hB).1).trans hB
            have hz2 : W1.heap.size < (W1.alloc (.cells #[.int .i64 0, .bool false, .int .i64 0, .int .i64 0, .string { data := #[] }, .slice none 0 0, .slice none 0 0] 25)).heap.size := by simp
            refine hK2.out _ _ (hSS.below hbn) (fun hSS => ?_)
            clear hbn hK2
            generalize W1.alloc (.cells #[.int .i64 0, .bool false, .int .i64 0, .int .i64 0, .string { data := #[] }, .slice none 0 0, .slice none 0 0] 25) = W2 at *
            refine wpAnyH_ready (rs := [1]) (by kernel_rfl) (by simp) (AllReadyH.cons rfl (fun K3 hK3 => ?_) AllReadyH.nil)
            refine step_plain (by rfl) ?_
            simp only [List.getElem_toArray, List.getElem_cons_zero, List.getElem_cons_succ]
            go_simp
            go_at_call 10
            refine (C1.out _ hSS.2.2).mono ?_
            rintro e W3 ⟨xp, rfl, hX, hbn⟩
            replace hB := (hbn.block _ (Array.getElem?_eq_some_iff.1 hB).1).trans hB
            replace hA := (hbn.block _ (Array.getElem?_eq_some_iff.1 hA).1).trans hA
            replace hX := hX.mono (ok' := fun b => W2.heap.size ≤ b ∧ b < W3.heap.size) (fun _ h1 h2 => ⟨h1, h2⟩)
            have hz3 := hbn.size
            go_simp
            refine hK3.out _ _ (hSS.below hbn) (fun hSS => ?_)
            clear hbn hK3
            refine wpAnyH_ready (rs := [3]) (by kernel_rfl) (by simp) (AllReadyH.cons rfl (fun K4 hK4 => ?_) AllReadyH.nil)
            refine step_plain (by rfl) ?_
            simp only [List.getElem_toArray, List.getElem_cons_zero, List.getElem_cons_succ]
            go_simp
            go_at_call 10
            refine (C2.out _ hSS.2.2).mono ?_
            rintro e W4 ⟨yp, rfl, hY, hbn⟩
            replace hB := (hbn.block _ (Array.getElem?_eq_some_iff.1 hB).1).trans hB
            replace hA := (hbn.block _ (Array.getElem?_eq_some_iff.1 hA).1).trans hA
            replace hX := hX.stays hbn
            replace hY := hY.mono (ok' := fun b => W3.heap.size ≤ b ∧ b < W4.heap.size) (fun _ h1 h2 => ⟨h1, h2⟩)
            have hz4 := hbn.size
            go_simp
            refine hK4.out _ _ (hSS.below hbn) (fun hSS => ?_)
            clear hbn hK4
            have hTwo := Two.mk (A := W1.heap.size) (B := W0.heap.size) hSS hA hB hX hY (by omega) (by omega) (by omega) (fun b hb => by omega) (fun b hb => by omega)
            have hS6 := BW.set hSS (B := W1.heap.size) (by omega) x xp
            have hS7 := BW.set hS6 (B := W0.heap.size) (by omega) y yp
            have hB6 := (setBox_other W4 (W1.heap.size) x xp (W0.heap.size) (by omega)).trans hB
            refine wpAnyH_ready (rs := [6]) (by kernel_rfl) (by simp) (AllReadyH.cons rfl (fun K5 hK5 => ?_) AllReadyH.nil)
            refine step_setbox (by rfl) _ _ (by rfl) (by rfl) (B := W1.heap.size) (v := x) (p := xp) (by rfl) (by rfl) hA ?_
            refine hK5.out _ _ hS6 (fun hSS6 => ?_)
            clear hS6 hK5
            generalize setBox W4 (W1.heap.size) x xp = WB at *
            refine wpAnyH_ready (rs := [7]) (by kernel_rfl) (by simp) (AllReadyH.cons rfl (fun K6 hK6 => ?_) AllReadyH.nil)
            refine step_setbox (by rfl) _ _ (by rfl) (by rfl) (B := W0.heap.size) (v := y) (p := yp) (by rfl) (by rfl) hB6 ?_
            refine hK6.out _ _ hS7 (fun hSS7 => ?_)
            clear hS7 hK6
            generalize setBox WB (W0.heap.size) y yp = WC at *
            refine wpAnyH_done (by kernel_rfl) ?_ _
            go_wp2_with fail
            go_meet
            exact hTwo
      case rest =>
        obtain ⟨A, B, xp, yp, rfl, rfl, hA, hB, hX, hY, hb4⟩ := hcut
        obtain ⟨w4, rfl⟩ : ∃ w4, w4 = wc := ⟨_, rfl⟩
        clear C1 C2
        have hxb : x.bulk ≤ 1048576 := by omega
        have hyb : y.bulk ≤ 1048576 := by omega
        have T1 : Hid (∀ W, Below w4.heap.size w4 W → Calls Try.prog 11 #[x.val xp] W fun e w' => ∃ a, e = .returned (.agg #[a]) ∧ a.oneCell' = true ∧ Rep w' (fun b => W.heap.size ≤ b) a x ∧ Below W.heap.size W w') := fun W hW => (to_any hX W hW hxb hx).mono (by
          rintro e w' ⟨a, rfl, h1, h2⟩
          exact ⟨a, rfl, h1.one, h1, h2⟩)
        have T2 : Hid (∀ W, Below w4.heap.size w4 W → Calls Try.prog 11 #[y.val yp] W fun e w' => ∃ a, e = .returned (.agg #[a]) ∧ a.oneCell' = true ∧ Rep w' (fun b => W.heap.size ≤ b) a y ∧ Below W.heap.size W w') := fun W hW => (to_any hY W hW hyb hy).mono (by
          rintro e w' ⟨a, rfl, h1, h2⟩
          exact ⟨a, rfl, h1.one, h1, h2⟩)
        have hAl := (Array.getElem?_eq_some_iff.1 hA).1
        have hBl := (Array.getElem?_eq_some_iff.1 hB).1
        have HBX : Hid (∀ W, Below w4.heap.size w4 W → (W.cell? ⟨A, 0, none⟩ = some (.int .i64 x.k) ∧ W.cell? ⟨A, 1, none⟩ = some (.bool x.b) ∧ W.cell? ⟨A, 2, none⟩ = some (.int .i64 x.n) ∧ W.cell? ⟨A, 3, none⟩ = some (.int .i64 x.m) ∧ W.cell? ⟨A, 4, none⟩ = some (.string x.s) ∧ W.cell? ⟨A, 5, none⟩ = some (.slice xp.la x.l.length xp.lc) ∧ W.cell? ⟨A, 6, none⟩ = some (.slice xp.ka x.keys.length xp.kc)) ∧ (W.cell? ⟨B, 0, none⟩ = some (.int .i64 y.k) ∧ W.cell? ⟨B, 1, none⟩ = some (.bool y.b) ∧ W.cell? ⟨B, 2, none⟩ = some (.int .i64 y.n) ∧ W.cell? ⟨B, 3, none⟩ = some (.int .i64 y.m) ∧ W.cell? ⟨B, 4, none⟩ = some (.string y.s) ∧ W.cell? ⟨B, 5, none⟩ = some (.slice yp.la y.l.length yp.lc) ∧ W.cell? ⟨B, 6, none⟩ = some (.slice yp.ka y.keys.length yp.kc))) := fun W hW => ⟨box_cells ((hW.block _ hAl).trans hA), box_cells ((hW.block _ hBl).trans hB)⟩
        unfold V.val at T1 T2
        go_wp2_with fail
        go_cut [7, 8] from 32 to 35 (fun s7 s8 wx => TwoR w4 wx x y s7 s8)
        case first =>
          refine wp_region_held_drew (S := fun w' => Below w4.heap.size w4 w') (by kernel_rfl) (Below.refl _ _).drew (fun hSS => ?_)
          refine wpAnyH_take (i := 0) (v := ?_) rfl (by kernel_rfl) (by kernel_rfl) (by kernel_rfl) (fun _ _ _ h => h) (Or.inl ⟨by rfl, ?_⟩) hSS ?_
          rotate_left
          · intro wz hSz
            obtain ⟨⟨k0, k1, k2, k3, k4, k5, k6⟩, ⟨l0, l1, l2, l3, l4, l5, l6⟩⟩ := HBX.out _ hSz
            go_simp
            try with_reducible rfl
          simp only [List.getElem_toArray, List.getElem_cons_zero, Act.put, List.setIfInBounds_toArray, List.set_cons_zero, List.set_cons_succ]
          refine wpAnyH_take (i := 2) (v := ?_) rfl (by kernel_rfl) (by kernel_rfl) (by kernel_rfl) (fun _ _ _ h => h) (Or.inl ⟨by rfl, ?_⟩) hSS ?_
          rotate_left
          · intro wz hSz
            obtain ⟨⟨k0, k1, k2, k3, k4, k5, k6⟩, ⟨l0, l1, l2, l3, l4, l5, l6⟩⟩ := HBX.out _ hSz
            go_simp
            try with_reducible rfl
          simp only [List.getElem_toArray, List.getElem_cons_zero, List.getElem_cons_succ, Act.put, List.setIfInBounds_toArray, List.set_cons_zero, List.set_cons_succ]
          generalize w4.drew = W0 at *
          have hz0 := hSS.size
          clear HBX hX hY hA hB hAl hBl
          refine wpAnyH_ready (rs := [1, 4, 5]) (by kernel_rfl) (by simp) (AllReadyH.cons rfl (fun K1 hK1 => ?_) (AllReadyH.cons rfl (fun K1 hK1 => ?_) (AllReadyH.cons rfl (fun K1 hK1 => ?_) AllReadyH.nil)))
          · refine step_plain (by rfl) ?_
            simp only [List.getElem_toArray, List.getElem_cons_zero, List.getElem_cons_succ]
            go_simp
            go_at_call 11
            refine (T1.out _ hSS).mono ?_
            rintro e W1 ⟨a, rfl, ha1, hX, hbn⟩
            replace hX := hX.mono (ok' := fun b => W0.heap.size ≤ b ∧ b < W1.heap.size) (fun _ h1 h2 => ⟨h1, h2⟩)
            have hz1 := hbn.size
            go_simp
            refine hK1.out _ _ (hSS.trans (hbn.mono hSS.size)) (fun hSS => ?_)
            clear hbn hK1
            refine wpAnyH_ready (rs := [3, 4, 5]) (by kernel_rfl) (by simp) (AllReadyH.cons rfl (fun K2 hK2 => ?_) (AllReadyH.cons rfl (fun K2 hK2 => ?_) (AllReadyH.cons rfl (fun K2 hK2 => ?_) AllReadyH.nil)))
            · refine step_plain (by rfl) ?_
              simp only [List.getElem_toArray, List.getElem_cons_zero, List.getElem_cons_succ]
              go_simp
              go_at_call 11
              refine (T2.out _ hSS).mono ?_
              rintro e W2 ⟨b, rfl, hb1, hY, hbn⟩
              replace hX := hX.stays hbn
              replace hY := hY.mono (ok' := fun b => W1.heap.size ≤ b ∧ b < W2.heap.size) (fun _ h1 h2 => ⟨h1, h2⟩)
              have hz2 := hbn.size
              go_simp
              refine hK2.out _ _ (hSS.trans (hbn.mono hSS.size)) (fun hSS => ?_)
              clear hbn hK2
              refine wpAnyH_ready (rs := [4, 5]) (by kernel_rfl) (by simp) (AllReadyH.cons rfl (fun K3 hK3 => ?_) (AllReadyH.cons rfl (fun K3 hK3 => ?_) AllReadyH.nil))
              · refine step_plain (by rfl) ?_
                simp only [List.getElem_toArray, List.getElem_cons_zero, List.getElem_cons_succ]
                go_simp
                have hbn : Below W2.heap.size W2 (W2.alloc (.cells #[.nilIface] 30)) := (Below.refl _ _).alloc (Nat.le_refl _) _
                have hA := heap_alloc_new W2 (.cells #[.nilIface] 30)
                replace hX := hX.stays hbn
                replace hY := hY.stays hbn
                have hz3 : W2.heap.size < (W2.alloc (.cells #[.nilIface] 30)).heap.size := by simp
                refine hK3.out _ _ (hSS.trans (hbn.mono hSS.size)) (fun hSS => ?_)
                clear hbn hK3
                generalize W2.alloc (.cells #[.nilIface] 30) = W3 at *
                refine wpAnyH_ready (rs := [5]) (by kernel_rfl) (by simp) (AllReadyH.cons rfl (fun K4 hK4 => ?_) AllReadyH.nil)
                refine step_plain (by rfl) ?_
                simp only [List.getElem_toArray, List.getElem_cons_zero, List.getElem_cons_succ]
                go_simp
                have hbn : Below W3.heap.size W3 (W3.alloc (.cells #[.nilIface] 30)) := (Below.refl _ _).alloc (Nat.le_refl _) _
                have hB := heap_alloc_new W3 (.cells #[.nilIface] 30)
                replace hX := hX.stays hbn
                replace hY := hY.stays hbn
                replace hA := (hbn.block _ (Array.getElem?_eq_some_iff.1 hA).1).trans hA
                have hz4 : W3.heap.size < (W3.alloc (.cells #[.nilIface] 30)).heap.size := by simp
                refine hK4.out _ _ (hSS.trans (hbn.mono hSS.size)) (fun hSS => ?_)
                clear hbn hK4
                generalize W3.alloc (.cells #[.nilIface] 30) = W4 at *
                have hTwo := TwoR.mk (A := W2.heap.size) (B := W3.heap.size) hSS hA hB hX hY (by omega) (by omega) (by omega) (fun b hb => by omega) (fun b hb => by omega)
                have hS6 := hSS.setCell (p := ⟨W2.heap.size, 0, none⟩) (show _ ≤ W2.heap.size by omega) a
                have hS7 := hS6.setCell (p := ⟨W3.heap.size, 0, none⟩) (show _ ≤ W3.heap.size by omega) b
                have hB6 := (Below.heap_setCell W4 ⟨W2.heap.size, 0, none⟩ a (W3.heap.size) (show W3.heap.size ≠ W2.heap.size by omega)).trans hB
                refine wpAnyH_ready (rs := [6]) (by kernel_rfl) (by simp) (AllReadyH.cons rfl (fun K5 hK5 => ?_) AllReadyH.nil)
                refine step_set1 (by rfl) _ _ (by rfl) (by rfl) (B := W2.heap.size) (u := a) (by rfl) (by rfl) ha1 hA ?_
                refine hK5.out _ _ hS6 (fun hSS6 => ?_)
                clear hS6 hK5
                generalize World.setCell W4 ⟨W2.heap.size, 0, none⟩ a = WB at *
                refine wpAnyH_ready (rs := [7]) (by kernel_rfl) (by simp) (AllReadyH.cons rfl (fun K6 hK6 => ?_) AllReadyH.nil)
                refine step_set1 (by rfl) _ _ (by rfl) (by rfl) (B := W3.heap.size) (u := b) (by rfl) (by rfl) hb1 hB6 ?_
                refine hK6.out _ _ hS7 (fun hSS7 => ?_)
                clear hS7 hK6
                generalize World.setCell WB ⟨W3.heap.size, 0, none⟩ b = WC at *
                refine wpAnyH_done (by kernel_rfl) ?_ _
                go_wp2_with fail
                go_meet
                exact hTwo
              · refine step_plain (by rfl) ?_
                simp only [List.getElem_toArray, List.getElem_cons_zero, List.getElem_cons_succ]
                go_simp
                have hbn : Below W2.heap.size W2 (W2.alloc (.cells #[.nilIface] 30)) := (Below.refl _ _).alloc (Nat.le_refl _) _
                have hB := heap_alloc_new W2 (.cells #[.nilIface] 30)
                replace hX := hX.stays hbn
                replace hY := hY.stays hbn
                have hz3 : W2.heap.size < (W2.alloc (.cells #[.nilIface] 30)).heap.size := by simp
                refine hK3.out _ _ (hSS.trans (hbn.mono hSS.size)) (fun hSS => ?_)
                clear hbn hK3
                generalize W2.alloc (.cells #[.nilIface] 30) = W3 at *
                refine wpAnyH_ready (rs := [4]) (by kernel_rfl) (by simp) (AllReadyH.cons rfl (fun K4 hK4 => ?_) AllReadyH.nil)
                refine step_plain (by rfl) ?_
                simp only [List.getElem_toArray, List.getElem_cons_zero, List.getElem_cons_succ]
                go_simp
                have hbn : Below W3.heap.size W3 (W3.alloc (.cells #[.nilIface] 30)) := (Below.refl _ _).alloc (Nat.le_refl _) _
                have hA := heap_alloc_new W3 (.cells #[.nilIface] 30)
                replace hX := hX.stays hbn
                replace hY := hY.stays hbn
                replace hB := (hbn.block _ (Array.getElem?_eq_some_iff.1 hB).1).trans hB
                have hz4 : W3.heap.size < (W3.alloc (.cells #[.nilIface] 30)).heap.size := by simp
                refine hK4.out _ _ (hSS.trans (hbn.mono hSS.size)) (fun hSS => ?_)
                clear hbn hK4
                generalize W3.alloc (.cells #[.nilIface] 30) = W4 at *
                have hTwo := TwoR.mk (A := W3.heap.size) (B := W2.heap.size) hSS hA hB hX hY (by omega) (by omega) (by omega) (fun b hb => by omega) (fun b hb => by omega)
                have hS6 := hSS.setCell (p := ⟨W3.heap.size, 0, none⟩) (show _ ≤ W3.heap.size by omega) a
                have hS7 := hS6.setCell (p := ⟨W2.heap.size, 0, none⟩) (show _ ≤ W2.heap.size by omega) b
                have hB6 := (Below.heap_setCell W4 ⟨W3.heap.size, 0, none⟩ a (W2.heap.size) (show W2.heap.size ≠ W3.heap.size by omega)).trans hB
                refine wpAnyH_ready (rs := [6]) (by kernel_rfl) (by simp) (AllReadyH.cons rfl (fun K5 hK5 => ?_) AllReadyH.nil)
                refine step_set1 (by rfl) _ _ (by rfl) (by rfl) (B := W3.heap.size) (u := a) (by rfl) (by rfl) ha1 hA ?_
                refine hK5.out _ _ hS6 (fun hSS6 => ?_)
                clear hS6 hK5
                generalize World.setCell W4 ⟨W3.heap.size, 0, none⟩ a = WB at *
                refine wpAnyH_ready (rs := [7]) (by kernel_rfl) (by simp) (AllReadyH.cons rfl (fun K6 hK6 => ?_) AllReadyH.nil)
                refine step_set1 (by rfl) _ _ (by rfl) (by rfl) (B := W2.heap.size) (u := b) (by rfl) (by rfl) hb1 hB6 ?_
                refine hK6.out _ _ hS7 (fun hSS7 => ?_)
                clear hS7 hK6
                generalize World.setCell WB ⟨W2.heap.size, 0, none⟩ b = WC at *
                refine wpAnyH_done (by kernel_rfl) ?_ _
                go_wp2_with fail
                go_meet
                exact hTwo
            · refine step_plain (by rfl) ?_
              simp only [List.getElem_toArray, List.getElem_cons_zero, List.getElem_cons_succ]
              go_simp
              have hbn : Below W1.heap.size W1 (W1.alloc (.cells #[.nilIface] 30)) := (Below.refl _ _).alloc (Nat.le_refl _) _
              have hA := heap_alloc_new W1 (.cells #[.nilIface] 30)
              replace hX := hX.stays hbn
              have hz2 : W1.heap.size < (W1.alloc (.cells #[.nilIface] 30)).heap.size := by simp
              refine hK2.out _ _ (hSS.trans (hbn.mono hSS.size)) (fun hSS => ?_)
              clear hbn hK2
              generalize W1.alloc (.cells #[.nilIface] 30) = W2 at *
              refine wpAnyH_ready (rs := [3, 5]) (by kernel_rfl) (by simp) (AllReadyH.cons rfl (fun K3 hK3 => ?_) (AllReadyH.cons rfl (fun K3 hK3 => ?_) AllReadyH.nil))
              · refine step_plain (by rfl) ?_
                simp only [List.getElem_toArray, List.getElem_cons_zero, List.getElem_cons_succ]
                go_simp
                go_at_call 11
                refine (T2.out _ hSS).mono ?_
                rintro e W3 ⟨b, rfl, hb1, hY, hbn⟩
                replace hX := hX.stays hbn
                replace hA := (hbn.block _ (Array.getElem?_eq_some_iff.1 hA).1).trans hA
                replace hY := hY.mono (ok' := fun b => W2.heap.size ≤ b ∧ b < W3.heap.size) (fun _ h1 h2 => ⟨h1, h2⟩)
                have hz3 := hbn.size
                go_simp
                refine hK3.out _ _ (hSS.trans (hbn.mono hSS.size)) (fun hSS => ?_)
                clear hbn hK3
                refine wpAnyH_ready (rs := [5]) (by kernel_rfl) (by simp) (AllReadyH.cons rfl (fun K4 hK4 => ?_) AllReadyH.nil)
                refine step_plain (by rfl) ?_
                simp only [List.getElem_toArray, List.getElem_cons_zero, List.getElem_cons_succ]
                go_simp
                have hbn : Below W3.heap.size W3 (W3.alloc (.cells #[.nilIface] 30)) := (Below.refl _ _).alloc (Nat.le_refl _) _
                have hB := heap_alloc_new W3 (.cells #[.nilIface] 30)
                replace hX := hX.stays hbn
                replace hA := (hbn.block _ (Array.getElem?_eq_some_iff.1 hA).1).trans hA
                replace hY := hY.stays hbn
                have hz4 : W3.heap.size < (W3.alloc (.cells #[.nilIface] 30)).heap.size := by simp
                refine hK4.out _ _ (hSS.trans (hbn.mono hSS.size)) (fun hSS => ?_)
                clear hbn hK4
                generalize W3.alloc (.cells #[.nilIface] 30) = W4 at *
                have hTwo := TwoR.mk (A := W1.heap.size) (B := W3.heap.size) hSS hA hB hX hY (by omega) (by omega) (by omega) (fun b hb => by omega) (fun b hb => by omega)
                have hS6 := hSS.setCell (p := ⟨W1.heap.size, 0, none⟩) (show _ ≤ W1.heap.size by omega) a
                have hS7 := hS6.setCell (p := ⟨W3.heap.size, 0, none⟩) (show _ ≤ W3.heap.size by omega) b
                have hB6 := (Below.heap_setCell W4 ⟨W1.heap.size, 0, none⟩ a (W3.heap.size) (show W3.heap.size ≠ W1.heap.size by omega)).trans hB
                refine wpAnyH_ready (rs := [6]) (by kernel_rfl) (by simp) (AllReadyH.cons rfl (fun K5 hK5 => ?_) AllReadyH.nil)
                refine step_set1 (by rfl) _ _ (by rfl) (by rfl) (B := W1.heap.size) (u := a) (by rfl) (by rfl) ha1 hA ?_
                refine hK5.out _ _ hS6 (fun hSS6 => ?_)
                clear hS6 hK5
                generalize World.setCell W4 ⟨W1.heap.size, 0, none⟩ a = WB at *
                refine wpAnyH_ready (rs := [7]) (by kernel_rfl) (by simp) (AllReadyH.cons rfl (fun K6 hK6 => ?_) AllReadyH.nil)
                refine step_set1 (by rfl) _ _ (by rfl) (by rfl) (B := W3.heap.size) (u := b) (by rfl) (by rfl) hb1 hB6 ?_
                refine hK6.out _ _ hS7 (fun hSS7 => ?_)
                clear hS7 hK6
                generalize World.setCell WB ⟨W3.heap.size, 0, none⟩ b = WC at *
                refine wpAnyH_done (by kernel_rfl) ?_ _
                go_wp2_with fail
                go_meet
                exact hTwo
              · refine step_plain (by rfl) ?_
                simp only [List.getElem_toArray, List.getElem_cons_zero, List.getElem_cons_succ]
                go_simp
                have hbn : Below W2.heap.size W2 (W2.alloc (.cells #[.nilIface] 30)) := (Below.refl _ _).alloc (Nat.le_refl _) _
                have hB := heap_alloc_new W2 (.cells #[.nilIface] 30)
                replace hX := hX.stays hbn
                replace hA := (hbn.block _ (Array.getElem?_eq_some_iff.1 hA).1).trans hA
                have hz3 : W2.heap.size < (W2.alloc (.cells #[.nilIface] 30)).heap.size := by simp
                refine hK3.out _ _ (hSS.trans (hbn.mono hSS.size)) (fun hSS => ?_)
                clear hbn hK3
                generalize W2.alloc (.cells #[.nilIface] 30) = W3 at *
                refine wpAnyH_ready (rs := [3]) (by kernel_rfl) (by simp) (AllReadyH.cons rfl (fun K4 hK4 => ?_) AllReadyH.nil)
                refine step_plain (by rfl) ?_
                simp only [List.getElem_toArray, List.getElem_cons_zero, List.getElem_cons_succ]
                go_simp
                go_at_call 11
                refine (T2.out _ hSS).mono ?_
                rintro e W4 ⟨b, rfl, hb1, hY, hbn⟩
                replace hX := hX.stays hbn
                replace hA := (hbn.block _ (Array.getElem?_eq_some_iff.1 hA).1).trans hA
                replace hB := (hbn.block _ (Array.getElem?_eq_some_iff.1 hB).1).trans hB
                replace hY := hY.mono (ok' := fun b => W3.heap.size ≤ b ∧ b < W4.heap.size) (fun _ h1 h2 => ⟨h1, h2⟩)
                have hz4 := hbn.size
                go_simp
                refine hK4.out _ _ (hSS.trans (hbn.mono hSS.size)) (fun hSS => ?_)
                clear hbn hK4
                have hTwo := TwoR.mk (A := W1.heap.size) (B := W2.heap.size) hSS hA hB hX hY (by omega) (by omega) (by omega) (fun b hb => by omega) (fun b hb => by omega)
                have hS6 := hSS.setCell (p := ⟨W1.heap.size, 0, none⟩) (show _ ≤ W1.heap.size by omega) a
                have hS7 := hS6.setCell (p := ⟨W2.heap.size, 0, none⟩) (show _ ≤ W2.heap.size by omega) b
                have hB6 := (Below.heap_setCell W4 ⟨W1.heap.size, 0, none⟩ a (W2.heap.size) (show W2.heap.size ≠ W1.heap.size by omega)).trans hB
                refine wpAnyH_ready (rs := [6]) (by kernel_rfl) (by simp) (AllReadyH.cons rfl (fun K5 hK5 => ?_) AllReadyH.nil)
                refine step_set1 (by rfl) _ _ (by rfl) (by rfl) (B := W1.heap.size) (u := a) (by rfl) (by rfl) ha1 hA ?_
                refine hK5.out _ _ hS6 (fun hSS6 => ?_)
                clear hS6 hK5
                generalize World.setCell W4 ⟨W1.heap.size, 0, none⟩ a = WB at *
                refine wpAnyH_ready (rs := [7]) (by kernel_rfl) (by simp) (AllReadyH.cons rfl (fun K6 hK6 => ?_) AllReadyH.nil)
                refine step_set1 (by rfl) _ _ (by rfl) (by rfl) (B := W2.heap.size) (u := b) (by rfl) (by rfl) hb1 hB6 ?_
                refine hK6.out _ _ hS7 (fun hSS7 => ?_)
                clear hS7 hK6
                generalize World.setCell WB ⟨W2.heap.size, 0, none⟩ b = WC at *
                refine wpAnyH_done (by kernel_rfl) ?_ _
                go_wp2_with fail
                go_meet
                exact hTwo
            · refine step_plain (by rfl) ?_
              simp only [List.getElem_toArray, List.getElem_cons_zero, List.getElem_cons_succ]
              go_simp
              have hbn : Below W1.heap.size W1 (W1.alloc (.cells #[.nilIface] 30)) := (Below.refl _ _).alloc (Nat.le_refl _) _
              have hB := heap_alloc_new W1 (.cells #[.nilIface] 30)
              replace hX := hX.stays hbn
              have hz2 : W1.heap.size < (W1.alloc (.cells #[.nilIface] 30)).heap.size := by simp
              refine hK2.out _ _ (hSS.trans (hbn.mono hSS.size)) (fun hSS => ?_)
              clear hbn hK2
              generalize W1.alloc (.cells #[.nilIface] 30) = W2 at *
              refine wpAnyH_ready (rs := [3, 4]) (by kernel_rfl) (by simp) (AllReadyH.cons rfl (fun K3 hK3 => ?_) (AllReadyH.cons rfl (fun K3 hK3 => ?_) AllReadyH.nil))
              · refine step_plain (by rfl) ?_
                simp only [List.getElem_toArray, List.getElem_cons_zero, List.getElem_cons_succ]
                go_simp
                go_at_call 11
                refine (T2.out _ hSS).mono ?_
                rintro e W3 ⟨b, rfl, hb1, hY, hbn⟩
                replace hX := hX.stays hbn
                replace hB := (hbn.block _ (Array.getElem?_eq_some_iff.1 hB).1).trans hB
                replace hY := hY.mono (ok' := fun b => W2.heap.size ≤ b ∧ b < W3.heap.size) (fun _ h1 h2 => ⟨h1, h2⟩)
                have hz3 := hbn.size
                go_simp
                refine hK3.out _ _ (hSS.trans (hbn.mono hSS.size)) (fun hSS => ?_)
                clear hbn hK3
                refine wpAnyH_ready (rs := [4]) (by kernel_rfl) (by simp) (AllReadyH.cons rfl (fun K4 hK4 => ?_) AllReadyH.nil)
                refine step_plain (by rfl) ?_
                simp only [List.getElem_toArray, List.getElem_cons_zero, List.getElem_cons_succ]
                go_simp
                have hbn : Below W3.heap.size W3 (W3.alloc (.cells #[.nilIface] 30)) := (Below.refl _ _).alloc (Nat.le_refl _) _
                have hA := heap_alloc_new W3 (.cells #[.nilIface] 30)
                replace hX := hX.stays hbn
                replace hB := (hbn.block _ (Array.getElem?_eq_some_iff.1 hB).1).trans hB
                replace hY := hY.stays hbn
                have hz4 : W3.heap.size < (W3.alloc (.cells #[.nilIface] 30)).heap.size := by simp
                refine hK4.out _ _ (hSS.trans (hbn.mono hSS.size)) (fun hSS => ?_)
                clear hbn hK4
                generalize W3.alloc (.cells #[.nilIface] 30) = W4 at *
                have hTwo := TwoR.mk (A := W3.heap.size) (B := W1.heap.size) hSS hA hB hX hY (by omega) (by omega) (by omega) (fun b hb => by omega) (fun b hb => by omega)
                have hS6 := hSS.setCell (p := ⟨W3.heap.size, 0, none⟩) (show _ ≤ W3.heap.size by omega) a
                have hS7 := hS6.setCell (p := ⟨W1.heap.size, 0, none⟩) (show _ ≤ W1.heap.size by omega) b
                have hB6 := (Below.heap_setCell W4 ⟨W3.heap.size, 0, none⟩ a (W1.heap.size) (show W1.heap.size ≠ W3.heap.size by omega)).trans hB
                refine wpAnyH_ready (rs := [6]) (by kernel_rfl) (by simp) (AllReadyH.cons rfl (fun K5 hK5 => ?_) AllReadyH.nil)
                refine step_set1 (by rfl) _ _ (by rfl) (by rfl) (B := W3.heap.size) (u := a) (by rfl) (by rfl) ha1 hA ?_
                refine hK5.out _ _ hS6 (fun hSS6 => ?_)
                clear hS6 hK5
                generalize World.setCell W4 ⟨W3.heap.size, 0, none⟩ a = WB at *
                refine wpAnyH_ready (rs := [7]) (by kernel_rfl) (by simp) (AllReadyH.cons rfl (fun K6 hK6 => ?_) AllReadyH.nil)
                refine step_set1 (by rfl) _ _ (by rfl) (by rfl) (B := W1.heap.size) (u := b) (by rfl) (by rfl) hb1 hB6 ?_
                refine hK6.out _ _ hS7 (fun hSS7 => ?_)
                clear hS7 hK6
                generalize World.setCell WB ⟨W1.heap.size, 0, none⟩ b = WC at *
                refine wpAnyH_done (by kernel_rfl) ?_ _
                go_wp2_with fail
                go_meet
                exact hTwo
              · refine step_plain (by rfl) ?_
                simp only [List.getElem_toArray, List.getElem_cons_zero, List.getElem_cons_succ]
                go_simp
                have hbn : Below W2.heap.size W2 (W2.alloc (.cells #[.nilIface] 30)) := (Below.refl _ _).alloc (Nat.le_refl _) _
                have hA := heap_alloc_new W2 (.cells #[.nilIface] 30)
                replace hX := hX.stays hbn
                replace hB := (hbn.block _ (Array.getElem?_eq_some_iff.1 hB).1).trans hB
                have hz3 : W2.heap.size < (W2.alloc (.cells #[.nilIface] 30)).heap.size := by simp
                refine hK3.out _ _ (hSS.trans (hbn.mono hSS.size)) (fun hSS => ?_)
                clear hbn hK3
                generalize W2.alloc (.cells #[.nilIface] 30) = W3 at *
                refine wpAnyH_ready (rs := [3]) (by kernel_rfl) (by simp) (AllReadyH.cons rfl (fun K4 hK4 => ?_) AllReadyH.nil)
                refine step_plain (by rfl) ?_
                simp only [List.getElem_toArray, List.getElem_cons_zero, List.getElem_cons_succ]
                go_simp
                go_at_call 11
                refine (T2.out _ hSS).mono ?_
                rintro e W4 ⟨b, rfl, hb1, hY, hbn⟩
                replace hX := hX.stays hbn
                replace hB := (hbn.block _ (Array.getElem?_eq_some_iff.1 hB).1).trans hB
                replace hA := (hbn.block _ (Array.getElem?_eq_some_iff.1 hA).1).trans hA
                replace hY := hY.mono (ok' := fun b => W3.heap.size ≤ b ∧ b < W4.heap.size) (fun _ h1 h2 => ⟨h1, h2⟩)
                have hz4 := hbn.size
                go_simp
                refine hK4.out _ _ (hSS.trans (hbn.mono hSS.size)) (fun hSS => ?_)
                clear hbn hK4
                have hTwo := TwoR.mk (A := W2.heap.size) (B := W1.heap.size) hSS hA hB hX hY (by omega) (by omega) (by omega) (fun b hb => by omega) (fun b hb => by omega)
                have hS6 := hSS.setCell (p := ⟨W2.heap.size, 0, none⟩) (show _ ≤ W2.heap.size by omega) a
                have hS7 := hS6.setCell (p := ⟨W1.heap.size, 0, none⟩) (show _ ≤ W1.heap.size by omega) b
                have hB6 := (Below.heap_setCell W4 ⟨W2.heap.size, 0, none⟩ a (W1.heap.size) (show W1.heap.size ≠ W2.heap.size by omega)).trans hB
                refine wpAnyH_ready (rs := [6]) (by kernel_rfl) (by simp) (AllReadyH.cons rfl (fun K5 hK5 => ?_) AllReadyH.nil)
                refine step_set1 (by rfl) _ _ (by rfl) (by rfl) (B := W2.heap.size) (u := a) (by rfl) (by rfl) ha1 hA ?_
                refine hK5.out _ _ hS6 (fun hSS6 => ?_)
                clear hS6 hK5
                generalize World.setCell W4 ⟨W2.heap.size, 0, none⟩ a = WB at *
                refine wpAnyH_ready (rs := [7]) (by kernel_rfl) (by simp) (AllReadyH.cons rfl (fun K6 hK6 => ?_) AllReadyH.nil)
                refine step_set1 (by rfl) _ _ (by rfl) (by rfl) (B := W1.heap.size) (u := b) (by rfl) (by rfl) hb1 hB6 ?_
                refine hK6.out _ _ hS7 (fun hSS7 => ?_)
                clear hS7 hK6
                generalize World.setCell WB ⟨W1.heap.size, 0, none⟩ b = WC at *
                refine wpAnyH_done (by kernel_rfl) ?_ _
                go_wp2_with fail
                go_meet
                exact hTwo
          · refine step_plain (by rfl) ?_
            simp only [List.getElem_toArray, List.getElem_cons_zero, List.getElem_cons_succ]
            go_simp
            have hbn : Below W0.heap.size W0 (W0.alloc (.cells #[.nilIface] 30)) := (Below.refl _ _).alloc (Nat.le_refl _) _
            have hA := heap_alloc_new W0 (.cells #[.nilIface] 30)
            have hz1 : W0.heap.size < (W0.alloc (.cells #[.nilIface] 30)).heap.size := by simp
            refine hK1.out _ _ (hSS.trans (hbn.mono hSS.size)) (fun hSS => ?_)
            clear hbn hK1
            generalize W0.alloc (.cells #[.nilIface] 30) = W1 at *
            refine wpAnyH_ready (rs := [1, 5]) (by kernel_rfl) (by simp) (AllReadyH.cons rfl (fun K2 hK2 => ?_) (AllReadyH.cons rfl (fun K2 hK2 => ?_) AllReadyH.nil))
            · refine step_plain (by rfl) ?_
              simp only [List.getElem_toArray, List.getElem_cons_zero, List.getElem_cons_succ]
              go_simp
              go_at_call 11
              refine (T1.out _ hSS).mono ?_
              rintro e W2 ⟨a, rfl, ha1, hX, hbn⟩
              replace hA := (hbn.block _ (Array.getElem?_eq_some_iff.1 hA).1).trans hA
              replace hX := hX.mono (ok' := fun b => W1.heap.size ≤ b ∧ b < W2.heap.size) (fun _ h1 h2 => ⟨h1, h2⟩)
              have hz2 := hbn.size
              go_simp
              refine hK2.out _ _ (hSS.trans (hbn.mono hSS.size)) (fun hSS => ?_)
              clear hbn hK2
              refine wpAnyH_ready (rs := [3, 5]) (by kernel_rfl) (by simp) (AllReadyH.cons rfl (fun K3 hK3 => ?_) (AllReadyH.cons rfl (fun K3 hK3 => ?_) AllReadyH.nil))
              · refine step_plain (by rfl) ?_
                simp only [List.getElem_toArray, List.getElem_cons_zero, List.getElem_cons_succ]
                go_simp
                go_at_call 11
                refine (T2.out _ hSS).mono ?_
                rintro e W3 ⟨b, rfl, hb1, hY, hbn⟩
                replace hA := (hbn.block _ (Array.getElem?_eq_some_iff.1 hA).1).trans hA
                replace hX := hX.stays hbn
                replace hY := hY.mono (ok' := fun b => W2.heap.size ≤ b ∧ b < W3.heap.size) (fun _ h1 h2 => ⟨h1, h2⟩)
                have hz3 := hbn.size
                go_simp
                refine hK3.out _ _ (hSS.trans (hbn.mono hSS.size)) (fun hSS => ?_)
                clear hbn hK3
                refine wpAnyH_ready (rs := [5]) (by kernel_rfl) (by simp) (AllReadyH.cons rfl (fun K4 hK4 => ?_) AllReadyH.nil)
                refine step_plain (by rfl) ?_
                simp only [List.getElem_toArray, List.getElem_cons_zero, List.getElem_cons_succ]
                go_simp
                have hbn : Below W3.heap.size W3 (W3.alloc (.cells #[.nilIface] 30)) := (Below.refl _ _).alloc (Nat.le_refl _) _
                have hB := heap_alloc_new W3 (.cells #[.nilIface] 30)
                replace hA := (hbn.block _ (Array.getElem?_eq_some_iff.1 hA).1).trans hA
                replace hX := hX.stays hbn
                replace hY := hY.stays hbn
                have hz4 : W3.heap.size < (W3.alloc (.cells #[.nilIface] 30)).heap.size := by simp
                refine hK4.out _ _ (hSS.trans (hbn.mono hSS.size)) (fun hSS => ?_)
                clear hbn hK4
                generalize W3.alloc (.cells #[.nilIface] 30) = W4 at *
                have hTwo := TwoR.mk (A := W0.heap.size) (B := W3.heap.size) hSS hA hB hX hY (by omega) (by omega) (by omega) (fun b hb => by omega) (fun b hb => by omega)
                have hS6 := hSS.setCell (p := ⟨W0.heap.size, 0, none⟩) (show _ ≤ W0.heap.size by omega) a
                have hS7 := hS6.setCell (p := ⟨W3.heap.size, 0, none⟩) (show _ ≤ W3.heap.size by omega) b
                have hB6 := (Below.heap_setCell W4 ⟨W0.heap.size, 0, none⟩ a (W3.heap.size) (show W3.heap.size ≠ W0.heap.size by omega)).trans hB
                refine wpAnyH_ready (rs := [6]) (by kernel_rfl) (by simp) (AllReadyH.cons rfl (fun K5 hK5 => ?_) AllReadyH.nil)
                refine step_set1 (by rfl) _ _ (by rfl) (by rfl) (B := W0.heap.size) (u := a) (by rfl) (by rfl) ha1 hA ?_
                refine hK5.out _ _ hS6 (fun hSS6 => ?_)
                clear hS6 hK5
                generalize World.setCell W4 ⟨W0.heap.size, 0, none⟩ a = WB at *
                refine wpAnyH_ready (rs := [7]) (by kernel_rfl) (by simp) (AllReadyH.cons rfl (fun K6 hK6 => ?_) AllReadyH.nil)
                refine step_set1 (by rfl) _ _ (by rfl) (by rfl) (B := W3.heap.size) (u := b) (by rfl) (by rfl) hb1 hB6 ?_
                refine hK6.out _ _ hS7 (fun hSS7 => ?_)
                clear hS7 hK6
                generalize World.setCell WB ⟨W3.heap.size, 0, none⟩ b = WC at *
                refine wpAnyH_done (by kernel_rfl) ?_ _
                go_wp2_with fail
                go_meet
                exact hTwo
              · refine step_plain (by rfl) ?_
                simp only [List.getElem_toArray, List.getElem_cons_zero, List.getElem_cons_succ]
                go_simp
                have hbn : Below W2.heap.size W2 (W2.alloc (.cells #[.nilIface] 30)) := (Below.refl _ _).alloc (Nat.le_refl _) _
                have hB := heap_alloc_new W2 (.cells #[.nilIface] 30)
                replace hA := (hbn.block _ (Array.getElem?_eq_some_iff.1 hA).1).trans hA
                replace hX := hX.stays hbn
                have hz3 : W2.heap.size < (W2.alloc (.cells #[.nilIface] 30)).heap.size := by simp
                refine hK3.out _ _ (hSS.trans (hbn.mono hSS.size)) (fun hSS => ?_)
                clear hbn hK3
                generalize W2.alloc (.cells #[.nilIface] 30) = W3 at *
                refine wpAnyH_ready (rs := [3]) (by kernel_rfl) (by simp) (AllReadyH.cons rfl (fun K4 hK4 => ?_) AllReadyH.nil)
                refine step_plain (by rfl) ?_
                simp only [List.getElem_toArray, List.getElem_cons_zero, List.getElem_cons_succ]
                go_simp
                go_at_call 11
                refine (T2.out _ hSS).mono ?_
                rintro e W4 ⟨b, rfl, hb1, hY, hbn⟩
                replace hA := (hbn.block _ (Array.getElem?_eq_some_iff.1 hA).1).trans hA
                replace hX := hX.stays hbn
                replace hB := (hbn.block _ (Array.getElem?_eq_some_iff.1 hB).1).trans hB
                replace hY := hY.mono (ok' := fun b => W3.heap.size ≤ b ∧ b < W4.heap.size) (fun _ h1 h2 => ⟨h1, h2⟩)
                have hz4 := hbn.size
                go_simp
                refine hK4.out _ _ (hSS.trans (hbn.mono hSS.size)) (fun hSS => ?_)
                clear hbn hK4
                have hTwo := TwoR.mk (A := W0.heap.size) (B := W2.heap.size) hSS hA hB hX hY (by omega) (by omega) (by omega) (fun b hb => by omega) (fun b hb => by omega)
                have hS6 := hSS.setCell (p := ⟨W0.heap.size, 0, none⟩) (show _ ≤ W0.heap.size by omega) a
                have hS7 := hS6.setCell (p := ⟨W2.heap.size, 0, none⟩) (show _ ≤ W2.heap.size by omega) b
                have hB6 := (Below.heap_setCell W4 ⟨W0.heap.size, 0, none⟩ a (W2.heap.size) (show W2.heap.size ≠ W0.heap.size by omega)).trans hB
                refine wpAnyH_ready (rs := [6]) (by kernel_rfl) (by simp) (AllReadyH.cons rfl (fun K5 hK5 => ?_) AllReadyH.nil)
                refine step_set1 (by rfl) _ _ (by rfl) (by rfl) (B := W0.heap.size) (u := a) (by rfl) (by rfl) ha1 hA ?_
                refine hK5.out _ _ hS6 (fun hSS6 => ?_)
                clear hS6 hK5
                generalize World.setCell W4 ⟨W0.heap.size, 0, none⟩ a = WB at *
                refine wpAnyH_ready (rs := [7]) (by kernel_rfl) (by simp) (AllReadyH.cons rfl (fun K6 hK6 => ?_) AllReadyH.nil)
                refine step_set1 (by rfl) _ _ (by rfl) (by rfl) (B := W2.heap.size) (u := b) (by rfl) (by rfl) hb1 hB6 ?_
                refine hK6.out _ _ hS7 (fun hSS7 => ?_)
                clear hS7 hK6
                generalize World.setCell WB ⟨W2.heap.size, 0, none⟩ b = WC at *
                refine wpAnyH_done (by kernel_rfl) ?_ _
                go_wp2_with fail
                go_meet
                exact hTwo
            · refine step_plain (by rfl) ?_
              simp only [List.getElem_toArray, List.getElem_cons_zero, List.getElem_cons_succ]
              go_simp
              have hbn : Below W1.heap.size W1 (W1.alloc (.cells #[.nilIface] 30)) := (Below.refl _ _).alloc (Nat.le_refl _) _
              have hB := heap_alloc_new W1 (.cells #[.nilIface] 30)
              replace hA := (hbn.block _ (Array.getElem?_eq_some_iff.1 hA).1).trans hA
              have hz2 : W1.heap.size < (W1.alloc (.cells #[.nilIface] 30)).heap.size := by simp
              refine hK2.out _ _ (hSS.trans (hbn.mono hSS.size)) (fun hSS => ?_)
              clear hbn hK2
              generalize W1.alloc (.cells #[.nilIface] 30) = W2 at *
              refine wpAnyH_ready (rs := [1]) (by kernel_rfl) (by simp) (AllReadyH.cons rfl (fun K3 hK3 => ?_) AllReadyH.nil)
              refine step_plain (by rfl) ?_
              simp only [List.getElem_toArray, List.getElem_cons_zero, List.getElem_cons_succ]
              go_simp
              go_at_call 11
              refine (T1.out _ hSS).mono ?_
              rintro e W3 ⟨a, rfl, ha1, hX, hbn⟩
              replace hA := (hbn.block _ (Array.getElem?_eq_some_iff.1 hA).1).trans hA
              replace hB := (hbn.block _ (Array.getElem?_eq_some_iff.1 hB).1).trans hB
              replace hX := hX.mono (ok' := fun b => W2.heap.size ≤ b ∧ b < W3.heap.size) (fun _ h1 h2 => ⟨h1, h2⟩)
              have hz3 := hbn.size
              go_simp
              refine hK3.out _ _ (hSS.trans (hbn.mono hSS.size)) (fun hSS => ?_)
              clear hbn hK3
              refine wpAnyH_ready (rs := [3]) (by kernel_rfl) (by simp) (AllReadyH.cons rfl (fun K4 hK4 => ?_) AllReadyH.nil)
              refine step_plain (by rfl) ?_
              simp only [List.getElem_toArray, List.getElem_cons_zero, List.getElem_cons_succ]
              go_simp
              go_at_call 11
              refine (T2.out _ hSS).mono ?_
              rintro e W4 ⟨b, rfl, hb1, hY, hbn⟩
              replace hA := (hbn.block _ (Array.getElem?_eq_some_iff.1 hA).1).trans hA
              replace hB := (hbn.block _ (Array.getElem?_eq_some_iff.1 hB).1).trans hB
              replace hX := hX.stays hbn
              replace hY := hY.mono (ok' := fun b => W3.heap.size ≤ b ∧ b < W4.heap.size) (fun _ h1 h2 => ⟨h1, h2⟩)
              have hz4 := hbn.size
              go_simp
              refine hK4.out _ _ (hSS.trans (hbn.mono hSS.size)) (fun hSS => ?_)
              clear hbn hK4
              have hTwo := TwoR.mk (A := W0.heap.size) (B := W1.heap.size) hSS hA hB hX hY (by omega) (by omega) (by omega) (fun b hb => by omega) (fun b hb => by omega)
              have hS6 := hSS.setCell (p := ⟨W0.heap.size, 0, none⟩) (show _ ≤ W0.heap.size by omega) a
              have hS7 := hS6.setCell (p := ⟨W1.heap.size, 0, none⟩) (show _ ≤ W1.heap.size by omega) b
              have hB6 := (Below.heap_setCell W4 ⟨W0.heap.size, 0, none⟩ a (W1.heap.size) (show W1.heap.size ≠ W0.heap.size by omega)).trans hB
              refine wpAnyH_ready (rs := [6]) (by kernel_rfl) (by simp) (AllReadyH.cons rfl (fun K5 hK5 => ?_) AllReadyH.nil)
              refine step_set1 (by rfl) _ _ (by rfl) (by rfl) (B := W0.heap.size) (u := a) (by rfl) (by rfl) ha1 hA ?_
              refine hK5.out _ _ hS6 (fun hSS6 => ?_)
              clear hS6 hK5
              generalize World.setCell W4 ⟨W0.heap.size, 0, none⟩ a = WB at *
              refine wpAnyH_ready (rs := [7]) (by kernel_rfl) (by simp) (AllReadyH.cons rfl (fun K6 hK6 => ?_) AllReadyH.nil)
              refine step_set1 (by rfl) _ _ (by rfl) (by rfl) (B := W1.heap.size) (u := b) (by rfl) (by rfl) hb1 hB6 ?_
              refine hK6.out _ _ hS7 (fun hSS7 => ?_)
              clear hS7 hK6
              generalize World.setCell WB ⟨W1.heap.size, 0, none⟩ b = WC at *
              refine wpAnyH_done (by kernel_rfl) ?_ _
              go_wp2_with fail
              go_meet
              exact hTwo
          · refine step_plain (by rfl) ?_
            simp only [List.getElem_toArray, List.getElem_cons_zero, List.getElem_cons_succ]
            go_simp
            have hbn : Below W0.heap.size W0 (W0.alloc (.cells #[.nilIface] 30)) := (Below.refl _ _).alloc (Nat.le_refl _) _
            have hB := heap_alloc_new W0 (.cells #[.nilIface] 30)
            have hz1 : W0.heap.size < (W0.alloc (.cells #[.nilIface] 30)).heap.size := by simp
            refine hK1.out _ _ (hSS.trans (hbn.mono hSS.size)) (fun hSS => ?_)
            clear hbn hK1
            generalize W0.alloc (.cells #[.nilIface] 30) = W1 at *
            refine wpAnyH_ready (rs := [1, 4]) (by kernel_rfl) (by simp) (AllReadyH.cons rfl (fun K2 hK2 => ?_) (AllReadyH.cons rfl (fun K2 hK2 => ?_) AllReadyH.nil))
            · refine step_plain (by rfl) ?_
              simp only [List.getElem_toArray, List.getElem_cons_zero, List.getElem_cons_succ]
              go_simp
              go_at_call 11
              refine (T1.out _ hSS).mono ?_
              rintro e W2 ⟨a, rfl, ha1, hX, hbn⟩
              replace hB := (hbn.block _ (Array.getElem?_eq_some_iff.1 hB).1).trans hB
              replace hX := hX.mono (ok' := fun b => W1.heap.size ≤ b ∧ b < W2.heap.size) (fun _ h1 h2 => ⟨h1, h2⟩)
              have hz2 := hbn.size
              go_simp
              refine hK2.out _ _ (hSS.trans (hbn.mono hSS.size)) (fun hSS => ?_)
              clear hbn hK2
              refine wpAnyH_ready (rs := [3, 4]) (by kernel_rfl) (by simp) (AllReadyH.cons rfl (fun K3 hK3 => ?_) (AllReadyH.cons rfl (fun K3 hK3 => ?_) AllReadyH.nil))
              · refine step_plain (by rfl) ?_
                simp only [List.getElem_toArray, List.getElem_cons_zero, List.getElem_cons_succ]
                go_simp
                go_at_call 11
                refine (T2.out _ hSS).mono ?_
                rintro e W3 ⟨b, rfl, hb1, hY, hbn⟩
                replace hB := (hbn.block _ (Array.getElem?_eq_some_iff.1 hB).1).trans hB
                replace hX := hX.stays hbn
                replace hY := hY.mono (ok' := fun b => W2.heap.size ≤ b ∧ b < W3.heap.size) (fun _ h1 h2 => ⟨h1, h2⟩)
                have hz3 := hbn.size
                go_simp
                refine hK3.out _ _ (hSS.trans (hbn.mono hSS.size)) (fun hSS => ?_)
                clear hbn hK3
                refine wpAnyH_ready (rs := [4]) (by kernel_rfl) (by simp) (AllReadyH.cons rfl (fun K4 hK4 => ?_) AllReadyH.nil)
                refine step_plain (by rfl) ?_
                simp only [List.getElem_toArray, List.getElem_cons_zero, List.getElem_cons_succ]
                go_simp
                have hbn : Below W3.heap.size W3 (W3.alloc (.cells #[.nilIface] 30)) := (Below.refl _ _).alloc (Nat.le_refl _) _
                have hA := heap_alloc_new W3 (.cells #[.nilIface] 30)
                replace hB := (hbn.block _ (Array.getElem?_eq_some_iff.1 hB).1).trans hB
                replace hX := hX.stays hbn
                replace hY := hY.stays hbn
                have hz4 : W3.heap.size < (W3.alloc (.cells #[.nilIface] 30)).heap.size := by simp
                refine hK4.out _ _ (hSS.trans (hbn.mono hSS.size)) (fun hSS => ?_)
                clear hbn hK4
                generalize W3.alloc (.cells #[.nilIface] 30) = W4 at *
                have hTwo := TwoR.mk (A := W3.heap.size) (B := W0.heap.size) hSS hA hB hX hY (by omega) (by omega) (by omega) (fun b hb => by omega) (fun b hb => by omega)
                have hS6 := hSS.setCell (p := ⟨W3.heap.size, 0, none⟩) (show _ ≤ W3.heap.size by omega) a
                have hS7 := hS6.setCell (p := ⟨W0.heap.size, 0, none⟩) (show _ ≤ W0.heap.size by omega) b
                have hB6 := (Below.heap_setCell W4 ⟨W3.heap.size, 0, none⟩ a (W0.heap.size) (show W0.heap.size ≠ W3.heap.size by omega)).trans hB
                refine wpAnyH_ready (rs := [6]) (by kernel_rfl) (by simp) (AllReadyH.cons rfl (fun K5 hK5 => ?_) AllReadyH.nil)
                refine step_set1 (by rfl) _ _ (by rfl) (by rfl) (B := W3.heap.size) (u := a) (by rfl) (by rfl) ha1 hA ?_
                refine hK5.out _ _ hS6 (fun hSS6 => ?_)
                clear hS6 hK5
                generalize World.setCell W4 ⟨W3.heap.size, 0, none⟩ a = WB at *
                refine wpAnyH_ready (rs := [7]) (by kernel_rfl) (by simp) (AllReadyH.cons rfl (fun K6 hK6 => ?_) AllReadyH.nil)
                refine step_set1 (by rfl) _ _ (by rfl) (by rfl) (B := W0.heap.size) (u := b) (by rfl) (by rfl) hb1 hB6 ?_
                refine hK6.out _ _ hS7 (fun hSS7 => ?_)
                clear hS7 hK6
                generalize World.setCell WB ⟨W0.heap.size, 0, none⟩ b = WC at *
                refine wpAnyH_done (by kernel_rfl) ?_ _
                go_wp2_with fail
                go_meet
                exact hTwo
              · refine step_plain (by rfl) ?_
                simp only [List.getElem_toArray, List.getElem_cons_zero, List.getElem_cons_succ]
                go_simp
                have hbn : Below W2.heap.size W2 (W2.alloc (.cells #[.nilIface] 30)) := (Below.refl _ _).alloc (Nat.le_refl _) _
                have hA := heap_alloc_new W2 (.cells #[.nilIface] 30)
                replace hB := (hbn.block _ (Array.getElem?_eq_some_iff.1 hB).1).trans hB
                replace hX := hX.stays hbn
                have hz3 : W2.heap.size < (W2.alloc (.cells #[.nilIface] 30)).heap.size := by simp
                refine hK3.out _ _ (hSS.trans (hbn.mono hSS.size)) (fun hSS => ?_)
                clear hbn hK3
                generalize W2.alloc (.cells #[.nilIface] 30) = W3 at *
                refine wpAnyH_ready (rs := [3]) (by kernel_rfl) (by simp) (AllReadyH.cons rfl (fun K4 hK4 => ?_) AllReadyH.nil)
                refine step_plain (by rfl) ?_
                simp only [List.getElem_toArray, List.getElem_cons_zero, List.getElem_cons_succ]
                go_simp
                go_at_call 11
                refine (T2.out _ hSS).mono ?_
                rintro e W4 ⟨b, rfl, hb1, hY, hbn⟩
                replace hB := (hbn.block _ (Array.getElem?_eq_some_iff.1 hB).1).trans hB
                replace hX := hX.stays hbn
                replace hA := (hbn.block _ (Array.getElem?_eq_some_iff.1 hA).1).trans hA
                replace hY := hY.mono (ok' := fun b => W3.heap.size ≤ b ∧ b < W4.heap.size) (fun _ h1 h2 => ⟨h1, h2⟩)
                have hz4 := hbn.size
                go_simp
                refine hK4.out _ _ (hSS.trans (hbn.mono hSS.size)) (fun hSS => ?_)
                clear hbn hK4
                have hTwo := TwoR.mk (A := W2.heap.size) (B := W0.heap.size) hSS hA hB hX hY (by omega) (by omega) (by omega) (fun b hb => by omega) (fun b hb => by omega)
                have hS6 := hSS.setCell (p := ⟨W2.heap.size, 0, none⟩) (show _ ≤ W2.heap.size by omega) a
                have hS7 := hS6.setCell (p := ⟨W0.heap.size, 0, none⟩) (show _ ≤ W0.heap.size by omega) b
                have hB6 := (Below.heap_setCell W4 ⟨W2.heap.size, 0, none⟩ a (W0.heap.size) (show W0.heap.size ≠ W2.heap.size by omega)).trans hB
                refine wpAnyH_ready (rs := [6]) (by kernel_rfl) (by simp) (AllReadyH.cons rfl (fun K5 hK5 => ?_) AllReadyH.nil)
                refine step_set1 (by rfl) _ _ (by rfl) (by rfl) (B := W2.heap.size) (u := a) (by rfl) (by rfl) ha1 hA ?_
                refine hK5.out _ _ hS6 (fun hSS6 => ?_)
                clear hS6 hK5
                generalize World.setCell W4 ⟨W2.heap.size, 0, none⟩ a = WB at *
                refine wpAnyH_ready (rs := [7]) (by kernel_rfl) (by simp) (AllReadyH.cons rfl (fun K6 hK6 => ?_) AllReadyH.nil)
                refine step_set1 (by rfl) _ _ (by rfl) (by rfl) (B := W0.heap.size) (u := b) (by rfl) (by rfl) hb1 hB6 ?_
                refine hK6.out _ _ hS7 (fun hSS7 => ?_)
                clear hS7 hK6
                generalize World.setCell WB ⟨W0.heap.size, 0, none⟩ b = WC at *
                refine wpAnyH_done (by kernel_rfl) ?_ _
                go_wp2_with fail
                go_meet
                exact hTwo
            · refine step_plain (by rfl) ?_
              simp only [List.getElem_toArray, List.getElem_cons_zero, List.getElem_cons_succ]
              go_simp
              have hbn : Below W1.heap.size W1 (W1.alloc (.cells #[.nilIface] 30)) := (Below.refl _ _).alloc (Nat.le_refl _) _
              have hA := heap_alloc_new W1 (.cells #[.nilIface] 30)
              replace hB := (hbn.block _ (Array.getElem?_eq_some_iff.1 hB).1).trans hB
              have hz2 : W1.heap.size < (W1.alloc (.cells #[.nilIface] 30)).heap.size := by simp
              refine hK2.out _ _ (hSS.trans (hbn.mono hSS.size)) (fun hSS => ?_)
              clear hbn hK2
              generalize W1.alloc (.cells #[.nilIface] 30) = W2 at *
              refine wpAnyH_ready (rs := [1]) (by kernel_rfl) (by simp) (AllReadyH.cons rfl (fun K3 hK3 => ?_) AllReadyH.nil)
              refine step_plain (by rfl) ?_
              simp only [List.getElem_toArray, List.getElem_cons_zero, List.getElem_cons_succ]
              go_simp
              go_at_call 11
              refine (T1.out _ hSS).mono ?_
              rintro e W3 ⟨a, rfl, ha1, hX, hbn⟩
              replace hB := (hbn.block _ (Array.getElem?_eq_some_iff.1 hB).1).trans hB
              replace hA := (hbn.block _ (Array.getElem?_eq_some_iff.1 hA).1).trans hA
              replace hX := hX.mono (ok' := fun b => W2.heap.size ≤ b ∧ b < W3.heap.size) (fun _ h1 h2 => ⟨h1, h2⟩)
              have hz3 := hbn.size
              go_simp
              refine hK3.out _ _ (hSS.trans (hbn.mono hSS.size)) (fun hSS => ?_)
              clear hbn hK3
              refine wpAnyH_ready (rs := [3]) (by kernel_rfl) (by simp) (AllReadyH.cons rfl (fun K4 hK4 => ?_) AllReadyH.nil)
              refine step_plain (by rfl) ?_
              simp only [List.getElem_toArray, List.getElem_cons_zero, List.getElem_cons_succ]
              go_simp
              go_at_call 11
              refine (T2.out _ hSS).mono ?_
              rintro e W4 ⟨b, rfl, hb1, hY, hbn⟩
              replace hB := (hbn.block _ (Array.getElem?_eq_some_iff.1 hB).1).trans hB
              replace hA := (hbn.block _ (Array.getElem?_eq_some_iff.1 hA).1).trans hA
              replace hX := hX.stays hbn
              replace hY := hY.mono (ok' := fun b => W3.heap.size ≤ b ∧ b < W4.heap.size) (fun _ h1 h2 => ⟨h1, h2⟩)
              have hz4 := hbn.size
              go_simp
              refine hK4.out _ _ (hSS.trans (hbn.mono hSS.size)) (fun hSS => ?_)
              clear hbn hK4
              have hTwo := TwoR.mk (A := W1.heap.size) (B := W0.heap.size) hSS hA hB hX hY (by omega) (by omega) (by omega) (fun b hb => by omega) (fun b hb => by omega)
              have hS6 := hSS.setCell (p := ⟨W1.heap.size, 0, none⟩) (show _ ≤ W1.heap.size by omega) a
              have hS7 := hS6.setCell (p := ⟨W0.heap.size, 0, none⟩) (show _ ≤ W0.heap.size by omega) b
              have hB6 := (Below.heap_setCell W4 ⟨W1.heap.size, 0, none⟩ a (W0.heap.size) (show W0.heap.size ≠ W1.heap.size by omega)).trans hB
              refine wpAnyH_ready (rs := [6]) (by kernel_rfl) (by simp) (AllReadyH.cons rfl (fun K5 hK5 => ?_) AllReadyH.nil)
              refine step_set1 (by rfl) _ _ (by rfl) (by rfl) (B := W1.heap.size) (u := a) (by rfl) (by rfl) ha1 hA ?_
              refine hK5.out _ _ hS6 (fun hSS6 => ?_)
              clear hS6 hK5
              generalize World.setCell W4 ⟨W1.heap.size, 0, none⟩ a = WB at *
              refine wpAnyH_ready (rs := [7]) (by kernel_rfl) (by simp) (AllReadyH.cons rfl (fun K6 hK6 => ?_) AllReadyH.nil)
              refine step_set1 (by rfl) _ _ (by rfl) (by rfl) (B := W0.heap.size) (u := b) (by rfl) (by rfl) hb1 hB6 ?_
              refine hK6.out _ _ hS7 (fun hSS7 => ?_)
              clear hS7 hK6
              generalize World.setCell WB ⟨W0.heap.size, 0, none⟩ b = WC at *
              refine wpAnyH_done (by kernel_rfl) ?_ _
              go_wp2_with fail
              go_meet
              exact hTwo
        case rest =>
          obtain ⟨A7, B8, a, b, rfl, rfl, hA7, hB8, hRa, hRb, hb5⟩ := hcut
          obtain ⟨w5, rfl⟩ : ∃ w5, w5 = wc := ⟨_, rfl⟩
          have hB4 := hb4.trans (hb5.mono hb4.size)
          have nx := hX.i64n
          have ny := hY.i64n
          have hsz : x.s.size + y.s.size ≤ 1048576 := by
            have h1 : x.s.size ≤ x.bulk := by cases x; simp only [V.bulk]; omega
            have h2 : y.s.size ≤ y.bulk := by cases y; simp only [V.bulk]; omega
            omega
          obtain ⟨gcl, gbk, gvin⟩ := sum_good hx hy nx ny hxy
          obtain ⟨sy1, sy2⟩ := sum_sym x y
          have S1 : Hid (∀ W, Calls Try.prog 29 #[.agg #[a], .agg #[b]] W fun e w' => ∃ h, e = .returned (.tuple #[.agg #[h], .int .i64 (x.sum y).2]) ∧ h.oneCell' = true ∧ (∀ W ok', Rep W ok' h (x.sum y).1) ∧ Below W.heap.size W w') := sum_any hRa hRb hsz
          have S2 : Hid (∀ W, Calls Try.prog 29 #[.agg #[b], .agg #[a]] W fun e w' => ∃ h, e = .returned (.tuple #[.agg #[h], .int .i64 (x.sum y).2]) ∧ h.oneCell' = true ∧ (∀ W ok', Rep W ok' h (y.sum x).1) ∧ Below W.heap.size W w') := by
            rw [sy1]
            exact sum_any hRb hRa (by omega)
          have SR : Hid (∀ W, Calls Try.prog 30 #[x.val xp, y.val yp] W fun e w' => e = .returned (.tuple #[(x.sum y).1.val ⟨none, 0, none, 0⟩, .int .i64 (x.sum y).2]) ∧ Below W.heap.size W w') := rsum_any xp yp hx hy nx ny hsz
          have QS : Hid (∀ W, Below w5.heap.size w5 W → Calls Try.prog 28 #[.agg #[a], .agg #[b]] W fun e w' => (∃ r : Bool, e = .returned (.bool r) ∧ (r = true ↔ x = y)) ∧ Below W.heap.size W w') := fun W hW => same_any (hRa.stays hW) (hRb.stays hW) hxb
          have QA : Hid (∀ W, Below w5.heap.size w5 W → Calls Try.prog 28 #[.agg #[a], .agg #[a]] W fun e w' => e = .returned (.bool true) ∧ Below W.heap.size W w') := fun W hW => (same_any (hRa.stays hW) (hRa.stays hW) hxb).mono (by
            rintro e w' ⟨⟨r, rfl, h1⟩, h2⟩
            exact ⟨by rw [h1.2 rfl], h2⟩)
          have QR : Hid (∀ W, Below w5.heap.size w5 W → Calls Try.prog 31 #[x.val xp, y.val yp] W fun e w' => (∃ r : Bool, e = .returned (.bool r) ∧ (r = true ↔ x = y)) ∧ Below W.heap.size W w') := fun W hW => rsame_any hX hY W (hb5.trans (hW.mono hb5.size)) hxb hx hy
          have QT : Hid (x.k ≠ 5 → ∀ (W : World) (s t : Value), (∀ W ok', Rep W ok' s (x.sum y).1) → (∀ W ok', Rep W ok' t (y.sum x).1) → Calls Try.prog 28 #[.agg #[s], .agg #[t]] W fun e w' => e = .returned (.bool true) ∧ Below W.heap.size W w') := fun h5 W s t h1 h2 => (same_any (h1 W _) (h2 W _) gbk).mono (by
            rintro e w' ⟨⟨r, rfl, h3⟩, h4⟩
            exact ⟨by rw [h3.2 (by rw [sy2 h5])], h4⟩)
          have QU : Hid (∀ (W : World) (s : Value), (∀ W ok', Rep W ok' s (x.sum y).1) → Calls Try.prog 13 #[.agg #[s], (x.sum y).1.val ⟨none, 0, none, 0⟩] W fun e w' => e = .returned (.int .i64 0) ∧ Below W.heap.size W w') := fun W s h1 => unlike_any (gvin W (fun _ => True)) W s (fun _ => True) (Below.refl _ _) (fun _ _ => trivial) (h1 W _) gbk gcl
          have l7 := (Array.getElem?_eq_some_iff.1 hA7).1
          have l8 := (Array.getElem?_eq_some_iff.1 hB8).1
          have HB5 : Hid (∀ W, Below w5.heap.size w5 W → (W.cell? ⟨A7, 0, none⟩ = some a ∧ W.cell? ⟨B8, 0, none⟩ = some b) ∧ (W.cell? ⟨A, 0, none⟩ = some (.int .i64 x.k) ∧ W.cell? ⟨A, 1, none⟩ = some (.bool x.b) ∧ W.cell? ⟨A, 2, none⟩ = some (.int .i64 x.n) ∧ W.cell? ⟨A, 3, none⟩ = some (.int .i64 x.m) ∧ W.cell? ⟨A, 4, none⟩ = some (.string x.s) ∧ W.cell? ⟨A, 5, none⟩ = some (.slice xp.la x.l.length xp.lc) ∧ W.cell? ⟨A, 6, none⟩ = some (.slice xp.ka x.keys.length xp.kc)) ∧ (W.cell? ⟨B, 0, none⟩ = some (.int .i64 y.k) ∧ W.cell? ⟨B, 1, none⟩ = some (.bool y.b) ∧ W.cell? ⟨B, 2, none⟩ = some (.int .i64 y.n) ∧ W.cell? ⟨B, 3, none⟩ = some (.int .i64 y.m) ∧ W.cell? ⟨B, 4, none⟩ = some (.string y.s) ∧ W.cell? ⟨B, 5, none⟩ = some (.slice yp.la y.l.length yp.lc) ∧ W.cell? ⟨B, 6, none⟩ = some (.slice yp.ka y.keys.length yp.kc))) := fun W hW => ⟨⟨cell_of_row _ _ _ _ _ _ ((hW.block _ l7).trans hA7), cell_of_row _ _ _ _ _ _ ((hW.block _ l8).trans hB8)⟩, HBX.out W (hb5.trans (hW.mono hb5.size))⟩
          clear HBX hA hB hAl hBl hX hY hA7 hB8 l7 l8 hRa hRb gvin gbk gcl sy1 sy2 hsz nx ny hb4 hb5 hx hy hxy hxb hyb T1 T2
          generalize (x.sum y).1 = Rv at *
          generalize (x.sum y).2 = E at *
          generalize (y.sum x).1 = Rt at *
          unfold V.val at SR QR QU
          dsimp only at SR QU
          obtain ⟨⟨c7, c8⟩, -, -⟩ := HB5.out w5 (Below.refl _ _)
          go_wp2_with fail
          refine (S1.out _).mono ?_
          rintro e w6 ⟨s, rfl, hos, hRs, hb6⟩
          have st6 := store_new 30 s .nilIface hos w6
          have hS6 := heap_alloc_new w6 (.cells #[s] 30)
          replace hb6 : Below w5.heap.size w5 (w6.alloc (.cells #[s] 30)) := hb6.alloc hb6.size _
          have hl6 : w6.heap.size < (w6.alloc (.cells #[s] 30)).heap.size := by simp
          have HRs : Hid (∀ W ok', Rep W ok' s Rv) := hRs
          clear c7 c8 S1 hRs hos
          obtain ⟨-, ⟨k0, k1, k2, k3, k4, k5, k6⟩, l0, l1, l2, l3, l4, l5, l6⟩ := HB5.out _ hb6
          go_wp2_with fail
          refine (SR.out _).mono ?_
          rintro e w7 ⟨rfl, hb7⟩
          have hR7 := heap_alloc_new w7 (.cells #[.int .i64 Rv.k, .bool Rv.b, .int .i64 Rv.n, .int .i64 Rv.m, .string Rv.s, .slice none Rv.l.length 0, .slice none Rv.keys.length 0] 25)
          have ha7 : Below w7.heap.size w7 (w7.alloc (.cells #[.int .i64 Rv.k, .bool Rv.b, .int .i64 Rv.n, .int .i64 Rv.m, .string Rv.s, .slice none Rv.l.length 0, .slice none Rv.keys.length 0] 25)) := (Below.refl _ _).alloc (Nat.le_refl _) _
          have hb67 : Below (w6.alloc (.cells #[s] 30)).heap.size (w6.alloc (.cells #[s] 30)) (w7.alloc (.cells #[.int .i64 Rv.k, .bool Rv.b, .int .i64 Rv.n, .int .i64 Rv.m, .string Rv.s, .slice none Rv.l.length 0, .slice none Rv.keys.length 0] 25)) := hb7.trans (ha7.mono hb7.size)
          have hS7 := (hb67.block _ hl6).trans hS6
          have hb57 := hb6.trans (hb67.mono hb6.size)
          have hl7 : w7.heap.size < (w7.alloc (.cells #[.int .i64 Rv.k, .bool Rv.b, .int .i64 Rv.n, .int .i64 Rv.m, .string Rv.s, .slice none Rv.l.length 0, .slice none Rv.keys.length 0] 25)).heap.size := by simp
          clear k0 k1 k2 k3 k4 k5 k6 l0 l1 l2 l3 l4 l5 l6 SR hb67 ha7 hS6 hb6 st6 hb7 hl6
          obtain ⟨⟨c7, c8⟩, -, -⟩ := HB5.out _ hb57
          go_wp2_with fail
          refine (S2.out _).mono ?_
          rintro e w8 ⟨t, rfl, hot, hRt, hb8⟩
          have st8 := store_new 30 t .nilIface hot w8
          have hT8 := heap_alloc_new w8 (.cells #[t] 30)
          have ha8 : Below w8.heap.size w8 (w8.alloc (.cells #[t] 30)) := (Below.refl _ _).alloc (Nat.le_refl _) _
          have hb78 : Below (w7.alloc (.cells #[.int .i64 Rv.k, .bool Rv.b, .int .i64 Rv.n, .int .i64 Rv.m, .string Rv.s, .slice none Rv.l.length 0, .slice none Rv.keys.length 0] 25)).heap.size (w7.alloc (.cells #[.int .i64 Rv.k, .bool Rv.b, .int .i64 Rv.n, .int .i64 Rv.m, .string Rv.s, .slice none Rv.l.length 0, .slice none Rv.keys.length 0] 25)) (w8.alloc (.cells #[t] 30)) := hb8.trans (ha8.mono hb8.size)
          have hl8 := (Array.getElem?_eq_some_iff.1 hS7).1
          have hS8 := (hb78.block _ hl8).trans hS7
          have hR8 := (hb78.block _ hl7).trans hR7
          have hb58 := hb57.trans (hb78.mono hb57.size)
          have HRt : Hid (∀ W ok', Rep W ok' t Rt) := hRt
          clear c7 c8 S2 hRt hot hb78 ha8 hb57 hb8 hS7 hR7 hl7 hl8
          obtain ⟨⟨c7, c8⟩, ⟨k0, k1, k2, k3, k4, k5, k6⟩, l0, l1, l2, l3, l4, l5, l6⟩ := HB5.out _ hb58
          have s0 := cell_of_row _ _ 0 _ _ _ hS8
          have t0 := cell_of_row _ _ 0 _ _ _ hT8
          simp only [List.getElem?_cons_zero, List.getElem?_toArray] at s0 t0
          have lS := (Array.getElem?_eq_some_iff.1 hS8).1
          have lR := (Array.getElem?_eq_some_iff.1 hR8).1
          have HT : Hid (∀ W, Below (w8.alloc (.cells #[t] 30)).heap.size (w8.alloc (.cells #[t] 30)) W → (W.cell? ⟨A7, 0, none⟩ = some a ∧ W.cell? ⟨B8, 0, none⟩ = some b) ∧ (W.cell? ⟨A, 0, none⟩ = some (.int .i64 x.k) ∧ W.cell? ⟨A, 1, none⟩ = some (.bool x.b) ∧ W.cell? ⟨A, 2, none⟩ = some (.int .i64 x.n) ∧ W.cell? ⟨A, 3, none⟩ = some (.int .i64 x.m) ∧ W.cell? ⟨A, 4, none⟩ = some (.string x.s) ∧ W.cell? ⟨A, 5, none⟩ = some (.slice xp.la x.l.length xp.lc) ∧ W.cell? ⟨A, 6, none⟩ = some (.slice xp.ka x.keys.length xp.kc)) ∧ (W.cell? ⟨B, 0, none⟩ = some (.int .i64 y.k) ∧ W.cell? ⟨B, 1, none⟩ = some (.bool y.b) ∧ W.cell? ⟨B, 2, none⟩ = some (.int .i64 y.n) ∧ W.cell? ⟨B, 3, none⟩ = some (.int .i64 y.m) ∧ W.cell? ⟨B, 4, none⟩ = some (.string y.s) ∧ W.cell? ⟨B, 5, none⟩ = some (.slice yp.la y.l.length yp.lc) ∧ W.cell? ⟨B, 6, none⟩ = some (.slice yp.ka y.keys.length yp.kc)) ∧ W.cell? ⟨w6.heap.size, 0, none⟩ = some s ∧ W.cell? ⟨w7.heap.size, 0, none⟩ = some (.int .i64 Rv.k) ∧ W.cell? ⟨w7.heap.size, 1, none⟩ = some (.bool Rv.b) ∧ W.cell? ⟨w7.heap.size, 2, none⟩ = some (.int .i64 Rv.n) ∧ W.cell? ⟨w7.heap.size, 3, none⟩ = some (.int .i64 Rv.m) ∧ W.cell? ⟨w7.heap.size, 4, none⟩ = some (.string Rv.s) ∧ W.cell? ⟨w7.heap.size, 5, none⟩ = some (.slice none Rv.l.length 0) ∧ W.cell? ⟨w7.heap.size, 6, none⟩ = some (.slice none Rv.keys.length 0)) := fun W hW => by
            obtain ⟨e1, e2, e3⟩ := HB5.out W (hb58.trans (hW.mono hb58.size))
            have e4 := (hW.block _ lS).trans hS8
            have e5 := (hW.block _ lR).trans hR8
            exact ⟨e1, e2, e3, cell_of_row _ _ _ _ _ _ e4, cell_of_row _ _ _ _ _ _ e5, cell_of_row _ _ _ _ _ _ e5, cell_of_row _ _ _ _ _ _ e5, cell_of_row _ _ _ _ _ _ e5, cell_of_row _ _ _ _ _ _ e5, cell_of_row _ _ _ _ _ _ e5, cell_of_row _ _ _ _ _ _ e5⟩
          have hbw := hB4.trans (hb58.mono hB4.size)
          clear HB5 hS8 hR8 hT8 lS lR hB4
          by_cases h5 : x.k = 5
          · go_wp2_with fail
            clear c7 c8 k0 k1 k2 k3 k4 k5 k6 l0 l1 l2 l3 l4 l5 l6 s0 t0 st8 QT HRt h5
            generalize (w8.alloc (.cells #[t] 30)) = W8 at *
            have hWd : Below W8.heap.size W8 W8 := Below.refl _ _
            refine wp_region_held_drew (S := fun w' => Below W8.heap.size W8 w') (by kernel_rfl) hWd.drew (fun hSS => ?_)
            refine wpAnyH_take (i := 0) (v := ?_) rfl (by kernel_rfl) (by kernel_rfl) (by kernel_rfl) (fun _ _ _ h => h) (Or.inl ⟨by rfl, ?_⟩) hSS ?_
            rotate_left
            · intro wz hSz
              obtain ⟨⟨c7, c8⟩, ⟨k0, k1, k2, k3, k4, k5, k6⟩, ⟨l0, l1, l2, l3, l4, l5, l6⟩, s0, r0, r1, r2, r3, r4, r5, r6⟩ := HT.out _ hSz
              go_simp
              try with_reducible rfl
            simp only [List.getElem_toArray, List.getElem_cons_zero, Act.put, List.setIfInBounds_toArray, List.set_cons_zero, List.set_cons_succ]
            refine wpAnyH_take (i := 1) (v := ?_) rfl (by kernel_rfl) (by kernel_rfl) (by kernel_rfl) (fun _ _ _ h => h) (Or.inl ⟨by rfl, ?_⟩) hSS ?_
            rotate_left
            · intro wz hSz
              obtain ⟨⟨c7, c8⟩, ⟨k0, k1, k2, k3, k4, k5, k6⟩, ⟨l0, l1, l2, l3, l4, l5, l6⟩, s0, r0, r1, r2, r3, r4, r5, r6⟩ := HT.out _ hSz
              go_simp
              try with_reducible rfl
            simp only [List.getElem_toArray, List.getElem_cons_zero, List.getElem_cons_succ, Act.put, List.setIfInBounds_toArray, List.set_cons_zero, List.set_cons_succ]
            refine wpAnyH_take (i := 3) (v := ?_) rfl (by kernel_rfl) (by kernel_rfl) (by kernel_rfl) (fun _ _ _ h => h) (Or.inl ⟨by rfl, ?_⟩) hSS ?_
            rotate_left
            · intro wz hSz
              obtain ⟨⟨c7, c8⟩, ⟨k0, k1, k2, k3, k4, k5, k6⟩, ⟨l0, l1, l2, l3, l4, l5, l6⟩, s0, r0, r1, r2, r3, r4, r5, r6⟩ := HT.out _ hSz
              go_simp
              try with_reducible rfl
            simp only [List.getElem_toArray, List.getElem_cons_zero, List.getElem_cons_succ, Act.put, List.setIfInBounds_toArray, List.set_cons_zero, List.set_cons_succ]
            refine wpAnyH_take (i := 4) (v := ?_) rfl (by kernel_rfl) (by kernel_rfl) (by kernel_rfl) (fun _ _ _ h => h) (Or.inl ⟨by rfl, ?_⟩) hSS ?_
            rotate_left
            · intro wz hSz
              obtain ⟨⟨c7, c8⟩, ⟨k0, k1, k2, k3, k4, k5, k6⟩, ⟨l0, l1, l2, l3, l4, l5, l6⟩, s0, r0, r1, r2, r3, r4, r5, r6⟩ := HT.out _ hSz
              go_simp
              try with_reducible rfl
            simp only [List.getElem_toArray, List.getElem_cons_zero, List.getElem_cons_succ, Act.put, List.setIfInBounds_toArray, List.set_cons_zero, List.set_cons_succ]
            refine wpAnyH_ready (rs := [2]) (by kernel_rfl) (by simp) (AllReadyH.cons rfl (fun K1 hK1 => ?_) AllReadyH.nil)
            refine step_plain (by rfl) ?_
            simp only [List.getElem_toArray, List.getElem_cons_zero, List.getElem_cons_succ]
            go_simp
            go_at_call 28
            refine (QS.out _ (hb58.trans (hSS.mono hb58.size))).mono ?_
            rintro e wk1 ⟨⟨r, rfl, hr⟩, hbk⟩
            have HR1 : Hid (r = true ↔ x = y) := hr
            clear hr
            go_simp
            refine hK1.out _ _ (hSS.trans (hbk.mono hSS.size)) (fun hSS => ?_)
            clear hbk hK1
            refine wpAnyH_ready (rs := [5]) (by kernel_rfl) (by simp) (AllReadyH.cons rfl (fun K2 hK2 => ?_) AllReadyH.nil)
            refine step_plain (by rfl) ?_
            simp only [List.getElem_toArray, List.getElem_cons_zero, List.getElem_cons_succ]
            go_simp
            go_at_call 31
            refine (QR.out _ (hb58.trans (hSS.mono hb58.size))).mono ?_
            rintro e wk2 ⟨⟨r2, rfl, hr2⟩, hbk⟩
            obtain rfl : r2 = r := by rw [Bool.eq_iff_iff, hr2, HR1.out]
            clear HR1 hr2
            go_simp
            refine hK2.out _ _ (hSS.trans (hbk.mono hSS.size)) (fun hSS => ?_)
            clear hbk hK2
            refine wpAnyH_take (i := 6) (v := .bool true) rfl (by kernel_rfl) (by kernel_rfl) (by kernel_rfl) (fun _ _ _ h => h) (Or.inl ⟨by rfl, ?_⟩) hSS ?_
            · intro wz hSz
              go_simp
            simp only [List.getElem_toArray, List.getElem_cons_zero, List.getElem_cons_succ, Act.put, List.setIfInBounds_toArray, List.set_cons_zero, List.set_cons_succ]
            refine wpAnyH_take (i := 7) (v := .bool true) rfl (by kernel_rfl) (by kernel_rfl) (by kernel_rfl) (fun _ _ _ h => h) (Or.inl ⟨by rfl, ?_⟩) hSS ?_
            · intro wz hSz
              go_simp
            simp only [List.getElem_toArray, List.getElem_cons_zero, List.getElem_cons_succ, Act.put, List.setIfInBounds_toArray, List.set_cons_zero, List.set_cons_succ]
            refine wpAnyH_take (i := 8) (v := ?_) rfl (by kernel_rfl) (by kernel_rfl) (by kernel_rfl) (fun _ _ _ h => h) (Or.inl ⟨by rfl, ?_⟩) hSS ?_
            rotate_left
            · intro wz hSz
              obtain ⟨⟨c7, c8⟩, ⟨k0, k1, k2, k3, k4, k5, k6⟩, ⟨l0, l1, l2, l3, l4, l5, l6⟩, s0, r0, r1, r2, r3, r4, r5, r6⟩ := HT.out _ hSz
              go_simp
              try with_reducible rfl
            simp only [List.getElem_toArray, List.getElem_cons_zero, List.getElem_cons_succ, Act.put, List.setIfInBounds_toArray, List.set_cons_zero, List.set_cons_succ]
            refine wpAnyH_take (i := 9) (v := ?_) rfl (by kernel_rfl) (by kernel_rfl) (by kernel_rfl) (fun _ _ _ h => h) (Or.inl ⟨by rfl, ?_⟩) hSS ?_
            rotate_left
            · intro wz hSz
              obtain ⟨⟨c7, c8⟩, ⟨k0, k1, k2, k3, k4, k5, k6⟩, ⟨l0, l1, l2, l3, l4, l5, l6⟩, s0, r0, r1, r2, r3, r4, r5, r6⟩ := HT.out _ hSz
              go_simp
              try with_reducible rfl
            simp only [List.getElem_toArray, List.getElem_cons_zero, List.getElem_cons_succ, Act.put, List.setIfInBounds_toArray, List.set_cons_zero, List.set_cons_succ]
            refine wpAnyH_ready (rs := [10]) (by kernel_rfl) (by simp) (AllReadyH.cons rfl (fun K3 hK3 => ?_) AllReadyH.nil)
            refine step_wanted2 (by rfl) ?_
            simp only [List.getElem_toArray, List.getElem_cons_zero, List.getElem_cons_succ]
            go_simp
            go_at_call 28
            refine (QA.out _ (hb58.trans (hSS.mono hb58.size))).mono ?_
            rintro e wk3 ⟨rfl, hbk⟩
            go_simp
            refine hK3.out _ _ (hSS.trans (hbk.mono hSS.size)) (fun hSS => ?_)
            clear hbk hK3
            refine wpAnyH_take (i := 11) (v := .bool true) rfl (by kernel_rfl) (by kernel_rfl) (by kernel_rfl) (fun _ _ _ h => h) (Or.inl ⟨by rfl, ?_⟩) hSS ?_
            · intro wz hSz
              go_simp
            simp only [List.getElem_toArray, List.getElem_cons_zero, List.getElem_cons_succ, Act.put, List.setIfInBounds_toArray, List.set_cons_zero, List.set_cons_succ]
            refine wpAnyH_take (i := 12) (v := .bool true) rfl (by kernel_rfl) (by kernel_rfl) (by kernel_rfl) (fun _ _ _ h => h) (Or.inl ⟨by rfl, ?_⟩) hSS ?_
            · intro wz hSz
              go_simp
            simp only [List.getElem_toArray, List.getElem_cons_zero, List.getElem_cons_succ, Act.put, List.setIfInBounds_toArray, List.set_cons_zero, List.set_cons_succ]
            refine wpAnyH_take (i := 13) (v := ?_) rfl (by kernel_rfl) (by kernel_rfl) (by kernel_rfl) (fun _ _ _ h => h) (Or.inl ⟨by rfl, ?_⟩) hSS ?_
            rotate_left
            · intro wz hSz
              go_simp
              try with_reducible rfl
            simp only [List.getElem_toArray, List.getElem_cons_zero, List.getElem_cons_succ, Act.put, List.setIfInBounds_toArray, List.set_cons_zero, List.set_cons_succ]
            refine wpAnyH_take (i := 14) (v := ?_) rfl (by kernel_rfl) (by kernel_rfl) (by kernel_rfl) (fun _ _ _ h => h) (Or.inl ⟨by rfl, ?_⟩) hSS ?_
            rotate_left
            · intro wz hSz
              go_simp
              try with_reducible rfl
            simp only [List.getElem_toArray, List.getElem_cons_zero, List.getElem_cons_succ, Act.put, List.setIfInBounds_toArray, List.set_cons_zero, List.set_cons_succ]
            refine wpAnyH_take (i := 15) (v := .bool true) rfl (by kernel_rfl) (by kernel_rfl) (by kernel_rfl) (fun _ _ _ h => h) (Or.inl ⟨by rfl, ?_⟩) hSS ?_
            · intro wz hSz
              go_simp
            simp only [List.getElem_toArray, List.getElem_cons_zero, List.getElem_cons_succ, Act.put, List.setIfInBounds_toArray, List.set_cons_zero, List.set_cons_succ]
            refine wpAnyH_take (i := 16) (v := .bool true) rfl (by kernel_rfl) (by kernel_rfl) (by kernel_rfl) (fun _ _ _ h => h) (Or.inl ⟨by rfl, ?_⟩) hSS ?_
            · intro wz hSz
              go_simp
            simp only [List.getElem_toArray, List.getElem_cons_zero, List.getElem_cons_succ, Act.put, List.setIfInBounds_toArray, List.set_cons_zero, List.set_cons_succ]
            refine wpAnyH_take (i := 17) (v := .bool true) rfl (by kernel_rfl) (by kernel_rfl) (by kernel_rfl) (fun _ _ _ h => h) (Or.inl ⟨by rfl, ?_⟩) hSS ?_
            · intro wz hSz
              go_simp
            simp only [List.getElem_toArray, List.getElem_cons_zero, List.getElem_cons_succ, Act.put, List.setIfInBounds_toArray, List.set_cons_zero, List.set_cons_succ]
            refine wpAnyH_take (i := 18) (v := ?_) rfl (by kernel_rfl) (by kernel_rfl) (by kernel_rfl) (fun _ _ _ h => h) (Or.inl ⟨by rfl, ?_⟩) hSS ?_
            rotate_left
            · intro wz hSz
              obtain ⟨⟨c7, c8⟩, ⟨k0, k1, k2, k3, k4, k5, k6⟩, ⟨l0, l1, l2, l3, l4, l5, l6⟩, s0, r0, r1, r2, r3, r4, r5, r6⟩ := HT.out _ hSz
              go_simp
              try with_reducible rfl
            simp only [List.getElem_toArray, List.getElem_cons_zero, List.getElem_cons_succ, Act.put, List.setIfInBounds_toArray, List.set_cons_zero, List.set_cons_succ]
            refine wpAnyH_take (i := 19) (v := ?_) rfl (by kernel_rfl) (by kernel_rfl) (by kernel_rfl) (fun _ _ _ h => h) (Or.inl ⟨by rfl, ?_⟩) hSS ?_
            rotate_left
            · intro wz hSz
              obtain ⟨⟨c7, c8⟩, ⟨k0, k1, k2, k3, k4, k5, k6⟩, ⟨l0, l1, l2, l3, l4, l5, l6⟩, s0, r0, r1, r2, r3, r4, r5, r6⟩ := HT.out _ hSz
              go_simp
              try with_reducible rfl
            simp only [List.getElem_toArray, List.getElem_cons_zero, List.getElem_cons_succ, Act.put, List.setIfInBounds_toArray, List.set_cons_zero, List.set_cons_succ]
            refine wpAnyH_ready (rs := [20]) (by kernel_rfl) (by simp) (AllReadyH.cons rfl (fun K4 hK4 => ?_) AllReadyH.nil)
            refine step_wanted2 (by rfl) ?_
            simp only [List.getElem_toArray, List.getElem_cons_zero, List.getElem_cons_succ]
            go_simp
            go_at_call 13
            refine (QU.out _ s HRs.out).mono ?_
            rintro e wk4 ⟨rfl, hbk⟩
            go_simp
            refine hK4.out _ _ (hSS.trans (hbk.mono hSS.size)) (fun hSS => ?_)
            clear hbk hK4
            refine wpAnyH_take (i := 21) (v := .bool true) rfl (by kernel_rfl) (by kernel_rfl) (by kernel_rfl) (fun _ _ _ h => h) (Or.inl ⟨by rfl, ?_⟩) hSS ?_
            · intro wz hSz
              go_simp
            simp only [List.getElem_toArray, List.getElem_cons_zero, List.getElem_cons_succ, Act.put, List.setIfInBounds_toArray, List.set_cons_zero, List.set_cons_succ]
            refine wpAnyH_take (i := 22) (v := .bool true) rfl (by kernel_rfl) (by kernel_rfl) (by kernel_rfl) (fun _ _ _ h => h) (Or.inl ⟨by rfl, ?_⟩) hSS ?_
            · intro wz hSz
              go_simp
            simp only [List.getElem_toArray, List.getElem_cons_zero, List.getElem_cons_succ, Act.put, List.setIfInBounds_toArray, List.set_cons_zero, List.set_cons_succ]
            refine wpAnyH_take (i := 23) (v := .bool true) rfl (by kernel_rfl) (by kernel_rfl) (by kernel_rfl) (fun _ _ _ h => h) (Or.inl ⟨by rfl, ?_⟩) hSS ?_
            · intro wz hSz
              go_simp
            simp only [List.getElem_toArray, List.getElem_cons_zero, List.getElem_cons_succ, Act.put, List.setIfInBounds_toArray, List.set_cons_zero, List.set_cons_succ]
            refine wpAnyH_done (by kernel_rfl) ?_ _
            go_wp2_with fail
            go_ret
            exact ⟨rfl, hbw.trans (hSS.mono hbw.size)⟩
          · have HC := QT.out h5
            go_wp2_with fail
            refine (HC _ _ _ HRs.out HRt.out).mono ?_
            rintro e w9 ⟨rfl, hb9⟩
            go_wp2_with fail
            clear c7 c8 k0 k1 k2 k3 k4 k5 k6 l0 l1 l2 l3 l4 l5 l6 s0 t0 st8 QT HRt HC h5
            generalize (w8.alloc (.cells #[t] 30)) = W8 at *
            have hWd : Below W8.heap.size W8 w9 := hb9
            refine wp_region_held_drew (S := fun w' => Below W8.heap.size W8 w') (by kernel_rfl) hWd.drew (fun hSS => ?_)
            refine wpAnyH_take (i := 0) (v := ?_) rfl (by kernel_rfl) (by kernel_rfl) (by kernel_rfl) (fun _ _ _ h => h) (Or.inl ⟨by rfl, ?_⟩) hSS ?_
            rotate_left
            · intro wz hSz
              obtain ⟨⟨c7, c8⟩, ⟨k0, k1, k2, k3, k4, k5, k6⟩, ⟨l0, l1, l2, l3, l4, l5, l6⟩, s0, r0, r1, r2, r3, r4, r5, r6⟩ := HT.out _ hSz
              go_simp
              try with_reducible rfl
            simp only [List.getElem_toArray, List.getElem_cons_zero, Act.put, List.setIfInBounds_toArray, List.set_cons_zero, List.set_cons_succ]
            refine wpAnyH_take (i := 1) (v := ?_) rfl (by kernel_rfl) (by kernel_rfl) (by kernel_rfl) (fun _ _ _ h => h) (Or.inl ⟨by rfl, ?_⟩) hSS ?_
            rotate_left
            · intro wz hSz
              obtain ⟨⟨c7, c8⟩, ⟨k0, k1, k2, k3, k4, k5, k6⟩, ⟨l0, l1, l2, l3, l4, l5, l6⟩, s0, r0, r1, r2, r3, r4, r5, r6⟩ := HT.out _ hSz
              go_simp
              try with_reducible rfl
            simp only [List.getElem_toArray, List.getElem_cons_zero, List.getElem_cons_succ, Act.put, List.setIfInBounds_toArray, List.set_cons_zero, List.set_cons_succ]
            refine wpAnyH_take (i := 3) (v := ?_) rfl (by kernel_rfl) (by kernel_rfl) (by kernel_rfl) (fun _ _ _ h => h) (Or.inl ⟨by rfl, ?_⟩) hSS ?_
            rotate_left
            · intro wz hSz
              obtain ⟨⟨c7, c8⟩, ⟨k0, k1, k2, k3, k4, k5, k6⟩, ⟨l0, l1, l2, l3, l4, l5, l6⟩, s0, r0, r1, r2, r3, r4, r5, r6⟩ := HT.out _ hSz
              go_simp
              try with_reducible rfl
            simp only [List.getElem_toArray, List.getElem_cons_zero, List.getElem_cons_succ, Act.put, List.setIfInBounds_toArray, List.set_cons_zero, List.set_cons_succ]
            refine wpAnyH_take (i := 4) (v := ?_) rfl (by kernel_rfl) (by kernel_rfl) (by kernel_rfl) (fun _ _ _ h => h) (Or.inl ⟨by rfl, ?_⟩) hSS ?_
            rotate_left
            · intro wz hSz
              obtain ⟨⟨c7, c8⟩, ⟨k0, k1, k2, k3, k4, k5, k6⟩, ⟨l0, l1, l2, l3, l4, l5, l6⟩, s0, r0, r1, r2, r3, r4, r5, r6⟩ := HT.out _ hSz
              go_simp
              try with_reducible rfl
            simp only [List.getElem_toArray, List.getElem_cons_zero, List.getElem_cons_succ, Act.put, List.setIfInBounds_toArray, List.set_cons_zero, List.set_cons_succ]
            refine wpAnyH_ready (rs := [2]) (by kernel_rfl) (by simp) (AllReadyH.cons rfl (fun K1 hK1 => ?_) AllReadyH.nil)
            refine step_plain (by rfl) ?_
            simp only [List.getElem_toArray, List.getElem_cons_zero, List.getElem_cons_succ]
            go_simp
            go_at_call 28
            refine (QS.out _ (hb58.trans (hSS.mono hb58.size))).mono ?_
            rintro e wk1 ⟨⟨r, rfl, hr⟩, hbk⟩
            have HR1 : Hid (r = true ↔ x = y) := hr
            clear hr
            go_simp
            refine hK1.out _ _ (hSS.trans (hbk.mono hSS.size)) (fun hSS => ?_)
            clear hbk hK1
            refine wpAnyH_ready (rs := [5]) (by kernel_rfl) (by simp) (AllReadyH.cons rfl (fun K2 hK2 => ?_) AllReadyH.nil)
            refine step_plain (by rfl) ?_
            simp only [List.getElem_toArray, List.getElem_cons_zero, List.getElem_cons_succ]
            go_simp
            go_at_call 31
            refine (QR.out _ (hb58.trans (hSS.mono hb58.size))).mono ?_
            rintro e wk2 ⟨⟨r2, rfl, hr2⟩, hbk⟩
            obtain rfl : r2 = r := by rw [Bool.eq_iff_iff, hr2, HR1.out]
            clear HR1 hr2
            go_simp
            refine hK2.out _ _ (hSS.trans (hbk.mono hSS.size)) (fun hSS => ?_)
            clear hbk hK2
            refine wpAnyH_take (i := 6) (v := .bool true) rfl (by kernel_rfl) (by kernel_rfl) (by kernel_rfl) (fun _ _ _ h => h) (Or.inl ⟨by rfl, ?_⟩) hSS ?_
            · intro wz hSz
              go_simp
            simp only [List.getElem_toArray, List.getElem_cons_zero, List.getElem_cons_succ, Act.put, List.setIfInBounds_toArray, List.set_cons_zero, List.set_cons_succ]
            refine wpAnyH_take (i := 7) (v := .bool true) rfl (by kernel_rfl) (by kernel_rfl) (by kernel_rfl) (fun _ _ _ h => h) (Or.inl ⟨by rfl, ?_⟩) hSS ?_
            · intro wz hSz
              go_simp
            simp only [List.getElem_toArray, List.getElem_cons_zero, List.getElem_cons_succ, Act.put, List.setIfInBounds_toArray, List.set_cons_zero, List.set_cons_succ]
            refine wpAnyH_take (i := 8) (v := ?_) rfl (by kernel_rfl) (by kernel_rfl) (by kernel_rfl) (fun _ _ _ h => h) (Or.inl ⟨by rfl, ?_⟩) hSS ?_
            rotate_left
            · intro wz hSz
              obtain ⟨⟨c7, c8⟩, ⟨k0, k1, k2, k3, k4, k5, k6⟩, ⟨l0, l1, l2, l3, l4, l5, l6⟩, s0, r0, r1, r2, r3, r4, r5, r6⟩ := HT.out _ hSz
              go_simp
              try with_reducible rfl
            simp only [List.getElem_toArray, List.getElem_cons_zero, List.getElem_cons_succ, Act.put, List.setIfInBounds_toArray, List.set_cons_zero, List.set_cons_succ]
            refine wpAnyH_take (i := 9) (v := ?_) rfl (by kernel_rfl) (by kernel_rfl) (by kernel_rfl) (fun _ _ _ h => h) (Or.inl ⟨by rfl, ?_⟩) hSS ?_
            rotate_left
            · intro wz hSz
              obtain ⟨⟨c7, c8⟩, ⟨k0, k1, k2, k3, k4, k5, k6⟩, ⟨l0, l1, l2, l3, l4, l5, l6⟩, s0, r0, r1, r2, r3, r4, r5, r6⟩ := HT.out _ hSz
              go_simp
              try with_reducible rfl
            simp only [List.getElem_toArray, List.getElem_cons_zero, List.getElem_cons_succ, Act.put, List.setIfInBounds_toArray, List.set_cons_zero, List.set_cons_succ]
            refine wpAnyH_ready (rs := [10]) (by kernel_rfl) (by simp) (AllReadyH.cons rfl (fun K3 hK3 => ?_) AllReadyH.nil)
            refine step_wanted2 (by rfl) ?_
            simp only [List.getElem_toArray, List.getElem_cons_zero, List.getElem_cons_succ]
            go_simp
            go_at_call 28
            refine (QA.out _ (hb58.trans (hSS.mono hb58.size))).mono ?_
            rintro e wk3 ⟨rfl, hbk⟩
            go_simp
            refine hK3.out _ _ (hSS.trans (hbk.mono hSS.size)) (fun hSS => ?_)
            clear hbk hK3
            refine wpAnyH_take (i := 11) (v := .bool true) rfl (by kernel_rfl) (by kernel_rfl) (by kernel_rfl) (fun _ _ _ h => h) (Or.inl ⟨by rfl, ?_⟩) hSS ?_
            · intro wz hSz
              go_simp
            simp only [List.getElem_toArray, List.getElem_cons_zero, List.getElem_cons_succ, Act.put, List.setIfInBounds_toArray, List.set_cons_zero, List.set_cons_succ]
            refine wpAnyH_take (i := 12) (v := .bool true) rfl (by kernel_rfl) (by kernel_rfl) (by kernel_rfl) (fun _ _ _ h => h) (Or.inl ⟨by rfl, ?_⟩) hSS ?_
            · intro wz hSz
              go_simp
            simp only [List.getElem_toArray, List.getElem_cons_zero, List.getElem_cons_succ, Act.put, List.setIfInBounds_toArray, List.set_cons_zero, List.set_cons_succ]
            refine wpAnyH_take (i := 13) (v := ?_) rfl (by kernel_rfl) (by kernel_rfl) (by kernel_rfl) (fun _ _ _ h => h) (Or.inl ⟨by rfl, ?_⟩) hSS ?_
            rotate_left
            · intro wz hSz
              go_simp
              try with_reducible rfl
            simp only [List.getElem_toArray, List.getElem_cons_zero, List.getElem_cons_succ, Act.put, List.setIfInBounds_toArray, List.set_cons_zero, List.set_cons_succ]
            refine wpAnyH_take (i := 14) (v := ?_) rfl (by kernel_rfl) (by kernel_rfl) (by kernel_rfl) (fun _ _ _ h => h) (Or.inl ⟨by rfl, ?_⟩) hSS ?_
            rotate_left
            · intro wz hSz
              go_simp
              try with_reducible rfl
            simp only [List.getElem_toArray, List.getElem_cons_zero, List.getElem_cons_succ, Act.put, List.setIfInBounds_toArray, List.set_cons_zero, List.set_cons_succ]
            refine wpAnyH_take (i := 15) (v := .bool true) rfl (by kernel_rfl) (by kernel_rfl) (by kernel_rfl) (fun _ _ _ h => h) (Or.inl ⟨by rfl, ?_⟩) hSS ?_
            · intro wz hSz
              go_simp
            simp only [List.getElem_toArray, List.getElem_cons_zero, List.getElem_cons_succ, Act.put, List.setIfInBounds_toArray, List.set_cons_zero, List.set_cons_succ]
            refine wpAnyH_take (i := 16) (v := .bool true) rfl (by kernel_rfl) (by kernel_rfl) (by kernel_rfl) (fun _ _ _ h => h) (Or.inl ⟨by rfl, ?_⟩) hSS ?_
            · intro wz hSz
              go_simp
            simp only [List.getElem_toArray, List.getElem_cons_zero, List.getElem_cons_succ, Act.put, List.setIfInBounds_toArray, List.set_cons_zero, List.set_cons_succ]
            refine wpAnyH_take (i := 17) (v := .bool true) rfl (by kernel_rfl) (by kernel_rfl) (by kernel_rfl) (fun _ _ _ h => h) (Or.inl ⟨by rfl, ?_⟩) hSS ?_
            · intro wz hSz
              go_simp
            simp only [List.getElem_toArray, List.getElem_cons_zero, List.getElem_cons_succ, Act.put, List.setIfInBounds_toArray, List.set_cons_zero, List.set_cons_succ]
            refine wpAnyH_take (i := 18) (v := ?_) rfl (by kernel_rfl) (by kernel_rfl) (by kernel_rfl) (fun _ _ _ h => h) (Or.inl ⟨by rfl, ?_⟩) hSS ?_
            rotate_left
            · intro wz hSz
              obtain ⟨⟨c7, c8⟩, ⟨k0, k1, k2, k3, k4, k5, k6⟩, ⟨l0, l1, l2, l3, l4, l5, l6⟩, s0, r0, r1, r2, r3, r4, r5, r6⟩ := HT.out _ hSz
              go_simp
              try with_reducible rfl
            simp only [List.getElem_toArray, List.getElem_cons_zero, List.getElem_cons_succ, Act.put, List.setIfInBounds_toArray, List.set_cons_zero, List.set_cons_succ]
            refine wpAnyH_take (i := 19) (v := ?_) rfl (by kernel_rfl) (by kernel_rfl) (by kernel_rfl) (fun _ _ _ h => h) (Or.inl ⟨by rfl, ?_⟩) hSS ?_
            rotate_left
            · intro wz hSz
              obtain ⟨⟨c7, c8⟩, ⟨k0, k1, k2, k3, k4, k5, k6⟩, ⟨l0, l1, l2, l3, l4, l5, l6⟩, s0, r0, r1, r2, r3, r4, r5, r6⟩ := HT.out _ hSz
              go_simp
              try with_reducible rfl
            simp only [List.getElem_toArray, List.getElem_cons_zero, List.getElem_cons_succ, Act.put, List.setIfInBounds_toArray, List.set_cons_zero, List.set_cons_succ]
            refine wpAnyH_ready (rs := [20]) (by kernel_rfl) (by simp) (AllReadyH.cons rfl (fun K4 hK4 => ?_) AllReadyH.nil)
            refine step_wanted2 (by rfl) ?_
            simp only [List.getElem_toArray, List.getElem_cons_zero, List.getElem_cons_succ]
            go_simp
            go_at_call 13
            refine (QU.out _ s HRs.out).mono ?_
            rintro e wk4 ⟨rfl, hbk⟩
            go_simp
            refine hK4.out _ _ (hSS.trans (hbk.mono hSS.size)) (fun hSS => ?_)
            clear hbk hK4
            refine wpAnyH_take (i := 21) (v := .bool true) rfl (by kernel_rfl) (by kernel_rfl) (by kernel_rfl) (fun _ _ _ h => h) (Or.inl ⟨by rfl, ?_⟩) hSS ?_
            · intro wz hSz
              go_simp
            simp only [List.getElem_toArray, List.getElem_cons_zero, List.getElem_cons_succ, Act.put, List.setIfInBounds_toArray, List.set_cons_zero, List.set_cons_succ]
            refine wpAnyH_take (i := 22) (v := .bool true) rfl (by kernel_rfl) (by kernel_rfl) (by kernel_rfl) (fun _ _ _ h => h) (Or.inl ⟨by rfl, ?_⟩) hSS ?_
            · intro wz hSz
              go_simp
            simp only [List.getElem_toArray, List.getElem_cons_zero, List.getElem_cons_succ, Act.put, List.setIfInBounds_toArray, List.set_cons_zero, List.set_cons_succ]
            refine wpAnyH_take (i := 23) (v := .bool true) rfl (by kernel_rfl) (by kernel_rfl) (by kernel_rfl) (fun _ _ _ h => h) (Or.inl ⟨by rfl, ?_⟩) hSS ?_
            · intro wz hSz
              go_simp
            simp only [List.getElem_toArray, List.getElem_cons_zero, List.getElem_cons_succ, Act.put, List.setIfInBounds_toArray, List.set_cons_zero, List.set_cons_succ]
            refine wpAnyH_done (by kernel_rfl) ?_ _
            go_wp2_with fail
            go_ret
            exact ⟨rfl, hbw.trans (hSS.mono hbw.size)⟩
end Go.Proofs.Ytindmbedolokaaa
