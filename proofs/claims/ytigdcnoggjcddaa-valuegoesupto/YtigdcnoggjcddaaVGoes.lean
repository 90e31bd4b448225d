/- ValueGoes, walked: of any two values, and any steps, it answers true. Condition: values and steps of at most 1048576 values and letters together. -/
import Derived.Test.YtigdcnoggjcddaaVWith
import Derived.Test.YtigdcnoggjcddaaVFrame
import Derived.Test.YtigdcnoggjcddaaVGoesP
import Derived.Test.YtigdcnoggjcddaaVClean
import Derived.Test.YtigdcnoggjcddaaVGreat
import Derived.Test.YtigdcnoggjcddaaVAwake
import Derived.Test.YtigdcnoggjcddaaVUnlike
import Derived.Test.YtigdcnoggjcddaaVTo
import Derived.Test.YtigdcnoggjcddaaVTwo
import Derived.Deep.CutRange
namespace Go.Proofs.Ytigdcnoggjcddaa
open Go.RowKit Go.Maps Go.WideMaps

set_option maxRecDepth 100000 in
set_option maxHeartbeats 25600000 in
theorem goes_law {w : World} {v u : V} {p q : VP} {l : List St} {la : Option Addr} {lc : Nat} (hv : VIn w (fun _ => True) v p) (hu : VIn w (fun _ => True) u q) (hl : StRow w la l ∧ SliceOk la l.length lc) (hbk : v.bulk + u.bulk + sumSt l ≤ 1048576) :
    Calls Try.prog 4 #[v.val p, u.val q, .slice la l.length lc] w fun e w' => e = .returned (.bool true) ∧ Below w.heap.size w w' := by
  have hvb : v.bulk ≤ 1048576 := by omega
  have hub : u.bulk ≤ 1048576 := by omega
  have hln : l.length ≤ 1048575 := by have := sumSt_len l; have := v.bulk_pos; omega
  have G1 : Hid (∀ W, Below w.heap.size w W → Calls Try.prog 8 #[v.val p] W fun e w' => (∃ g : Int, e = .returned (.int .i64 g)) ∧ Below W.heap.size W w') := fun W hW => great_v hv W hW hvb
  have G2 : Hid (∀ W, Below w.heap.size w W → Calls Try.prog 8 #[u.val q] W fun e w' => (∃ g : Int, e = .returned (.int .i64 g)) ∧ Below W.heap.size W w') := fun W hW => great_v hu W hW hub
  have CA : Hid (∀ W, Calls Try.prog 9 #[] W fun e w' => e = .returned (.bool true) ∧ Below W.heap.size W w') := awake4_any
  have C1 : Hid (∀ W, Below w.heap.size w W → Calls Try.prog 10 #[v.val p] W fun e w' => ∃ p', e = .returned (v.clean.val p') ∧ VIn w' (fun b => W.heap.size ≤ b) v.clean p' ∧ Below W.heap.size W w') := fun W hW => clean_any hv W hW hvb
  have C2 : Hid (∀ W, Below w.heap.size w W → Calls Try.prog 10 #[u.val q] W fun e w' => ∃ p', e = .returned (u.clean.val p') ∧ VIn w' (fun b => W.heap.size ≤ b) u.clean p' ∧ Below W.heap.size W w') := fun W hW => clean_any hu W hW hub
  have hx := clean_cl v
  have hy := clean_cl u
  have hxy : v.clean.bulk + u.clean.bulk + sumSt l ≤ 1048576 := by have := clean_bulk v; have := clean_bulk u; omega
  have hK : ∀ s ∈ l, 1 + s.key.size ≤ sumSt l := sumSt_mem l
  have T1 : Hid (∀ W xp (ok : Nat → Prop), VIn W ok v.clean xp → Calls Try.prog 11 #[v.clean.val xp] W fun e w' => ∃ a, e = .returned (.agg #[a]) ∧ a.oneCell' = true ∧ Rep w' (fun b => W.heap.size ≤ b) a v.clean ∧ Below W.heap.size W w') := fun W xp ok h => by
    refine (to_any h W (Below.refl _ _) (by omega) hx).mono ?_
    rintro e w' ⟨a, rfl, h1, h2⟩
    exact ⟨a, rfl, h1.one, h1, h2⟩
  have T2 : Hid (∀ W xp (ok : Nat → Prop), VIn W ok u.clean xp → Calls Try.prog 11 #[u.clean.val xp] W fun e w' => ∃ a, e = .returned (.agg #[a]) ∧ a.oneCell' = true ∧ Rep w' (fun b => W.heap.size ≤ b) a u.clean ∧ Below W.heap.size W w') := fun W xp ok h => by
    refine (to_any h W (Below.refl _ _) (by omega) hy).mono ?_
    rintro e w' ⟨a, rfl, h1, h2⟩
    exact ⟨a, rfl, h1.one, h1, h2⟩
  have CWI : Hid (∀ W (ok : Nat → Prop) a b, (∀ b, W.heap.size ≤ b → ok b) → Below w.heap.size w W → Rep W ok a v.clean → Rep W ok b u.clean → Calls Try.prog 24 #[.agg #[a], .agg #[b], .slice la l.length lc] W fun e w' => ∃ g, e = .returned (.tuple #[.agg #[g], .int .i64 (v.clean.withR u.clean l).2]) ∧ g.oneCell' = true ∧ Rep w' ok g (v.clean.withR u.clean l).1 ∧ Below W.heap.size W w') := fun W ok a b hk hW ha hb => by
    refine (with_any (ok := ok) hk ha hx hb la l lc (hl.1.below hW) hl.2 hln hK (by omega)).mono ?_
    rintro e w' ⟨g, rfl, h1, h2⟩
    exact ⟨g, rfl, h1.one, h1, h2⟩
  have CGL : Hid (∀ W a, Below w.heap.size w W → Rep W (fun _ => True) a v.clean → Calls Try.prog 23 #[.agg #[a], .slice la l.length lc] W fun e w' => ∃ g, e = .returned (.tuple #[.agg #[g], .int .i64 (v.clean.goTo l).2]) ∧ g.oneCell' = true ∧ Rep w' (fun _ => True) g (v.clean.goTo l).1 ∧ Below W.heap.size W w') := fun W a hW ha => by
    refine (go_any ha la l lc (hl.1.below hW) (by omega)).mono ?_
    rintro e w' ⟨g, rfl, h1, h2⟩
    exact ⟨g, rfl, h1.one, h1.stays h2, h2⟩
  have RG : Hid (∀ W xp sa sc, VIn W (fun _ => True) v.clean xp → StRow W sa l → Calls Try.prog 25 #[v.clean.val xp, .slice sa l.length sc] W fun e w' => ∃ cp, e = .returned (.tuple #[(v.clean.goTo l).1.val cp, .int .i64 (v.clean.goTo l).2]) ∧ VIn w' (fun _ => True) (v.clean.goTo l).1 cp ∧ Below W.heap.size W w') := fun W xp sa sc h hs => by
    refine (rgo_any h W (Below.refl _ _) (by omega) hx sa l sc hs (by omega)).mono ?_
    rintro e w' ⟨cp, rfl, h1, h2⟩
    exact ⟨cp, rfl, h1.stays h2, h2⟩
  have RW : Hid (∀ W xp yp sa sc, VIn W (fun _ => True) v.clean xp → VIn W (fun _ => True) u.clean yp → StRow W sa l → SliceOk sa l.length sc → Calls Try.prog 26 #[v.clean.val xp, u.clean.val yp, .slice sa l.length sc] W fun e w' => ∃ cp, e = .returned (.tuple #[(v.clean.withR u.clean l).1.val cp, .int .i64 (v.clean.withR u.clean l).2]) ∧ VIn w' (fun _ => True) (v.clean.withR u.clean l).1 cp ∧ Below W.heap.size W w') := fun W xp yp sa sc h h2 hs hso => by
    refine (rwith_any (ok := fun b => b < W.heap.size) (h2.mono (fun b _ h => h)) hy (fun _ h => h) l (h.mono (fun b _ h => h)) hx hxy W (Below.refl _ _) sa sc hs hso).mono ?_
    rintro e w' ⟨cp, rfl, h1, h2⟩
    exact ⟨cp, rfl, h1.mono (fun _ _ _ => trivial), h2⟩
  have UG : Hid (∀ W g cp, Rep W (fun _ => True) g (v.clean.goTo l).1 → VIn W (fun _ => True) (v.clean.goTo l).1 cp → Calls Try.prog 13 #[.agg #[g], (v.clean.goTo l).1.val cp] W fun e w' => e = .returned (.int .i64 0) ∧ Below W.heap.size W w') := fun W g cp h1 h2 => unlike_any h2 W g (fun _ => True) (Below.refl _ _) (fun _ _ => trivial) h1 (by have := goTo_bulk hx l; omega) (goTo_cl hx l)
  have UW : Hid (∀ W g cp, Rep W (fun _ => True) g (v.clean.withR u.clean l).1 → VIn W (fun _ => True) (v.clean.withR u.clean l).1 cp → Calls Try.prog 13 #[.agg #[g], (v.clean.withR u.clean l).1.val cp] W fun e w' => e = .returned (.int .i64 0) ∧ Below W.heap.size W w') := fun W g cp h1 h2 => unlike_any h2 W g (fun _ => True) (Below.refl _ _) (fun _ _ => trivial) h1 (by have := withR_bulk (x := u.clean) l hx; omega) (withR_cl hy l hx)
  have UX : Hid (∀ W g cp, Rep W (fun _ => True) g v.clean → VIn W (fun _ => True) v.clean cp → Calls Try.prog 13 #[.agg #[g], v.clean.val cp] W fun e w' => e = .returned (.int .i64 0) ∧ Below W.heap.size W w') := fun W g cp h1 h2 => unlike_any h2 W g (fun _ => True) (Below.refl _ _) (fun _ _ => trivial) h1 (by omega) hx
  have HSL : Hid (∀ W j, Below w.heap.size w W → ∀ hj : j < l.length, ∃ b off, la = some ⟨b, off, none⟩ ∧ b < w.heap.size ∧ W.cell? ⟨b, off + j * 2, none⟩ = some (.string l[j].key) ∧ W.cell? ⟨b, off + j * 2 + 1, none⟩ = some (.int .i64 l[j].at_)) := fun W j hW hj => by
    obtain ⟨b, off, e, hc0⟩ := hl.1.2 (by intro e; subst e; simp at hj)
    obtain ⟨b', off', e', hc⟩ := (hl.1.below hW).2 (by intro e; subst e; simp at hj)
    rw [e] at e'
    injection e' with e'; injection e' with e1 e2; subst e1; subst e2
    exact ⟨b, off, e, World.block_lt_of_cell? _ _ (hc0 j hj).1, (hc j hj).1, (hc j hj).2⟩
  have HOK : Hid (∀ s ∈ l, s.ok) := hl.1.1
  have HLN : Hid (l.length ≤ 1048575) := hln
  have hB0 := BW.start w v p u q
  have HBC : Hid (∀ W, BW w W v p u q → (W.cell? ⟨w.heap.size, 0, none⟩ = some (.int .i64 v.k) ∧ W.cell? ⟨w.heap.size, 1, none⟩ = some (.bool v.b) ∧ W.cell? ⟨w.heap.size, 2, none⟩ = some (.int .i64 v.n) ∧ W.cell? ⟨w.heap.size, 3, none⟩ = some (.int .i64 v.m) ∧ W.cell? ⟨w.heap.size, 4, none⟩ = some (.string v.s) ∧ W.cell? ⟨w.heap.size, 5, none⟩ = some (.slice p.la v.l.length p.lc) ∧ W.cell? ⟨w.heap.size, 6, none⟩ = some (.slice p.ka v.keys.length p.kc)) ∧ (W.cell? ⟨w.heap.size + 1, 0, none⟩ = some (.int .i64 u.k) ∧ W.cell? ⟨w.heap.size + 1, 1, none⟩ = some (.bool u.b) ∧ W.cell? ⟨w.heap.size + 1, 2, none⟩ = some (.int .i64 u.n) ∧ W.cell? ⟨w.heap.size + 1, 3, none⟩ = some (.int .i64 u.m) ∧ W.cell? ⟨w.heap.size + 1, 4, none⟩ = some (.string u.s) ∧ W.cell? ⟨w.heap.size + 1, 5, none⟩ = some (.slice q.la u.l.length q.lc) ∧ W.cell? ⟨w.heap.size + 1, 6, none⟩ = some (.slice q.ka u.keys.length q.kc))) := fun W hB => ⟨box_cells hB.1, box_cells hB.2.1⟩
  clear hv hu hbk hvb hub hl hx hy hxy hK hln
  generalize v.clean = x at *
  generalize u.clean = y at *
  generalize x.withR y l = R at *
  obtain ⟨z, er⟩ := R
  generalize x.goTo l = R2 at *
  obtain ⟨c, eg⟩ := R2
  dsimp only at *
  unfold V.val at G1 G2 C1 C2 T1 T2 RG RW UG UW UX ⊢
  obtain ⟨⟨k0, k1, k2, k3, k4, k5, k6⟩, ⟨l0, l1, l2, l3, l4, l5, l6⟩⟩ := HBC.out _ hB0
  unfold V.box at hB0 k0 k1 k2 k3 k4 k5 k6 l0 l1 l2 l3 l4 l5 l6
  go_enter Try.func4, Try.ntmps4
  go_wp2_with fail
  refine (G1.out _ hB0.2.2).mono ?_
  rintro e w1 ⟨⟨g1, rfl⟩, hb1⟩
  have hB1 := BW.below hB0 hb1
  clear k0 k1 k2 k3 k4 k5 k6 l0 l1 l2 l3 l4 l5 l6 G1 hb1 hB0
  obtain ⟨⟨k0, k1, k2, k3, k4, k5, k6⟩, ⟨l0, l1, l2, l3, l4, l5, l6⟩⟩ := HBC.out _ hB1
  by_cases hg1 : 0 < g1
  · clear C1 C2 T1 T2 CWI CGL RG RW UG UW UX HSL HOK HLN HBC G2
    go_wp2_with fail
    refine (CA.out _).mono ?_
    rintro e w3 ⟨rfl, hb3⟩
    go_wp2_with fail
    go_ret
    exact ⟨rfl, (hB1.below hb3).2.2⟩
  · go_wp2_with fail
    refine (G2.out _ hB1.2.2).mono ?_
    rintro e w2 ⟨⟨g2, rfl⟩, hb2⟩
    have hB2 := BW.below hB1 hb2
    clear k0 k1 k2 k3 k4 k5 k6 l0 l1 l2 l3 l4 l5 l6 G2 hb2 hB1
    obtain ⟨⟨k0, k1, k2, k3, k4, k5, k6⟩, ⟨l0, l1, l2, l3, l4, l5, l6⟩⟩ := HBC.out _ hB2
    by_cases hg2 : 0 < g2
    · clear C1 C2 T1 T2 CWI CGL RG RW UG UW UX HSL HOK HLN HBC
      go_wp2_with fail
      refine (CA.out _).mono ?_
      rintro e w3 ⟨rfl, hb3⟩
      go_wp2_with fail
      go_ret
      exact ⟨rfl, (hB2.below hb3).2.2⟩
    by_cases h20 : 20 < l.length
    · clear C1 C2 T1 T2 CWI CGL RG RW UG UW UX HSL HOK HLN HBC
      go_wp2_with fail
      refine (CA.out _).mono ?_
      rintro e w3 ⟨rfl, hb3⟩
      go_wp2_with fail
      go_ret
      exact ⟨rfl, (hB2.below hb3).2.2⟩
    go_wp2_with fail
    refine (CA.out _).mono ?_
    rintro e w3 ⟨rfl, hb3⟩
    have hB3 := BW.below hB2 hb3
    clear k0 k1 k2 k3 k4 k5 k6 l0 l1 l2 l3 l4 l5 l6 hb3 hB2 CA
    go_wp2_with fail
    go_cut [7, 8] from 38 to 41 (fun s7 s8 wx => Two w wx x y s7 s8)
    case first =>
      refine wp_region_held_drew (S := fun w' => BW w w' v p u q) (by kernel_rfl) hB3.drew (fun hSS => ?_)
      refine wpAnyH_take (i := 0) (v := ?_) rfl (by kernel_rfl) (by kernel_rfl) (by kernel_rfl) (fun _ _ _ h => h) (Or.inl ⟨by rfl, ?_⟩) hSS ?_
      rotate_left
      · intro wz hSz
        obtain ⟨⟨k0, k1, k2, k3, k4, k5, k6⟩, ⟨l0, l1, l2, l3, l4, l5, l6⟩⟩ := HBC.out _ hSz
        go_simp
        try with_reducible rfl
      simp only [List.getElem_toArray, List.getElem_cons_zero, Act.put, List.setIfInBounds_toArray, List.set_cons_zero, List.set_cons_succ]
      refine wpAnyH_take (i := 2) (v := ?_) rfl (by kernel_rfl) (by kernel_rfl) (by kernel_rfl) (fun _ _ _ h => h) (Or.inl ⟨by rfl, ?_⟩) hSS ?_
      rotate_left
      · intro wz hSz
        obtain ⟨⟨k0, k1, k2, k3, k4, k5, k6⟩, ⟨l0, l1, l2, l3, l4, l5, l6⟩⟩ := HBC.out _ hSz
        go_simp
        try with_reducible rfl
      simp only [List.getElem_toArray, List.getElem_cons_zero, List.getElem_cons_succ, Act.put, List.setIfInBounds_toArray, List.set_cons_zero, List.set_cons_succ]
      generalize w3.drew = W0 at *
      have hz0 := hSS.lt
      clear hB3 HBC T1 T2 CWI CGL RG RW UG UW UX HSL HOK HLN
      refine wpAnyH_ready (rs := [1, 4, 5]) (by kernel_rfl) (by simp) (AllReadyH.cons rfl (fun K1 hK1 => ?_) (AllReadyH.cons rfl (fun K1 hK1 => ?_) (AllReadyH.cons rfl (fun K1 hK1 => ?_) AllReadyH.nil)))
      · refine step_plain (by rfl) ?_
        simp only [List.getElem_toArray, List.getElem_cons_zero, List.getElem_cons_succ]
        go_simp
        go_at_call 10
        refine (C1.out _ hSS.2.2).mono ?_
        rintro e W1 ⟨xp, rfl, hX, hbn⟩
        replace hX := hX.mono (ok' := fun b => W0.heap.size ≤ b ∧ b < W1.heap.size) (fun _ h1 h2 => ⟨h1, h2⟩)
        have hz1 := hbn.size
        go_simp
        refine hK1.out _ _ (hSS.below hbn) (fun hSS => ?_)
        clear hbn hK1
        refine wpAnyH_ready (rs := [3, 4, 5]) (by kernel_rfl) (by simp) (AllReadyH.cons rfl (fun K2 hK2 => ?_) (AllReadyH.cons rfl (fun K2 hK2 => ?_) (AllReadyH.cons rfl (fun K2 hK2 => ?_) AllReadyH.nil)))
        · refine step_plain (by rfl) ?_
          simp only [List.getElem_toArray, List.getElem_cons_zero, List.getElem_cons_succ]
          go_simp
          go_at_call 10
          refine (C2.out _ hSS.2.2).mono ?_
          rintro e W2 ⟨yp, rfl, hY, hbn⟩
          replace hX := hX.stays hbn
          replace hY := hY.mono (ok' := fun b => W1.heap.size ≤ b ∧ b < W2.heap.size) (fun _ h1 h2 => ⟨h1, h2⟩)
          have hz2 := hbn.size
          go_simp
          refine hK2.out _ _ (hSS.below hbn) (fun hSS => ?_)
          clear hbn hK2
          refine wpAnyH_ready (rs := [4, 5]) (by kernel_rfl) (by simp) (AllReadyH.cons rfl (fun K3 hK3 => ?_) (AllReadyH.cons rfl (fun K3 hK3 => ?_) AllReadyH.nil))
          · refine step_plain (by rfl) ?_
            simp only [List.getElem_toArray, List.getElem_cons_zero, List.getElem_cons_succ]
            go_simp
            have hbn : Below W2.heap.size W2 (W2.alloc (.cells #[.int .i64 0, .bool false, .int .i64 0, .int .i64 0, .string { data := #[] }, .slice none 0 0, .slice none 0 0] 25)) := (Below.refl _ _).alloc (Nat.le_refl _) _
            have hA := heap_alloc_new W2 (.cells #[.int .i64 0, .bool false, .int .i64 0, .int .i64 0, .string { data := #[] }, .slice none 0 0, .slice none 0 0] 25)
            replace hX := hX.stays hbn
            replace hY := hY.stays hbn
            have hz3 : W2.heap.size < (W2.alloc (.cells #[.int .i64 0, .bool false, .int .i64 0, .int .i64 0, .string { data := #[] }, .slice none 0 0, .slice none 0 0] 25)).heap.size := by simp
            refine hK3.out _ _ (hSS.below hbn) (fun hSS => ?_)
            clear hbn hK3
            generalize W2.alloc (.cells #[.int .i64 0, .bool false, .int .i64 0, .int .i64 0, .string { data := #[] }, .slice none 0 0, .slice none 0 0] 25) = W3 at *
            refine wpAnyH_ready (rs := [5]) (by kernel_rfl) (by simp) (AllReadyH.cons rfl (fun K4 hK4 => ?_) AllReadyH.nil)
            refine step_plain (by rfl) ?_
            simp only [List.getElem_toArray, List.getElem_cons_zero, List.getElem_cons_succ]
            go_simp
            have hbn : Below W3.heap.size W3 (W3.alloc (.cells #[.int .i64 0, .bool false, .int .i64 0, .int .i64 0, .string { data := #[] }, .slice none 0 0, .slice none 0 0] 25)) := (Below.refl _ _).alloc (Nat.le_refl _) _
            have hB := heap_alloc_new W3 (.cells #[.int .i64 0, .bool false, .int .i64 0, .int .i64 0, .string { data := #[] }, .slice none 0 0, .slice none 0 0] 25)
            replace hX := hX.stays hbn
            replace hY := hY.stays hbn
            replace hA := (hbn.block _ (Array.getElem?_eq_some_iff.1 hA).1).trans hA
            have hz4 : W3.heap.size < (W3.alloc (.cells #[.int .i64 0, .bool false, .int .i64 0, .int .i64 0, .string { data := #[] }, .slice none 0 0, .slice none 0 0] 25)).heap.size := by simp
            refine hK4.out _ _ (hSS.below hbn) (fun hSS => ?_)
            clear hbn hK4
            generalize W3.alloc (.cells #[.int .i64 0, .bool false, .int .i64 0, .int .i64 0, .string { data := #[] }, .slice none 0 0, .slice none 0 0] 25) = W4 at *
            have hTwo := Two.mk (A := W2.heap.size) (B := W3.heap.size) hSS hA hB hX hY (by omega) (by omega) (by omega) (fun b hb => by omega) (fun b hb => by omega)
            have hS6 := BW.set hSS (B := W2.heap.size) (by omega) x xp
            have hS7 := BW.set hS6 (B := W3.heap.size) (by omega) y yp
            have hB6 := (setBox_other W4 (W2.heap.size) x xp (W3.heap.size) (by omega)).trans hB
            refine wpAnyH_ready (rs := [6]) (by kernel_rfl) (by simp) (AllReadyH.cons rfl (fun K5 hK5 => ?_) AllReadyH.nil)
            refine step_setbox (by rfl) _ _ (by rfl) (by rfl) (B := W2.heap.size) (v := x) (p := xp) (by rfl) (by rfl) hA ?_
            refine hK5.out _ _ hS6 (fun hSS6 => ?_)
            clear hS6 hK5
            generalize setBox W4 (W2.heap.size) x xp = WB at *
            refine wpAnyH_ready (rs := [7]) (by kernel_rfl) (by simp) (AllReadyH.cons rfl (fun K6 hK6 => ?_) AllReadyH.nil)
            refine step_setbox (by rfl) _ _ (by rfl) (by rfl) (B := W3.heap.size) (v := y) (p := yp) (by rfl) (by rfl) hB6 ?_
            refine hK6.out _ _ hS7 (fun hSS7 => ?_)
            clear hS7 hK6
            generalize setBox WB (W3.heap.size) y yp = WC at *
            refine wpAnyH_done (by kernel_rfl) ?_ _
            go_wp2_with fail
            go_meet
            exact hTwo
          · refine step_plain (by rfl) ?_
            simp only [List.getElem_toArray, List.getElem_cons_zero, List.getElem_cons_succ]
            go_simp
            have hbn : Below W2.heap.size W2 (W2.alloc (.cells #[.int .i64 0, .bool false, .int .i64 0, .int .i64 0, .string { data := #[] }, .slice none 0 0, .slice none 0 0] 25)) := (Below.refl _ _).alloc (Nat.le_refl _) _
            have hB := heap_alloc_new W2 (.cells #[.int .i64 0, .bool false, .int .i64 0, .int .i64 0, .string { data := #[] }, .slice none 0 0, .slice none 0 0] 25)
            replace hX := hX.stays hbn
            replace hY := hY.stays hbn
            have hz3 : W2.heap.size < (W2.alloc (.cells #[.int .i64 0, .bool false, .int .i64 0, .int .i64 0, .string { data := #[] }, .slice none 0 0, .slice none 0 0] 25)).heap.size := by simp
            refine hK3.out _ _ (hSS.below hbn) (fun hSS => ?_)
            clear hbn hK3
            generalize W2.alloc (.cells #[.int .i64 0, .bool false, .int .i64 0, .int .i64 0, .string { data := #[] }, .slice none 0 0, .slice none 0 0] 25) = W3 at *
            refine wpAnyH_ready (rs := [4]) (by kernel_rfl) (by simp) (AllReadyH.cons rfl (fun K4 hK4 => ?_) AllReadyH.nil)
            refine step_plain (by rfl) ?_
            simp only [List.getElem_toArray, List.getElem_cons_zero, List.getElem_cons_succ]
            go_simp
            have hbn : Below W3.heap.size W3 (W3.alloc (.cells #[.int .i64 0, .bool false, .int .i64 0, .int .i64 0, .string { data := #[] }, .slice none 0 0, .slice none 0 0] 25)) := (Below.refl _ _).alloc (Nat.le_refl _) _
            have hA := heap_alloc_new W3 (.cells #[.int .i64 0, .bool false, .int .i64 0, .int .i64 0, .string { data := #[] }, .slice none 0 0, .slice none 0 0] 25)
            replace hX := hX.stays hbn
            replace hY := hY.stays hbn
            replace hB := (hbn.block _ (Array.getElem?_eq_some_iff.1 hB).1).trans hB
            have hz4 : W3.heap.size < (W3.alloc (.cells #[.int .i64 0, .bool false, .int .i64 0, .int .i64 0, .string { data := #[] }, .slice none 0 0, .slice none 0 0] 25)).heap.size := by simp
            refine hK4.out _ _ (hSS.below hbn) (fun hSS => ?_)
            clear hbn hK4
            generalize W3.alloc (.cells #[.int .i64 0, .bool false, .int .i64 0, .int .i64 0, .string { data := #[] }, .slice none 0 0, .slice none 0 0] 25) = W4 at *
            have hTwo := Two.mk (A := W3.heap.size) (B := W2.heap.size) hSS hA hB hX hY (by omega) (by omega) (by omega) (fun b hb => by omega) (fun b hb => by omega)
            have hS6 := BW.set hSS (B := W3.heap.size) (by omega) x xp
            have hS7 := BW.set hS6 (B := W2.heap.size) (by omega) y yp
            have hB6 := (setBox_other W4 (W3.heap.size) x xp (W2.heap.size) (by omega)).trans hB
            refine wpAnyH_ready (rs := [6]) (by kernel_rfl) (by simp) (AllReadyH.cons rfl (fun K5 hK5 => ?_) AllReadyH.nil)
            refine step_setbox (by rfl) _ _ (by rfl) (by rfl) (B := W3.heap.size) (v := x) (p := xp) (by rfl) (by rfl) hA ?_
            refine hK5.out _ _ hS6 (fun hSS6 => ?_)
            clear hS6 hK5
            generalize setBox W4 (W3.heap.size) x xp = WB at *
            refine wpAnyH_ready (rs := [7]) (by kernel_rfl) (by simp) (AllReadyH.cons rfl (fun K6 hK6 => ?_) AllReadyH.nil)
            refine step_setbox (by rfl) _ _ (by rfl) (by rfl) (B := W2.heap.size) (v := y) (p := yp) (by rfl) (by rfl) hB6 ?_
            refine hK6.out _ _ hS7 (fun hSS7 => ?_)
            clear hS7 hK6
            generalize setBox WB (W2.heap.size) y yp = WC at *
            refine wpAnyH_done (by kernel_rfl) ?_ _
            go_wp2_with fail
            go_meet
            exact hTwo
        · refine step_plain (by rfl) ?_
          simp only [List.getElem_toArray, List.getElem_cons_zero, List.getElem_cons_succ]
          go_simp
          have hbn : Below W1.heap.size W1 (W1.alloc (.cells #[.int .i64 0, .bool false, .int .i64 0, .int .i64 0, .string { data := #[] }, .slice none 0 0, .slice none 0 0] 25)) := (Below.refl _ _).alloc (Nat.le_refl _) _
          have hA := heap_alloc_new W1 (.cells #[.int .i64 0, .bool false, .int .i64 0, .int .i64 0, .string { data := #[] }, .slice none 0 0, .slice none 0 0] 25)
          replace hX := hX.stays hbn
          have hz2 : W1.heap.size < (W1.alloc (.cells #[.int .i64 0, .bool false, .int .i64 0, .int .i64 0, .string { data := #[] }, .slice none 0 0, .slice none 0 0] 25)).heap.size := by simp
          refine hK2.out _ _ (hSS.below hbn) (fun hSS => ?_)
          clear hbn hK2
          generalize W1.alloc (.cells #[.int .i64 0, .bool false, .int .i64 0, .int .i64 0, .string { data := #[] }, .slice none 0 0, .slice none 0 0] 25) = W2 at *
          refine wpAnyH_ready (rs := [3, 5]) (by kernel_rfl) (by simp) (AllReadyH.cons rfl (fun K3 hK3 => ?_) (AllReadyH.cons rfl (fun K3 hK3 => ?_) AllReadyH.nil))
          · refine step_plain (by rfl) ?_
            simp only [List.getElem_toArray, List.getElem_cons_zero, List.getElem_cons_succ]
            go_simp
            go_at_call 10
            refine (C2.out _ hSS.2.2).mono ?_
            rintro e W3 ⟨yp, rfl, hY, hbn⟩
            replace hX := hX.stays hbn
            replace hA := (hbn.block _ (Array.getElem?_eq_some_iff.1 hA).1).trans hA
            replace hY := hY.mono (ok' := fun b => W2.heap.size ≤ b ∧ b < W3.heap.size) (fun _ h1 h2 => ⟨h1, h2⟩)
            have hz3 := hbn.size
            go_simp
            refine hK3.out _ _ (hSS.below hbn) (fun hSS => ?_)
            clear hbn hK3
            refine wpAnyH_ready (rs := [5]) (by kernel_rfl) (by simp) (AllReadyH.cons rfl (fun K4 hK4 => ?_) AllReadyH.nil)
            refine step_plain (by rfl) ?_
            simp only [List.getElem_toArray, List.getElem_cons_zero, List.getElem_cons_succ]
            go_simp
            have hbn : Below W3.heap.size W3 (W3.alloc (.cells #[.int .i64 0, .bool false, .int .i64 0, .int .i64 0, .string { data := #[] }, .slice none 0 0, .slice none 0 0] 25)) := (Below.refl _ _).alloc (Nat.le_refl _) _
            have hB := heap_alloc_new W3 (.cells #[.int .i64 0, .bool false, .int .i64 0, .int .i64 0, .string { data := #[] }, .slice none 0 0, .slice none 0 0] 25)
            replace hX := hX.stays hbn
            replace hA := (hbn.block _ (Array.getElem?_eq_some_iff.1 hA).1).trans hA
            replace hY := hY.stays hbn
            have hz4 : W3.heap.size < (W3.alloc (.cells #[.int .i64 0, .bool false, .int .i64 0, .int .i64 0, .string { data := #[] }, .slice none 0 0, .slice none 0 0] 25)).heap.size := by simp
            refine hK4.out _ _ (hSS.below hbn) (fun hSS => ?_)
            clear hbn hK4
            generalize W3.alloc (.cells #[.int .i64 0, .bool false, .int .i64 0, .int .i64 0, .string { data := #[] }, .slice none 0 0, .slice none 0 0] 25) = W4 at *
            have hTwo := Two.mk (A := W1.heap.size) (B := W3.heap.size) hSS hA hB hX hY (by omega) (by omega) (by omega) (fun b hb => by omega) (fun b hb => by omega)
            have hS6 := BW.set hSS (B := W1.heap.size) (by omega) x xp
            have hS7 := BW.set hS6 (B := W3.heap.size) (by omega) y yp
            have hB6 := (setBox_other W4 (W1.heap.size) x xp (W3.heap.size) (by omega)).trans hB
            refine wpAnyH_ready (rs := [6]) (by kernel_rfl) (by simp) (AllReadyH.cons rfl (fun K5 hK5 => ?_) AllReadyH.nil)
            refine step_setbox (by rfl) _ _ (by rfl) (by rfl) (B := W1.heap.size) (v := x) (p := xp) (by rfl) (by rfl) hA ?_
            refine hK5.out _ _ hS6 (fun hSS6 => ?_)
            clear hS6 hK5
            generalize setBox W4 (W1.heap.size) x xp = WB at *
            refine wpAnyH_ready (rs := [7]) (by kernel_rfl) (by simp) (AllReadyH.cons rfl (fun K6 hK6 => ?_) AllReadyH.nil)
            refine step_setbox (by rfl) _ _ (by rfl) (by rfl) (B := W3.heap.size) (v := y) (p := yp) (by rfl) (by rfl) hB6 ?_
            refine hK6.out _ _ hS7 (fun hSS7 => ?_)
            clear hS7 hK6
            generalize setBox WB (W3.heap.size) y yp = WC at *
            refine wpAnyH_done (by kernel_rfl) ?_ _
            go_wp2_with fail
            go_meet
            exact hTwo
          · refine step_plain (by rfl) ?_
            simp only [List.getElem_toArray, List.getElem_cons_zero, List.getElem_cons_succ]
            go_simp
            have hbn : Below W2.heap.size W2 (W2.alloc (.cells #[.int .i64 0, .bool false, .int .i64 0, .int .i64 0, .string { data := #[] }, .slice none 0 0, .slice none 0 0] 25)) := (Below.refl _ _).alloc (Nat.le_refl _) _
            have hB := heap_alloc_new W2 (.cells #[.int .i64 0, .bool false, .int .i64 0, .int .i64 0, .string { data := #[] }, .slice none 0 0, .slice none 0 0] 25)
            replace hX := hX.stays hbn
            replace hA := (hbn.block _ (Array.getElem?_eq_some_iff.1 hA).1).trans hA
            have hz3 : W2.heap.size < (W2.alloc (.cells #[.int .i64 0, .bool false, .int .i64 0, .int .i64 0, .string { data := #[] }, .slice none 0 0, .slice none 0 0] 25)).heap.size := by simp
            refine hK3.out _ _ (hSS.below hbn) (fun hSS => ?_)
            clear hbn hK3
            generalize W2.alloc (.cells #[.int .i64 0, .bool false, .int .i64 0, .int .i64 0, .string { data := #[] }, .slice none 0 0, .slice none 0 0] 25) = W3 at *
            refine wpAnyH_ready (rs := [3]) (by kernel_rfl) (by simp) (AllReadyH.cons rfl (fun K4 hK4 => ?_) AllReadyH.nil)
            refine step_plain (by rfl) ?_
            simp only [List.getElem_toArray, List.getElem_cons_zero, List.getElem_cons_succ]
            go_simp
            go_at_call 10
            refine (C2.out _ hSS.2.2).mono ?_
            rintro e W4 ⟨yp, rfl, hY, hbn⟩
            replace hX := hX.stays hbn
            replace hA := (hbn.block _ (Array.getElem?_eq_some_iff.1 hA).1).trans hA
            replace hB := (hbn.block _ (Array.getElem?_eq_some_iff.1 hB).1).trans hB
            replace hY := hY.mono (ok' := fun b => W3.heap.size ≤ b ∧ b < W4.heap.size) (fun _ h1 h2 => ⟨h1, h2⟩)
            have hz4 := hbn.size
            go_simp
            refine hK4.out _ _ (hSS.below hbn) (fun hSS => ?_)
            clear hbn hK4
            have hTwo := Two.mk (A := W1.heap.size) (B := W2.heap.size) hSS hA hB hX hY (by omega) (by omega) (by omega) (fun b hb => by omega) (fun b hb => by omega)
            have hS6 := BW.set hSS (B := W1.heap.size) (by omega) x xp
            have hS7 := BW.set hS6 (B := W2.heap.size) (by omega) y yp
            have hB6 := (setBox_other W4 (W1.heap.size) x xp (W2.heap.size) (by omega)).trans hB
            refine wpAnyH_ready (rs := [6]) (by kernel_rfl) (by simp) (AllReadyH.cons rfl (fun K5 hK5 => ?_) AllReadyH.nil)
            refine step_setbox (by rfl) _ _ (by rfl) (by rfl) (B := W1.heap.size) (v := x) (p := xp) (by rfl) (by rfl) hA ?_
            refine hK5.out _ _ hS6 (fun hSS6 => ?_)
            clear hS6 hK5
            generalize setBox W4 (W1.heap.size) x xp = WB at *
            refine wpAnyH_ready (rs := [7]) (by kernel_rfl) (by simp) (AllReadyH.cons rfl (fun K6 hK6 => ?_) AllReadyH.nil)
            refine step_setbox (by rfl) _ _ (by rfl) (by rfl) (B := W2.heap.size) (v := y) (p := yp) (by rfl) (by rfl) hB6 ?_
            refine hK6.out _ _ hS7 (fun hSS7 => ?_)
            clear hS7 hK6
            generalize setBox WB (W2.heap.size) y yp = WC at *
            refine wpAnyH_done (by kernel_rfl) ?_ _
            go_wp2_with fail
            go_meet
            exact hTwo
        · refine step_plain (by rfl) ?_
          simp only [List.getElem_toArray, List.getElem_cons_zero, List.getElem_cons_succ]
          go_simp
          have hbn : Below W1.heap.size W1 (W1.alloc (.cells #[.int .i64 0, .bool false, .int .i64 0, .int .i64 0, .string { data := #[] }, .slice none 0 0, .slice none 0 0] 25)) := (Below.refl _ _).alloc (Nat.le_refl _) _
          have hB := heap_alloc_new W1 (.cells #[.int .i64 0, .bool false, .int .i64 0, .int .i64 0, .string { data := #[] }, .slice none 0 0, .slice none 0 0] 25)
          replace hX := hX.stays hbn
          have hz2 : W1.heap.size < (W1.alloc (.cells #[.int .i64 0, .bool false, .int .i64 0, .int .i64 0, .string { data := #[] }, .slice none 0 0, .slice none 0 0] 25)).heap.size := by simp
          refine hK2.out _ _ (hSS.below hbn) (fun hSS => ?_)
          clear hbn hK2
          generalize W1.alloc (.cells #[.int .i64 0, .bool false, .int .i64 0, .int .i64 0, .string { data := #[] }, .slice none 0 0, .slice none 0 0] 25) = W2 at *
          refine wpAnyH_ready (rs := [3, 4]) (by kernel_rfl) (by simp) (AllReadyH.cons rfl (fun K3 hK3 => ?_) (AllReadyH.cons rfl (fun K3 hK3 => ?_) AllReadyH.nil))
          · refine step_plain (by rfl) ?_
            simp only [List.getElem_toArray, List.getElem_cons_zero, List.getElem_cons_succ]
            go_simp
            go_at_call 10
            refine (C2.out _ hSS.2.2).mono ?_
            rintro e W3 ⟨yp, rfl, hY, hbn⟩
            replace hX := hX.stays hbn
            replace hB := (hbn.block _ (Array.getElem?_eq_some_iff.1 hB).1).trans hB
            replace hY := hY.mono (ok' := fun b => W2.heap.size ≤ b ∧ b < W3.heap.size) (fun _ h1 h2 => ⟨h1, h2⟩)
            have hz3 := hbn.size
            go_simp
            refine hK3.out _ _ (hSS.below hbn) (fun hSS => ?_)
            clear hbn hK3
            refine wpAnyH_ready (rs := [4]) (by kernel_rfl) (by simp) (AllReadyH.cons rfl (fun K4 hK4 => ?_) AllReadyH.nil)
            refine step_plain (by rfl) ?_
            simp only [List.getElem_toArray, List.getElem_cons_zero, List.getElem_cons_succ]
            go_simp
            have hbn : Below W3.heap.size W3 (W3.alloc (.cells #[.int .i64 0, .bool false, .int .i64 0, .int .i64 0, .string { data := #[] }, .slice none 0 0, .slice none 0 0] 25)) := (Below.refl _ _).alloc (Nat.le_refl _) _
            have hA := heap_alloc_new W3 (.cells #[.int .i64 0, .bool false, .int .i64 0, .int .i64 0, .string { data := #[] }, .slice none 0 0, .slice none 0 0] 25)
            replace hX := hX.stays hbn
            replace hB := (hbn.block _ (Array.getElem?_eq_some_iff.1 hB).1).trans hB
            replace hY := hY.stays hbn
            have hz4 : W3.heap.size < (W3.alloc (.cells #[.int .i64 0, .bool false, .int .i64 0, .int .i64 0, .string { data := #[] }, .slice none 0 0, .slice none 0 0] 25)).heap.size := by simp
            refine hK4.out _ _ (hSS.below hbn) (fun hSS => ?_)
            clear hbn hK4
            generalize W3.alloc (.cells #[.int .i64 0, .bool false, .int .i64 0, .int .i64 0, .string { data := #[] }, .slice none 0 0, .slice none 0 0] 25) = W4 at *
            have hTwo := Two.mk (A := W3.heap.size) (B := W1.heap.size) hSS hA hB hX hY (by omega) (by omega) (by omega) (fun b hb => by omega) (fun b hb => by omega)
            have hS6 := BW.set hSS (B := W3.heap.size) (by omega) x xp
            have hS7 := BW.set hS6 (B := W1.heap.size) (by omega) y yp
            have hB6 := (setBox_other W4 (W3.heap.size) x xp (W1.heap.size) (by omega)).trans hB
            refine wpAnyH_ready (rs := [6]) (by kernel_rfl) (by simp) (AllReadyH.cons rfl (fun K5 hK5 => ?_) AllReadyH.nil)
            refine step_setbox (by rfl) _ _ (by rfl) (by rfl) (B := W3.heap.size) (v := x) (p := xp) (by rfl) (by rfl) hA ?_
            refine hK5.out _ _ hS6 (fun hSS6 => ?_)
            clear hS6 hK5
            generalize setBox W4 (W3.heap.size) x xp = WB at *
            refine wpAnyH_ready (rs := [7]) (by kernel_rfl) (by simp) (AllReadyH.cons rfl (fun K6 hK6 => ?_) AllReadyH.nil)
            refine step_setbox (by rfl) _ _ (by rfl) (by rfl) (B := W1.heap.size) (v := y) (p := yp) (by rfl) (by rfl) hB6 ?_
            refine hK6.out _ _ hS7 (fun hSS7 => ?_)
            clear hS7 hK6
            generalize setBox WB (W1.heap.size) y yp = WC at *
            refine wpAnyH_done (by kernel_rfl) ?_ _
            go_wp2_with fail
            go_meet
            exact hTwo
          · refine step_plain (by rfl) ?_
            simp only [List.getElem_toArray, List.getElem_cons_zero, List.getElem_cons_succ]
            go_simp
            have hbn : Below W2.heap.size W2 (W2.alloc (.cells #[.int .i64 0, .bool false, .int .i64 0, .int .i64 0, .string { data := #[] }, .slice none 0 0, .slice none 0 0] 25)) := (Below.refl _ _).alloc (Nat.le_refl _) _
            have hA := heap_alloc_new W2 (.cells #[.int .i64 0, .bool false, .int .i64 0, .int .i64 0, .string { data := #[] }, .slice none 0 0, .slice none 0 0] 25)
            replace hX := hX.stays hbn
            replace hB := (hbn.block _ (Array.getElem?_eq_some_iff.1 hB).1).trans hB
            have hz3 : W2.heap.size < (W2.alloc (.cells #[.int .i64 0, .bool false, .int .i64 0, .int .i64 0, .string { data := #[] }, .slice none 0 0, .slice none 0 0] 25)).heap.size := by simp
            refine hK3.out _ _ (hSS.below hbn) (fun hSS => ?_)
            clear hbn hK3
            generalize W2.alloc (.cells #[.int .i64 0, .bool false, .int .i64 0, .int .i64 0, .string { data := #[] }, .slice none 0 0, .slice none 0 0] 25) = W3 at *
            refine wpAnyH_ready (rs := [3]) (by kernel_rfl) (by simp) (AllReadyH.cons rfl (fun K4 hK4 => ?_) AllReadyH.nil)
            refine step_plain (by rfl) ?_
            simp only [List.getElem_toArray, List.getElem_cons_zero, List.getElem_cons_succ]
            go_simp
            go_at_call 10
            refine (C2.out _ hSS.2.2).mono ?_
            rintro e W4 ⟨yp, rfl, hY, hbn⟩
            replace hX := hX.stays hbn
            replace hB := (hbn.block _ (Array.getElem?_eq_some_iff.1 hB).1).trans hB
            replace hA := (hbn.block _ (Array.getElem?_eq_some_iff.1 hA).1).trans hA
            replace hY := hY.mono (ok' := fun b => W3.heap.size ≤ b ∧ b < W4.heap.size) (fun _ h1 h2 => ⟨h1, h2⟩)
            have hz4 := hbn.size
            go_simp
            refine hK4.out _ _ (hSS.below hbn) (fun hSS => ?_)
            clear hbn hK4
            have hTwo := Two.mk (A := W2.heap.size) (B := W1.heap.size) hSS hA hB hX hY (by omega) (by omega) (by omega) (fun b hb => by omega) (fun b hb => by omega)
            have hS6 := BW.set hSS (B := W2.heap.size) (by omega) x xp
            have hS7 := BW.set hS6 (B := W1.heap.size) (by omega) y yp
            have hB6 := (setBox_other W4 (W2.heap.size) x xp (W1.heap.size) (by omega)).trans hB
            refine wpAnyH_ready (rs := [6]) (by kernel_rfl) (by simp) (AllReadyH.cons rfl (fun K5 hK5 => ?_) AllReadyH.nil)
            refine step_setbox (by rfl) _ _ (by rfl) (by rfl) (B := W2.heap.size) (v := x) (p := xp) (by rfl) (by rfl) hA ?_
            refine hK5.out _ _ hS6 (fun hSS6 => ?_)
            clear hS6 hK5
            generalize setBox W4 (W2.heap.size) x xp = WB at *
            refine wpAnyH_ready (rs := [7]) (by kernel_rfl) (by simp) (AllReadyH.cons rfl (fun K6 hK6 => ?_) AllReadyH.nil)
            refine step_setbox (by rfl) _ _ (by rfl) (by rfl) (B := W1.heap.size) (v := y) (p := yp) (by rfl) (by rfl) hB6 ?_
            refine hK6.out _ _ hS7 (fun hSS7 => ?_)
            clear hS7 hK6
            generalize setBox WB (W1.heap.size) y yp = WC at *
            refine wpAnyH_done (by kernel_rfl) ?_ _
            go_wp2_with fail
            go_meet
            exact hTwo
      · refine step_plain (by rfl) ?_
        simp only [List.getElem_toArray, List.getElem_cons_zero, List.getElem_cons_succ]
        go_simp
        have hbn : Below W0.heap.size W0 (W0.alloc (.cells #[.int .i64 0, .bool false, .int .i64 0, .int .i64 0, .string { data := #[] }, .slice none 0 0, .slice none 0 0] 25)) := (Below.refl _ _).alloc (Nat.le_refl _) _
        have hA := heap_alloc_new W0 (.cells #[.int .i64 0, .bool false, .int .i64 0, .int .i64 0, .string { data := #[] }, .slice none 0 0, .slice none 0 0] 25)
        have hz1 : W0.heap.size < (W0.alloc (.cells #[.int .i64 0, .bool false, .int .i64 0, .int .i64 0, .string { data := #[] }, .slice none 0 0, .slice none 0 0] 25)).heap.size := by simp
        refine hK1.out _ _ (hSS.below hbn) (fun hSS => ?_)
        clear hbn hK1
        generalize W0.alloc (.cells #[.int .i64 0, .bool false, .int .i64 0, .int .i64 0, .string { data := #[] }, .slice none 0 0, .slice none 0 0] 25) = W1 at *
        refine wpAnyH_ready (rs := [1, 5]) (by kernel_rfl) (by simp) (AllReadyH.cons rfl (fun K2 hK2 => ?_) (AllReadyH.cons rfl (fun K2 hK2 => ?_) AllReadyH.nil))
        · refine step_plain (by rfl) ?_
          simp only [List.getElem_toArray, List.getElem_cons_zero, List.getElem_cons_succ]
          go_simp
          go_at_call 10
          refine (C1.out _ hSS.2.2).mono ?_
          rintro e W2 ⟨xp, rfl, hX, hbn⟩
          replace hA := (hbn.block _ (Array.getElem?_eq_some_iff.1 hA).1).trans hA
          replace hX := hX.mono (ok' := fun b => W1.heap.size ≤ b ∧ b < W2.heap.size) (fun _ h1 h2 => ⟨h1, h2⟩)
          have hz2 := hbn.size
          go_simp
          refine hK2.out _ _ (hSS.below hbn) (fun hSS => ?_)
          clear hbn hK2
          refine wpAnyH_ready (rs := [3, 5]) (by kernel_rfl) (by simp) (AllReadyH.cons rfl (fun K3 hK3 => ?_) (AllReadyH.cons rfl (fun K3 hK3 => ?_) AllReadyH.nil))
          · refine step_plain (by rfl) ?_
            simp only [List.getElem_toArray, List.getElem_cons_zero, List.getElem_cons_succ]
            go_simp
            go_at_call 10
            refine (C2.out _ hSS.2.2).mono ?_
            rintro e W3 ⟨yp, rfl, hY, hbn⟩
            replace hA := (hbn.block _ (Array.getElem?_eq_some_iff.1 hA).1).trans hA
            replace hX := hX.stays hbn
            replace hY := hY.mono (ok' := fun b => W2.heap.size ≤ b ∧ b < W3.heap.size) (fun _ h1 h2 => ⟨h1, h2⟩)
            have hz3 := hbn.size
            go_simp
            refine hK3.out _ _ (hSS.below hbn) (fun hSS => ?_)
            clear hbn hK3
            refine wpAnyH_ready (rs := [5]) (by kernel_rfl) (by simp) (AllReadyH.cons rfl (fun K4 hK4 => ?_) AllReadyH.nil)
            refine step_plain (by rfl) ?_
            simp only [List.getElem_toArray, List.getElem_cons_zero, List.getElem_cons_succ]
            go_simp
            have hbn : Below W3.heap.size W3 (W3.alloc (.cells #[.int .i64 0, .bool false, .int .i64 0, .int .i64 0, .string { data := #[] }, .slice none 0 0, .slice none 0 0] 25)) := (Below.refl _ _).alloc (Nat.le_refl _) _
            have hB := heap_alloc_new W3 (.cells #[.int .i64 0, .bool false, .int .i64 0, .int .i64 0, .string { data := #[] }, .slice none 0 0, .slice none 0 0] 25)
            replace hA := (hbn.block _ (Array.getElem?_eq_some_iff.1 hA).1).trans hA
            replace hX := hX.stays hbn
            replace hY := hY.stays hbn
            have hz4 : W3.heap.size < (W3.alloc (.cells #[.int .i64 0, .bool false, .int .i64 0, .int .i64 0, .string { data := #[] }, .slice none 0 0, .slice none 0 0] 25)).heap.size := by simp
            refine hK4.out _ _ (hSS.below hbn) (fun hSS => ?_)
            clear hbn hK4
            generalize W3.alloc (.cells #[.int .i64 0, .bool false, .int .i64 0, .int .i64 0, .string { data := #[] }, .slice none 0 0, .slice none 0 0] 25) = W4 at *
            have hTwo := Two.mk (A := W0.heap.size) (B := W3.heap.size) hSS hA hB hX hY (by omega) (by omega) (by omega) (fun b hb => by omega) (fun b hb => by omega)
            have hS6 := BW.set hSS (B := W0.heap.size) (by omega) x xp
            have hS7 := BW.set hS6 (B := W3.heap.size) (by omega) y yp
            have hB6 := (setBox_other W4 (W0.heap.size) x xp (W3.heap.size) (by omega)).trans hB
            refine wpAnyH_ready (rs := [6]) (by kernel_rfl) (by simp) (AllReadyH.cons rfl (fun K5 hK5 => ?_) AllReadyH.nil)
            refine step_setbox (by rfl) _ _ (by rfl) (by rfl) (B := W0.heap.size) (v := x) (p := xp) (by rfl) (by rfl) hA ?_
            refine hK5.out _ _ hS6 (fun hSS6 => ?_)
            clear hS6 hK5
            generalize setBox W4 (W0.heap.size) x xp = WB at *
            refine wpAnyH_ready (rs := [7]) (by kernel_rfl) (by simp) (AllReadyH.cons rfl (fun K6 hK6 => ?_) AllReadyH.nil)
            refine step_setbox (by rfl) _ _ (by rfl) (by rfl) (B := W3.heap.size) (v := y) (p := yp) (by rfl) (by rfl) hB6 ?_
            refine hK6.out _ _ hS7 (fun hSS7 => ?_)
            clear hS7 hK6
            generalize setBox WB (W3.heap.size) y yp = WC at *
            refine wpAnyH_done (by kernel_rfl) ?_ _
            go_wp2_with fail
            go_meet
            exact hTwo
          · refine step_plain (by rfl) ?_
            simp only [List.getElem_toArray, List.getElem_cons_zero, List.getElem_cons_succ]
            go_simp
            have hbn : Below W2.heap.size W2 (W2.alloc (.cells #[.int .i64 0, .bool false, .int .i64 0, .int .i64 0, .string { data := #[] }, .slice none 0 0, .slice none 0 0] 25)) := (Below.refl _ _).alloc (Nat.le_refl _) _
            have hB := heap_alloc_new W2 (.cells #[.int .i64 0, .bool false, .int .i64 0, .int .i64 0, .string { data := #[] }, .slice none 0 0, .slice none 0 0] 25)
            replace hA := (hbn.block _ (Array.getElem?_eq_some_iff.1 hA).1).trans hA
            replace hX := hX.stays hbn
            have hz3 : W2.heap.size < (W2.alloc (.cells #[.int .i64 0, .bool false, .int .i64 0, .int .i64 0, .string { data := #[] }, .slice none 0 0, .slice none 0 0] 25)).heap.size := by simp
            refine hK3.out _ _ (hSS.below hbn) (fun hSS => ?_)
            clear hbn hK3
            generalize W2.alloc (.cells #[.int .i64 0, .bool false, .int .i64 0, .int .i64 0, .string { data := #[] }, .slice none 0 0, .slice none 0 0] 25) = W3 at *
            refine wpAnyH_ready (rs := [3]) (by kernel_rfl) (by simp) (AllReadyH.cons rfl (fun K4 hK4 => ?_) AllReadyH.nil)
            refine step_plain (by rfl) ?_
            simp only [List.getElem_toArray, List.getElem_cons_zero, List.getElem_cons_succ]
            go_simp
            go_at_call 10
            refine (C2.out _ hSS.2.2).mono ?_
            rintro e W4 ⟨yp, rfl, hY, hbn⟩
            replace hA := (hbn.block _ (Array.getElem?_eq_some_iff.1 hA).1).trans hA
            replace hX := hX.stays hbn
            replace hB := (hbn.block _ (Array.getElem?_eq_some_iff.1 hB).1).trans hB
            replace hY := hY.mono (ok' := fun b => W3.heap.size ≤ b ∧ b < W4.heap.size) (fun _ h1 h2 => ⟨h1, h2⟩)
            have hz4 := hbn.size
            go_simp
            refine hK4.out _ _ (hSS.below hbn) (fun hSS => ?_)
            clear hbn hK4
            have hTwo := Two.mk (A := W0.heap.size) (B := W2.heap.size) hSS hA hB hX hY (by omega) (by omega) (by omega) (fun b hb => by omega) (fun b hb => by omega)
            have hS6 := BW.set hSS (B := W0.heap.size) (by omega) x xp
            have hS7 := BW.set hS6 (B := W2.heap.size) (by omega) y yp
            have hB6 := (setBox_other W4 (W0.heap.size) x xp (W2.heap.size) (by omega)).trans hB
            refine wpAnyH_ready (rs := [6]) (by kernel_rfl) (by simp) (AllReadyH.cons rfl (fun K5 hK5 => ?_) AllReadyH.nil)
            refine step_setbox (by rfl) _ _ (by rfl) (by rfl) (B := W0.heap.size) (v := x) (p := xp) (by rfl) (by rfl) hA ?_
            refine hK5.out _ _ hS6 (fun hSS6 => ?_)
            clear hS6 hK5
            generalize setBox W4 (W0.heap.size) x xp = WB at *
            refine wpAnyH_ready (rs := [7]) (by kernel_rfl) (by simp) (AllReadyH.cons rfl (fun K6 hK6 => ?_) AllReadyH.nil)
            refine step_setbox (by rfl) _ _ (by rfl) (by rfl) (B := W2.heap.size) (v := y) (p := yp) (by rfl) (by rfl) hB6 ?_
            refine hK6.out _ _ hS7 (fun hSS7 => ?_)
            clear hS7 hK6
            generalize setBox WB (W2.heap.size) y yp = WC at *
            refine wpAnyH_done (by kernel_rfl) ?_ _
            go_wp2_with fail
            go_meet
            exact hTwo
        · refine step_plain (by rfl) ?_
          simp only [List.getElem_toArray, List.getElem_cons_zero, List.getElem_cons_succ]
          go_simp
          have hbn : Below W1.heap.size W1 (W1.alloc (.cells #[.int .i64 0, .bool false, .int .i64 0, .int .i64 0, .string { data := #[] }, .slice none 0 0, .slice none 0 0] 25)) := (Below.refl _ _).alloc (Nat.le_refl _) _
          have hB := heap_alloc_new W1 (.cells #[.int .i64 0, .bool false, .int .i64 0, .int .i64 0, .string { data := #[] }, .slice none 0 0, .slice none 0 0] 25)
          replace hA := (hbn.block _ (Array.getElem?_eq_some_iff.1 hA).1).trans hA
          have hz2 : W1.heap.size < (W1.alloc (.cells #[.int .i64 0, .bool false, .int .i64 0, .int .i64 0, .string { data := #[] }, .slice none 0 0, .slice none 0 0] 25)).heap.size := by simp
          refine hK2.out _ _ (hSS.below hbn) (fun hSS => ?_)
          clear hbn hK2
          generalize W1.alloc (.cells #[.int .i64 0, .bool false, .int .i64 0, .int .i64 0, .string { data := #[] }, .slice none 0 0, .slice none 0 0] 25) = W2 at *
          refine wpAnyH_ready (rs := [1]) (by kernel_rfl) (by simp) (AllReadyH.cons rfl (fun K3 hK3 => ?_) AllReadyH.nil)
          refine step_plain (by rfl) ?_
          simp only [List.getElem_toArray, List.getElem_cons_zero, List.getElem_cons_succ]
          go_simp
          go_at_call 10
          refine (C1.out _ hSS.2.2).mono ?_
          rintro e W3 ⟨xp, rfl, hX, hbn⟩
          replace hA := (hbn.block _ (Array.getElem?_eq_some_iff.1 hA).1).trans hA
          replace hB := (hbn.block _ (Array.getElem?_eq_some_iff.1 hB).1).trans hB
          replace hX := hX.mono (ok' := fun b => W2.heap.size ≤ b ∧ b < W3.heap.size) (fun _ h1 h2 => ⟨h1, h2⟩)
          have hz3 := hbn.size
          go_simp
          refine hK3.out _ _ (hSS.below hbn) (fun hSS => ?_)
          clear hbn hK3
          refine wpAnyH_ready (rs := [3]) (by kernel_rfl) (by simp) (AllReadyH.cons rfl (fun K4 hK4 => ?_) AllReadyH.nil)
          refine step_plain (by rfl) ?_
          simp only [List.getElem_toArray, List.getElem_cons_zero, List.getElem_cons_succ]
          go_simp
          go_at_call 10
          refine (C2.out _ hSS.2.2).mono ?_
          rintro e W4 ⟨yp, rfl, hY, hbn⟩
          replace hA := (hbn.block _ (Array.getElem?_eq_some_iff.1 hA).1).trans hA
          replace hB := (hbn.block _ (Array.getElem?_eq_some_iff.1 hB).1).trans hB
          replace hX := hX.stays hbn
          replace hY := hY.mono (ok' := fun b => W3.heap.size ≤ b ∧ b < W4.heap.size) (fun _ h1 h2 => ⟨h1, h2⟩)
          have hz4 := hbn.size
          go_simp
          refine hK4.out _ _ (hSS.below hbn) (fun hSS => ?_)
          clear hbn hK4
          have hTwo := Two.mk (A := W0.heap.size) (B := W1.heap.size) hSS hA hB hX hY (by omega) (by omega) (by omega) (fun b hb => by omega) (fun b hb => by omega)
          have hS6 := BW.set hSS (B := W0.heap.size) (by omega) x xp
          have hS7 := BW.set hS6 (B := W1.heap.size) (by omega) y yp
          have hB6 := (setBox_other W4 (W0.heap.size) x xp (W1.heap.size) (by omega)).trans hB
          refine wpAnyH_ready (rs := [6]) (by kernel_rfl) (by simp) (AllReadyH.cons rfl (fun K5 hK5 => ?_) AllReadyH.nil)
          refine step_setbox (by rfl) _ _ (by rfl) (by rfl) (B := W0.heap.size) (v := x) (p := xp) (by rfl) (by rfl) hA ?_
          refine hK5.out _ _ hS6 (fun hSS6 => ?_)
          clear hS6 hK5
          generalize setBox W4 (W0.heap.size) x xp = WB at *
          refine wpAnyH_ready (rs := [7]) (by kernel_rfl) (by simp) (AllReadyH.cons rfl (fun K6 hK6 => ?_) AllReadyH.nil)
          refine step_setbox (by rfl) _ _ (by rfl) (by rfl) (B := W1.heap.size) (v := y) (p := yp) (by rfl) (by rfl) hB6 ?_
          refine hK6.out _ _ hS7 (fun hSS7 => ?_)
          clear hS7 hK6
          generalize setBox WB (W1.heap.size) y yp = WC at *
          refine wpAnyH_done (by kernel_rfl) ?_ _
          go_wp2_with fail
          go_meet
          exact hTwo
      · refine step_plain (by rfl) ?_
        simp only [List.getElem_toArray, List.getElem_cons_zero, List.getElem_cons_succ]
        go_simp
        have hbn : Below W0.heap.size W0 (W0.alloc (.cells #[.int .i64 0, .bool false, .int .i64 0, .int .i64 0, .string { data := #[] }, .slice none 0 0, .slice none 0 0] 25)) := (Below.refl _ _).alloc (Nat.le_refl _) _
        have hB := heap_alloc_new W0 (.cells #[.int .i64 0, .bool false, .int .i64 0, .int .i64 0, .string { data := #[] }, .slice none 0 0, .slice none 0 0] 25)
        have hz1 : W0.heap.size < (W0.alloc (.cells #[.int .i64 0, .bool false, .int .i64 0, .int .i64 0, .string { data := #[] }, .slice none 0 0, .slice none 0 0] 25)).heap.size := by simp
        refine hK1.out _ _ (hSS.below hbn) (fun hSS => ?_)
        clear hbn hK1
        generalize W0.alloc (.cells #[.int .i64 0, .bool false, .int .i64 0, .int .i64 0, .string { data := #[] }, .slice none 0 0, .slice none 0 0] 25) = W1 at *
        refine wpAnyH_ready (rs := [1, 4]) (by kernel_rfl) (by simp) (AllReadyH.cons rfl (fun K2 hK2 => ?_) (AllReadyH.cons rfl (fun K2 hK2 => ?_) AllReadyH.nil))
        · refine step_plain (by rfl) ?_
          simp only [List.getElem_toArray, List.getElem_cons_zero, List.getElem_cons_succ]
          go_simp
          go_at_call 10
          refine (C1.out _ hSS.2.2).mono ?_
          rintro e W2 ⟨xp, rfl, hX, hbn⟩
          replace hB := (hbn.block _ (Array.getElem?_eq_some_iff.1 hB).1).trans hB
          replace hX := hX.mono (ok' := fun b => W1.heap.size ≤ b ∧ b < W2.heap.size) (fun _ h1 h2 => ⟨h1, h2⟩)
          have hz2 := hbn.size
          go_simp
          refine hK2.out _ _ (hSS.below hbn) (fun hSS => ?_)
          clear hbn hK2
          refine wpAnyH_ready (rs := [3, 4]) (by kernel_rfl) (by simp) (AllReadyH.cons rfl (fun K3 hK3 => ?_) (AllReadyH.cons rfl (fun K3 hK3 => ?_) AllReadyH.nil))
          · refine step_plain (by rfl) ?_
            simp only [List.getElem_toArray, List.getElem_cons_zero, List.getElem_cons_succ]
            go_simp
            go_at_call 10
            refine (C2.out _ hSS.2.2).mono ?_
            rintro e W3 ⟨yp, rfl, hY, hbn⟩
            replace hB := (hbn.block _ (Array.getElem?_eq_some_iff.1 hB).1).trans hB
            replace hX := hX.stays hbn
            replace hY := hY.mono (ok' := fun b => W2.heap.size ≤ b ∧ b < W3.heap.size) (fun _ h1 h2 => ⟨h1, h2⟩)
            have hz3 := hbn.size
            go_simp
            refine hK3.out _ _ (hSS.below hbn) (fun hSS => ?_)
            clear hbn hK3
            refine wpAnyH_ready (rs := [4]) (by kernel_rfl) (by simp) (AllReadyH.cons rfl (fun K4 hK4 => ?_) AllReadyH.nil)
            refine step_plain (by rfl) ?_
            simp only [List.getElem_toArray, List.getElem_cons_zero, List.getElem_cons_succ]
            go_simp
            have hbn : Below W3.heap.size W3 (W3.alloc (.cells #[.int .i64 0, .bool false, .int .i64 0, .int .i64 0, .string { data := #[] }, .slice none 0 0, .slice none 0 0] 25)) := (Below.refl _ _).alloc (Nat.le_refl _) _
            have hA := heap_alloc_new W3 (.cells #[.int .i64 0, .bool false, .int .i64 0, .int .i64 0, .string { data := #[] }, .slice none 0 0, .slice none 0 0] 25)
            replace hB := (hbn.block _ (Array.getElem?_eq_some_iff.1 hB).1).trans hB
            replace hX := hX.stays hbn
            replace hY := hY.stays hbn
            have hz4 : W3.heap.size < (W3.alloc (.cells #[.int .i64 0, .bool false, .int .i64 0, .int .i64 0, .string { data := #[] }, .slice none 0 0, .slice none 0 0] 25)).heap.size := by simp
            refine hK4.out _ _ (hSS.below hbn) (fun hSS => ?_)
            clear hbn hK4
            generalize W3.alloc (.cells #[.int .i64 0, .bool false, .int .i64 0, .int .i64 0, .string { data := #[] }, .slice none 0 0, .slice none 0 0] 25) = W4 at *
            have hTwo := Two.mk (A := W3.heap.size) (B := W0.heap.size) hSS hA hB hX hY (by omega) (by omega) (by omega) (fun b hb => by omega) (fun b hb => by omega)
            have hS6 := BW.set hSS (B := W3.heap.size) (by omega) x xp
            have hS7 := BW.set hS6 (B := W0.heap.size) (by omega) y yp
            have hB6 := (setBox_other W4 (W3.heap.size) x xp (W0.heap.size) (by omega)).trans hB
            refine wpAnyH_ready (rs := [6]) (by kernel_rfl) (by simp) (AllReadyH.cons rfl (fun K5 hK5 => ?_) AllReadyH.nil)
            refine step_setbox (by rfl) _ _ (by rfl) (by rfl) (B := W3.heap.size) (v := x) (p := xp) (by rfl) (by rfl) hA ?_
            refine hK5.out _ _ hS6 (fun hSS6 => ?_)
            clear hS6 hK5
            generalize setBox W4 (W3.heap.size) x xp = WB at *
            refine wpAnyH_ready (rs := [7]) (by kernel_rfl) (by simp) (AllReadyH.cons rfl (fun K6 hK6 => ?_) AllReadyH.nil)
            refine step_setbox (by rfl) _ _ (by rfl) (by rfl) (B := W0.heap.size) (v := y) (p := yp) (by rfl) (by rfl) hB6 ?_
            refine hK6.out _ _ hS7 (fun hSS7 => ?_)
            clear hS7 hK6
            generalize setBox WB (W0.heap.size) y yp = WC at *
            refine wpAnyH_done (by kernel_rfl) ?_ _
            go_wp2_with fail
            go_meet
            exact hTwo
          · refine step_plain (by rfl) ?_
            simp only [List.getElem_toArray, List.getElem_cons_zero, List.getElem_cons_succ]
            go_simp
            have hbn : Below W2.heap.size W2 (W2.alloc (.cells #[.int .i64 0, .bool false, .int .i64 0, .int .i64 0, .string { data := #[] }, .slice none 0 0, .slice none 0 0] 25)) := (Below.refl _ _).alloc (Nat.le_refl _) _
            have hA := heap_alloc_new W2 (.cells #[.int .i64 0, .bool false, .int .i64 0, .int .i64 0, .string { data := #[] }, .slice none 0 0, .slice none 0 0] 25)
            replace hB := (hbn.block _ (Array.getElem?_eq_some_iff.1 hB).1).trans hB
            replace hX := hX.stays hbn
            have hz3 : W2.heap.size < (W2.alloc (.cells #[.int .i64 0, .bool false, .int .i64 0, .int .i64 0, .string { data := #[] }, .slice none 0 0, .slice none 0 0] 25)).heap.size := by simp
            refine hK3.out _ _ (hSS.below hbn) (fun hSS => ?_)
            clear hbn hK3
            generalize W2.alloc (.cells #[.int .i64 0, .bool false, .int .i64 0, .int .i64 0, .string { data := #[] }, .slice none 0 0, .slice none 0 0] 25) = W3 at *
            refine wpAnyH_ready (rs := [3]) (by kernel_rfl) (by simp) (AllReadyH.cons rfl (fun K4 hK4 => ?_) AllReadyH.nil)
            refine step_plain (by rfl) ?_
            simp only [List.getElem_toArray, List.getElem_cons_zero, List.getElem_cons_succ]
            go_simp
            go_at_call 10
            refine (C2.out _ hSS.2.2).mono ?_
            rintro e W4 ⟨yp, rfl, hY, hbn⟩
            replace hB := (hbn.block _ (Array.getElem?_eq_some_iff.1 hB).1).trans hB
            replace hX := hX.stays hbn
            replace hA := (hbn.block _ (Array.getElem?_eq_some_iff.1 hA).1).trans hA
            replace hY := hY.mono (ok' := fun b => W3.heap.size ≤ b ∧ b < W4.heap.size) (fun _ h1 h2 => ⟨h1, h2⟩)
            have hz4 := hbn.size
            go_simp
            refine hK4.out _ _ (hSS.below hbn) (fun hSS => ?_)
            clear hbn hK4
            have hTwo := Two.mk (A := W2.heap.size) (B := W0.heap.size) hSS hA hB hX hY (by omega) (by omega) (by omega) (fun b hb => by omega) (fun b hb => by omega)
            have hS6 := BW.set hSS (B := W2.heap.size) (by omega) x xp
            have hS7 := BW.set hS6 (B := W0.heap.size) (by omega) y yp
            have hB6 := (setBox_other W4 (W2.heap.size) x xp (W0.heap.size) (by omega)).trans hB
            refine wpAnyH_ready (rs := [6]) (by kernel_rfl) (by simp) (AllReadyH.cons rfl (fun K5 hK5 => ?_) AllReadyH.nil)
            refine step_setbox (by rfl) _ _ (by rfl) (by rfl) (B := W2.heap.size) (v := x) (p := xp) (by rfl) (by rfl) hA ?_
            refine hK5.out _ _ hS6 (fun hSS6 => ?_)
            clear hS6 hK5
            generalize setBox W4 (W2.heap.size) x xp = WB at *
            refine wpAnyH_ready (rs := [7]) (by kernel_rfl) (by simp) (AllReadyH.cons rfl (fun K6 hK6 => ?_) AllReadyH.nil)
            refine step_setbox (by rfl) _ _ (by rfl) (by rfl) (B := W0.heap.size) (v := y) (p := yp) (by rfl) (by rfl) hB6 ?_
            refine hK6.out _ _ hS7 (fun hSS7 => ?_)
            clear hS7 hK6
            generalize setBox WB (W0.heap.size) y yp = WC at *
            refine wpAnyH_done (by kernel_rfl) ?_ _
            go_wp2_with fail
            go_meet
            exact hTwo
        · refine step_plain (by rfl) ?_
          simp only [List.getElem_toArray, List.getElem_cons_zero, List.getElem_cons_succ]
          go_simp
          have hbn : Below W1.heap.size W1 (W1.alloc (.cells #[.int .i64 0, .bool false, .int .i64 0, .int .i64 0, .string { data := #[] }, .slice none 0 0, .slice none 0 0] 25)) := (Below.refl _ _).alloc (Nat.le_refl _) _
          have hA := heap_alloc_new W1 (.cells #[.int .i64 0, .bool false, .int .i64 0, .int .i64 0, .string { data := #[] }, .slice none 0 0, .slice none 0 0] 25)
          replace hB := (hbn.block _ (Array.getElem?_eq_some_iff.1 hB).1).trans hB
          have hz2 : W1.heap.size < (W1.alloc (.cells #[.int .i64 0, .bool false, .int .i64 0, .int .i64 0, .string { data := #[] }, .slice none 0 0, .slice none 0 0] 25)).heap.size := by simp
          refine hK2.out _ _ (hSS.below hbn) (fun hSS => ?_)
          clear hbn hK2
          generalize W1.alloc (.cells #[.int .i64 0, .bool false, .int .i64 0, .int .i64 0, .string { data := #[] }, .slice none 0 0, .slice none 0 0] 25) = W2 at *
          refine wpAnyH_ready (rs := [1]) (by kernel_rfl) (by simp) (AllReadyH.cons rfl (fun K3 hK3 => ?_) AllReadyH.nil)
          refine step_plain (by rfl) ?_
          simp only [List.getElem_toArray, List.getElem_cons_zero, List.getElem_cons_succ]
          go_simp
          go_at_call 10
          refine (C1.out _ hSS.2.2).mono ?_
          rintro e W3 ⟨xp, rfl, hX, hbn⟩
          replace hB := (hbn.block _ (Array.getElem?_eq_some_iff.1 hB).1).trans hB
          replace hA := (hbn.block _ (Array.getElem?_eq_some_iff.1 hA).1).trans hA
          replace hX := hX.mono (ok' := fun b => W2.heap.size ≤ b ∧ b < W3.heap.size) (fun _ h1 h2 => ⟨h1, h2⟩)
          have hz3 := hbn.size
          go_simp
          refine hK3.out _ _ (hSS.below hbn) (fun hSS => ?_)
          clear hbn hK3
          refine wpAnyH_ready (rs := [3]) (by kernel_rfl) (by simp) (AllReadyH.cons rfl (fun K4 hK4 => ?_) AllReadyH.nil)
          refine step_plain (by rfl) ?_
          simp only [List.getElem_toArray, List.getElem_cons_zero, List.getElem_cons_succ]
          go_simp
          go_at_call 10
          refine (C2.out _ hSS.2.2).mono ?_
          rintro e W4 ⟨yp, rfl, hY, hbn⟩
          replace hB := (hbn.block _ (Array.getElem?_eq_some_iff.1 hB).1).trans hB
          replace hA := (hbn.block _ (Array.getElem?_eq_some_iff.1 hA).1).trans hA
          replace hX := hX.stays hbn
          replace hY := hY.mono (ok' := fun b => W3.heap.size ≤ b ∧ b < W4.heap.size) (fun _ h1 h2 => ⟨h1, h2⟩)
          have hz4 := hbn.size
          go_simp
          refine hK4.out _ _ (hSS.below hbn) (fun hSS => ?_)
          clear hbn hK4
          have hTwo := Two.mk (A := W1.heap.size) (B := W0.heap.size) hSS hA hB hX hY (by omega) (by omega) (by omega) (fun b hb => by omega) (fun b hb => by omega)
          have hS6 := BW.set hSS (B := W1.heap.size) (by omega) x xp
          have hS7 := BW.set hS6 (B := W0.heap.size) (by omega) y yp
          have hB6 := (setBox_other W4 (W1.heap.size) x xp (W0.heap.size) (by omega)).trans hB
          refine wpAnyH_ready (rs := [6]) (by kernel_rfl) (by simp) (AllReadyH.cons rfl (fun K5 hK5 => ?_) AllReadyH.nil)
          refine step_setbox (by rfl) _ _ (by rfl) (by rfl) (B := W1.heap.size) (v := x) (p := xp) (by rfl) (by rfl) hA ?_
          refine hK5.out _ _ hS6 (fun hSS6 => ?_)
          clear hS6 hK5
          generalize setBox W4 (W1.heap.size) x xp = WB at *
          refine wpAnyH_ready (rs := [7]) (by kernel_rfl) (by simp) (AllReadyH.cons rfl (fun K6 hK6 => ?_) AllReadyH.nil)
          refine step_setbox (by rfl) _ _ (by rfl) (by rfl) (B := W0.heap.size) (v := y) (p := yp) (by rfl) (by rfl) hB6 ?_
          refine hK6.out _ _ hS7 (fun hSS7 => ?_)
          clear hS7 hK6
          generalize setBox WB (W0.heap.size) y yp = WC at *
          refine wpAnyH_done (by kernel_rfl) ?_ _
          go_wp2_with fail
          go_meet
          exact hTwo
    case rest =>
      obtain ⟨A, B, xp, yp, rfl, rfl, hA, hB, hX, hY, hb4⟩ := hcut
      obtain ⟨w4, rfl⟩ : ∃ w4, w4 = wc := ⟨_, rfl⟩
      have lA := (Array.getElem?_eq_some_iff.1 hA).1
      have lB := (Array.getElem?_eq_some_iff.1 hB).1
      clear hB3 HBC C1 C2
      go_wp2_with fail
      have HZ0 : Hid (TOwn w4 w4.heap.size (.slice none 0 0) []) := TOwn.nil _ _
      go_loopw [9, 10] (fun s9 s10 wr => ∃ (k : Nat) (sv : Value), k ≤ l.length ∧ sv = s9 ∧ s10 = .int .i64 k ∧ Hid (TOwn wr w4.heap.size sv (l.take k)) ∧ Below w4.heap.size w4 wr) (fun _ s10 _ => l.length - (intOf s10).toNat)
      case atStart => exact ⟨0, _, by omega, rfl, rfl, HZ0, Below.refl _ _⟩
      case round =>
        obtain ⟨k, sv, hkl, rfl, rfl, HT, hb5⟩ := hrel
        clear HZ0
        by_cases h1 : k < l.length
        · clear hA hB hX hY lA lB T1 T2 CWI CGL RG RW UG UW UX
          go_wp2_with fail
          obtain ⟨bl, off, rfl, hbl, -, -⟩ := HSL.out _ k (hb4.trans (hb5.mono hb4.size)) h1
          have HC : Hid (∀ W, Below w4.heap.size w4 W → W.cell? ⟨bl, off + k * 2, none⟩ = some (.string l[k].key) ∧ W.cell? ⟨bl, off + k * 2 + 1, none⟩ = some (.int .i64 l[k].at_)) := fun W hW => by
            obtain ⟨b', o', e, -, c1, c2⟩ := HSL.out W k (hb4.trans (hW.mono hb4.size)) h1
            injection e with e; injection e with e1 e2; subst e1; subst e2
            exact ⟨c1, c2⟩
          have HTK : Hid (TOwn wr w4.heap.size sv (l.take k) ∧ l[k].ok ∧ l.take (k + 1) = l.take k ++ [l[k]] ∧ l.length ≤ 1048575) := ⟨HT.out, HOK.out l[k] (List.getElem_mem h1), List.take_succ_eq_append_getElem h1, HLN.out⟩
          clear HT HSL HOK HLN
          generalize l[k] = s at *
          refine wp_region_held_drew (S := fun W => Below w4.heap.size w4 W) (by kernel_rfl) hb5.drew (fun hSS => ?_)
          have HT0 : Hid (TOwn wr.drew w4.heap.size sv (l.take k)) := HTK.out.1.below ((Below.refl _ _).drew)
          generalize hV0 : wr.drew = V0 at *
          clear hV0
          refine wpAnyH_take (i := 0) (v := ?_) rfl (by kernel_rfl) (by kernel_rfl) (by kernel_rfl) (fun _ _ _ h => h) (Or.inl ⟨by rfl, ?_⟩) hSS ?_
          rotate_left
          · intro wz hSz
            go_simp
            try with_reducible rfl
          simp only [List.getElem_toArray, List.getElem_cons_zero, Act.put, List.setIfInBounds_toArray, List.set_cons_zero, List.set_cons_succ]
          refine wpAnyH_take (i := 1) (v := ?_) rfl (by kernel_rfl) (by kernel_rfl) (by kernel_rfl) (fun _ _ _ h => h) (Or.inl ⟨by rfl, ?_⟩) hSS ?_
          rotate_left
          · intro wz hSz
            go_simp
            try with_reducible rfl
          simp only [List.getElem_toArray, List.getElem_cons_zero, List.getElem_cons_succ, Act.put, List.setIfInBounds_toArray, List.set_cons_zero, List.set_cons_succ]
          refine wpAnyH_take (i := 2) (v := ?_) rfl (by kernel_rfl) (by kernel_rfl) (by kernel_rfl) (fun _ _ _ h => h) (Or.inl ⟨by rfl, ?_⟩) hSS ?_
          rotate_left
          · intro wz hSz
            go_simp
            try with_reducible rfl
          simp only [List.getElem_toArray, List.getElem_cons_zero, List.getElem_cons_succ, Act.put, List.setIfInBounds_toArray, List.set_cons_zero, List.set_cons_succ]
          refine wpAnyH_take (i := 3) (v := ?_) rfl (by kernel_rfl) (by kernel_rfl) (by kernel_rfl) (fun _ _ _ h => h) (Or.inl ⟨by rfl, ?_⟩) hSS ?_
          rotate_left
          · intro wz hSz
            go_simp
            try with_reducible rfl
          simp only [List.getElem_toArray, List.getElem_cons_zero, List.getElem_cons_succ, Act.put, List.setIfInBounds_toArray, List.set_cons_zero, List.set_cons_succ]
          refine wpAnyH_take (i := 4) (v := ?_) rfl (by kernel_rfl) (by kernel_rfl) (by kernel_rfl) (fun _ _ _ h => h) (Or.inl ⟨by rfl, ?_⟩) hSS ?_
          rotate_left
          · intro wz hSz
            go_simp
            try with_reducible rfl
          simp only [List.getElem_toArray, List.getElem_cons_zero, List.getElem_cons_succ, Act.put, List.setIfInBounds_toArray, List.set_cons_zero, List.set_cons_succ]
          refine wpAnyH_take (i := 5) (v := ?_) rfl (by kernel_rfl) (by kernel_rfl) (by kernel_rfl) (fun _ _ _ h => h) (Or.inl ⟨by rfl, ?_⟩) hSS ?_
          rotate_left
          · intro wz hSz
            obtain ⟨p1, p2⟩ := HC.out _ hSz
            go_simp
            try with_reducible rfl
          simp only [List.getElem_toArray, List.getElem_cons_zero, List.getElem_cons_succ, Act.put, List.setIfInBounds_toArray, List.set_cons_zero, List.set_cons_succ]
          refine wpAnyH_take (i := 6) (v := ?_) rfl (by kernel_rfl) (by kernel_rfl) (by kernel_rfl) (fun _ _ _ h => h) (Or.inl ⟨by rfl, ?_⟩) hSS ?_
          rotate_left
          · intro wz hSz
            go_simp
            try with_reducible rfl
          simp only [List.getElem_toArray, List.getElem_cons_zero, List.getElem_cons_succ, Act.put, List.setIfInBounds_toArray, List.set_cons_zero, List.set_cons_succ]
          refine wpAnyH_take (i := 7) (v := ?_) rfl (by kernel_rfl) (by kernel_rfl) (by kernel_rfl) (fun _ _ _ h => h) (Or.inl ⟨by rfl, ?_⟩) hSS ?_
          rotate_left
          · intro wz hSz
            go_simp
            try with_reducible rfl
          simp only [List.getElem_toArray, List.getElem_cons_zero, List.getElem_cons_succ, Act.put, List.setIfInBounds_toArray, List.set_cons_zero, List.set_cons_succ]
          refine wpAnyH_take (i := 8) (v := ?_) rfl (by kernel_rfl) (by kernel_rfl) (by kernel_rfl) (fun _ _ _ h => h) (Or.inl ⟨by rfl, ?_⟩) hSS ?_
          rotate_left
          · intro wz hSz
            go_simp
            try with_reducible rfl
          simp only [List.getElem_toArray, List.getElem_cons_zero, List.getElem_cons_succ, Act.put, List.setIfInBounds_toArray, List.set_cons_zero, List.set_cons_succ]
          refine wpAnyH_take (i := 9) (v := ?_) rfl (by kernel_rfl) (by kernel_rfl) (by kernel_rfl) (fun _ _ _ h => h) (Or.inl ⟨by rfl, ?_⟩) hSS ?_
          rotate_left
          · intro wz hSz
            go_simp
            try with_reducible rfl
          simp only [List.getElem_toArray, List.getElem_cons_zero, List.getElem_cons_succ, Act.put, List.setIfInBounds_toArray, List.set_cons_zero, List.set_cons_succ]
          refine wpAnyH_take (i := 10) (v := ?_) rfl (by kernel_rfl) (by kernel_rfl) (by kernel_rfl) (fun _ _ _ h => h) (Or.inl ⟨by rfl, ?_⟩) hSS ?_
          rotate_left
          · intro wz hSz
            obtain ⟨p1, p2⟩ := HC.out _ hSz
            go_simp
            try with_reducible rfl
          simp only [List.getElem_toArray, List.getElem_cons_zero, List.getElem_cons_succ, Act.put, List.setIfInBounds_toArray, List.set_cons_zero, List.set_cons_succ]
          refine wpAnyH_take (i := 11) (v := ?_) rfl (by kernel_rfl) (by kernel_rfl) (by kernel_rfl) (fun _ _ _ h => h) (Or.inl ⟨by rfl, ?_⟩) hSS ?_
          rotate_left
          · intro wz hSz
            go_simp
            try with_reducible rfl
          simp only [List.getElem_toArray, List.getElem_cons_zero, List.getElem_cons_succ, Act.put, List.setIfInBounds_toArray, List.set_cons_zero, List.set_cons_succ]
          refine wpAnyH_ready (rs := [12]) (by kernel_rfl) (by simp) (AllReadyH.cons rfl (fun K1 hK1 => ?_) AllReadyH.nil)
          refine step_plain (by rfl) ?_
          simp only [List.getElem_toArray, List.getElem_cons_zero, List.getElem_cons_succ]
          go_simp
          have hbn : Below V0.heap.size V0 (V0.alloc (.cells #[.string s.key, .int .i64 s.at_] 43)) := (Below.refl _ _).alloc (Nat.le_refl _) _
          have hH := heap_alloc_new V0 (.cells #[.string s.key, .int .i64 s.at_] 43)
          have hTO := HT0.out.below hbn
          have hb6 := hSS.trans (hbn.mono hSS.size)
          refine hK1.out _ _ hb6 (fun hSS => ?_)
          clear hK1 hSS hbn hb5 HT0
          generalize V0.alloc (.cells #[.string s.key, .int .i64 s.at_] 43) = W1 at *
          generalize V0.heap.size = B1 at *
          obtain ⟨sv2, W2, hrun, hT2, hg2⟩ := append_step hTO HTK.out.2.1 hH hb6.size (by have := HTK.out.2.2.2; simp; omega) _
          have hb7 : Below w4.heap.size W1 W2 := (Below.refl _ _).grown hg2 hb6.size (fun j hj => (hTO.own j hj).1)
          have hSX : Below w4.heap.size w4 W2 := hb6.trans hb7
          refine wpAnyH_ready (rs := [13]) (by kernel_rfl) (by simp) (AllReadyH.cons rfl (fun K2 hK2 => ?_) AllReadyH.nil)
          refine step_append_any (by rfl) _ _ _ (by rfl) _ _ (by rfl) (by rfl) hrun ?_
          refine hK2.out _ _ hSX (fun hSS => ?_)
          have HT9 : Hid (TOwn W2 w4.heap.size sv2 (l.take (k + 1))) := by
            have := HTK.out.2.2.1
            rw [this]
            exact hT2
          clear hK2 hrun hg2 hT2 hb7 hTO hH hb6 HTK
          refine wpAnyH_take (i := 14) (v := ?_) rfl (by kernel_rfl) (by kernel_rfl) (by kernel_rfl) (fun _ _ _ h => h) (Or.inl ⟨by rfl, ?_⟩) hSS ?_
          rotate_left
          · intro wz hSz
            go_simp
            try with_reducible rfl
          simp only [List.getElem_toArray, List.getElem_cons_zero, List.getElem_cons_succ, Act.put, List.setIfInBounds_toArray, List.set_cons_zero, List.set_cons_succ]
          refine wpAnyH_done (by kernel_rfl) ?_ _
          go_wp2_with fail
          go_roundw
          case measure => simp [intOf]; omega
          case rel => exact ⟨k + 1, sv2, by omega, rfl, by simp, HT9, hSX⟩
        · obtain rfl : k = l.length := by omega
          have hT := HT.out
          rw [List.take_length] at hT
          obtain ⟨sa, sc, rfl, hst, hso⟩ := hT.row
          replace hA := (hb5.block _ lA).trans hA
          replace hB := (hb5.block _ lB).trans hB
          replace hX := hX.stays hb5
          replace hY := hY.stays hb5
          have hw := hb4.trans (hb5.mono hb4.size)
          have HST : Hid (StRow wr sa l ∧ SliceOk sa l.length sc) := ⟨hst, hso⟩
          clear HT hT hst hso hb4 hb5 lA lB HSL HOK HLN
          obtain ⟨k0, k1, k2, k3, k4, k5, k6⟩ := box_cells hA
          go_wp2_with fail
          refine (T1.out _ xp _ hX).mono ?_
          rintro e w10 ⟨a, rfl, ha1, ra, hb10⟩
          have st10 := store_new 30 a .nilIface ha1 w10
          have hbn : Below wr.heap.size wr (w10.alloc (.cells #[a] 30)) := hb10.alloc hb10.size _
          replace hA := (hbn.block _ (Array.getElem?_eq_some_iff.1 hA).1).trans hA
          replace hB := (hbn.block _ (Array.getElem?_eq_some_iff.1 hB).1).trans hB
          replace hX := hX.stays hbn
          replace hY := hY.stays hbn
          replace HST : Hid (StRow _ sa l ∧ SliceOk sa l.length sc) := ⟨HST.out.1.below hbn, HST.out.2⟩
          replace hw := hw.trans (hbn.mono hw.size)
          have hD := heap_alloc_new w10 (.cells #[a] 30)
          have rA : Rep (w10.alloc (.cells #[a] 30)) (fun _ => True) a x := (ra.stays ((Below.refl _ _).alloc (Nat.le_refl _) _)).mono (fun _ _ _ => trivial)
          have cD := cell_of_row _ _ 0 _ _ _ hD
          clear k0 k1 k2 k3 k4 k5 k6 hb10 hbn ra T1 ha1
          go_wp2_with fail
          refine (CGL.out _ a hw rA).mono ?_
          rintro e w11 ⟨g, rfl, hg1, rG, hb11⟩
          replace hA := (hb11.block _ (Array.getElem?_eq_some_iff.1 hA).1).trans hA
          replace hB := (hb11.block _ (Array.getElem?_eq_some_iff.1 hB).1).trans hB
          replace hD := (hb11.block _ (Array.getElem?_eq_some_iff.1 hD).1).trans hD
          replace hX := hX.stays hb11
          replace hY := hY.stays hb11
          replace rA := rA.stays hb11
          replace HST : Hid (StRow _ sa l ∧ SliceOk sa l.length sc) := ⟨HST.out.1.below hb11, HST.out.2⟩
          replace hw := hw.trans (hb11.mono hw.size)
          clear st10 cD hb11 CGL
          generalize w10.heap.size = D at *
          have st11 := store_new 30 g .nilIface hg1 w11
          have hbn : Below w11.heap.size w11 (w11.alloc (.cells #[g] 30)) := (Below.refl _ _).alloc (Nat.le_refl _) _
          replace hA := (hbn.block _ (Array.getElem?_eq_some_iff.1 hA).1).trans hA
          replace hB := (hbn.block _ (Array.getElem?_eq_some_iff.1 hB).1).trans hB
          replace hD := (hbn.block _ (Array.getElem?_eq_some_iff.1 hD).1).trans hD
          replace hX := hX.stays hbn
          replace hY := hY.stays hbn
          replace rA := rA.stays hbn
          replace rG := rG.stays hbn
          replace HST : Hid (StRow _ sa l ∧ SliceOk sa l.length sc) := ⟨HST.out.1.below hbn, HST.out.2⟩
          replace hw := hw.trans (hbn.mono hw.size)
          have hE := heap_alloc_new w11 (.cells #[g] 30)
          clear hbn hg1
          go_wp2_with fail
          clear st11
          generalize (w11.alloc (.cells #[g] 30)) = W11 at *
          generalize w11.heap.size = E at *
          go_cut [14, 15] from 70 to 77 (fun s14 s15 wx => ∃ (F : Nat) (h : Value), s14 = .pointer (some ⟨F, 0, none⟩) ∧ s15 = .int .i64 er ∧ wx.heap[F]? = some (.cells #[h] 30) ∧ Rep wx (fun _ => True) h z ∧ Below W11.heap.size W11 wx)
          case first =>
            have lD := (Array.getElem?_eq_some_iff.1 hD).1
            have lB := (Array.getElem?_eq_some_iff.1 hB).1
            have HF : Hid (∀ W, Below W11.heap.size W11 W → W.cell? ⟨D, 0, none⟩ = some a ∧ W.cell? ⟨B, 0, none⟩ = some (.int .i64 y.k) ∧ W.cell? ⟨B, 1, none⟩ = some (.bool y.b) ∧ W.cell? ⟨B, 2, none⟩ = some (.int .i64 y.n) ∧ W.cell? ⟨B, 3, none⟩ = some (.int .i64 y.m) ∧ W.cell? ⟨B, 4, none⟩ = some (.string y.s) ∧ W.cell? ⟨B, 5, none⟩ = some (.slice yp.la y.l.length yp.lc) ∧ W.cell? ⟨B, 6, none⟩ = some (.slice yp.ka y.keys.length yp.kc)) := fun W hW => ⟨cell_of_row _ _ _ _ _ _ ((hW.block _ lD).trans hD), box_cells ((hW.block _ lB).trans hB)⟩
            clear hA hB hD hE lD lB RG RW UG UW UX HST rG hX
            refine wp_region_held_drew (S := fun W => Below W11.heap.size W11 W) (by kernel_rfl) (Below.refl _ _).drew (fun hSS => ?_)
            refine wpAnyH_take (i := 0) (v := ?_) rfl (by kernel_rfl) (by kernel_rfl) (by kernel_rfl) (fun _ _ _ h => h) (Or.inl ⟨by rfl, ?_⟩) hSS ?_
            rotate_left
            · intro wz hSz
              obtain ⟨p0, l0, l1, l2, l3, l4, l5, l6⟩ := HF.out _ hSz
              go_simp
              try with_reducible rfl
            simp only [List.getElem_toArray, List.getElem_cons_zero, Act.put, List.setIfInBounds_toArray, List.set_cons_zero, List.set_cons_succ]
            refine wpAnyH_take (i := 1) (v := ?_) rfl (by kernel_rfl) (by kernel_rfl) (by kernel_rfl) (fun _ _ _ h => h) (Or.inl ⟨by rfl, ?_⟩) hSS ?_
            rotate_left
            · intro wz hSz
              obtain ⟨p0, l0, l1, l2, l3, l4, l5, l6⟩ := HF.out _ hSz
              go_simp
              try with_reducible rfl
            simp only [List.getElem_toArray, List.getElem_cons_zero, List.getElem_cons_succ, Act.put, List.setIfInBounds_toArray, List.set_cons_zero, List.set_cons_succ]
            refine wpAnyH_take (i := 3) (v := ?_) rfl (by kernel_rfl) (by kernel_rfl) (by kernel_rfl) (fun _ _ _ h => h) (Or.inl ⟨by rfl, ?_⟩) hSS ?_
            rotate_left
            · intro wz hSz
              go_simp
              try with_reducible rfl
            simp only [List.getElem_toArray, List.getElem_cons_zero, List.getElem_cons_succ, Act.put, List.setIfInBounds_toArray, List.set_cons_zero, List.set_cons_succ]
            generalize W11.drew = V0 at *
            have hz0 := hSS.size
            clear HF
            replace rA := rA.stays hSS
            replace hY := hY.stays hSS
            replace hw := hw.trans (hSS.mono hw.size)
            refine wpAnyH_ready (rs := [2, 8]) (by kernel_rfl) (by simp) (AllReadyH.cons rfl (fun K1 hK1 => ?_) (AllReadyH.cons rfl (fun K1 hK1 => ?_) AllReadyH.nil))
            · refine step_plain (by rfl) ?_
              simp only [List.getElem_toArray, List.getElem_cons_zero, List.getElem_cons_succ]
              go_simp
              go_at_call 11
              refine (T2.out _ yp _ hY).mono ?_
              rintro e W1 ⟨b, rfl, hb1, rb, hbn⟩
              replace rb := rb.mono (ok' := fun c => V0.heap.size ≤ c ∧ c < W1.heap.size) (fun _ h1 h2 => ⟨h1, h2⟩)
              clear hY
              replace rA := rA.stays hbn
              replace hw := hw.trans (hbn.mono hw.size)
              have hz1 := hbn.size
              go_simp
              refine hK1.out _ _ (hSS.trans (hbn.mono hSS.size)) (fun hSS => ?_)
              clear hbn hK1
              refine wpAnyH_ready (rs := [4, 8]) (by kernel_rfl) (by simp) (AllReadyH.cons rfl (fun K2 hK2 => ?_) (AllReadyH.cons rfl (fun K2 hK2 => ?_) AllReadyH.nil))
              · refine step_plain (by rfl) ?_
                simp only [List.getElem_toArray, List.getElem_cons_zero, List.getElem_cons_succ]
                go_simp
                go_at_call 24
                refine (CWI.out _ (fun _ => True) a b (fun _ _ => trivial) hw rA (rb.mono (fun _ _ _ => trivial))).mono ?_
                rintro e W2 ⟨h, rfl, hh1, rh, hbn⟩
                clear rA rb hw
                replace rh := rh.mono (ok' := fun c => c < W2.heap.size) (fun _ _ h2 => h2)
                have hz2 := hbn.size
                go_simp
                refine hK2.out _ _ (hSS.trans (hbn.mono hSS.size)) (fun hSS => ?_)
                clear hbn hK2
                refine wpAnyH_take (i := 5) (v := ?_) rfl (by kernel_rfl) (by kernel_rfl) (by kernel_rfl) (fun _ _ _ h => h) (Or.inl ⟨by rfl, ?_⟩) hSS ?_
                rotate_left
                · intro wz hSz
                  go_simp
                  try with_reducible rfl
                simp only [List.getElem_toArray, List.getElem_cons_zero, List.getElem_cons_succ, Act.put, List.setIfInBounds_toArray, List.set_cons_zero, List.set_cons_succ]
                refine wpAnyH_take (i := 6) (v := ?_) rfl (by kernel_rfl) (by kernel_rfl) (by kernel_rfl) (fun _ _ _ h => h) (Or.inl ⟨by rfl, ?_⟩) hSS ?_
                rotate_left
                · intro wz hSz
                  go_simp
                  try with_reducible rfl
                simp only [List.getElem_toArray, List.getElem_cons_zero, List.getElem_cons_succ, Act.put, List.setIfInBounds_toArray, List.set_cons_zero, List.set_cons_succ]
                refine wpAnyH_take (i := 7) (v := ?_) rfl (by kernel_rfl) (by kernel_rfl) (by kernel_rfl) (fun _ _ _ h => h) (Or.inl ⟨by rfl, ?_⟩) hSS ?_
                rotate_left
                · intro wz hSz
                  go_simp
                  try with_reducible rfl
                simp only [List.getElem_toArray, List.getElem_cons_zero, List.getElem_cons_succ, Act.put, List.setIfInBounds_toArray, List.set_cons_zero, List.set_cons_succ]
                refine wpAnyH_ready (rs := [8]) (by kernel_rfl) (by simp) (AllReadyH.cons rfl (fun K3 hK3 => ?_) AllReadyH.nil)
                refine step_plain (by rfl) ?_
                simp only [List.getElem_toArray, List.getElem_cons_zero, List.getElem_cons_succ]
                go_simp
                have hbn : Below W2.heap.size W2 (W2.alloc (.cells #[.nilIface] 30)) := (Below.refl _ _).alloc (Nat.le_refl _) _
                have hFN := heap_alloc_new W2 (.cells #[.nilIface] 30)
                have hz3 : W2.heap.size < (W2.alloc (.cells #[.nilIface] 30)).heap.size := by simp
                replace rh := rh.stays hbn
                refine hK3.out _ _ (hSS.trans (hbn.mono hSS.size)) (fun hSS => ?_)
                clear hbn hK3
                generalize W2.alloc (.cells #[.nilIface] 30) = W3 at *
                generalize hFB : W2.heap.size = FB at *
                have hSF : Below W11.heap.size W11 (World.setCell W3 ⟨FB, 0, none⟩ h) := hSS.setCell (p := ⟨FB, 0, none⟩) (show _ ≤ FB by omega) h
                have hFF := heap_setCell_same W3 FB 0 _ _ h hFN
                have rhF := rh.set1 (B := FB) (fun c hc => by omega) h
                refine wpAnyH_ready (rs := [9]) (by kernel_rfl) (by simp) (AllReadyH.cons rfl (fun K4 hK4 => ?_) AllReadyH.nil)
                refine step_set1 (by rfl) _ _ (by rfl) (by rfl) (B := FB) (u := h) (by rfl) (by rfl) hh1 hFN ?_
                refine hK4.out _ _ hSF (fun hSS => ?_)
                clear hSF hK4 hFN rh
                generalize World.setCell W3 ⟨FB, 0, none⟩ h = WZ at *
                refine wpAnyH_take (i := 10) (v := ?_) rfl (by kernel_rfl) (by kernel_rfl) (by kernel_rfl) (fun _ _ _ h => h) (Or.inl ⟨by rfl, ?_⟩) hSS ?_
                rotate_left
                · intro wz hSz
                  go_simp
                  try with_reducible rfl
                simp only [List.getElem_toArray, List.getElem_cons_zero, List.getElem_cons_succ, Act.put, List.setIfInBounds_toArray, List.set_cons_zero, List.set_cons_succ]
                refine wpAnyH_done (by kernel_rfl) ?_ _
                go_wp2_with fail
                go_meet
                exact ⟨FB, h, rfl, rfl, hFF, rhF.mono (fun _ _ _ => trivial), hSS⟩
              · refine step_plain (by rfl) ?_
                simp only [List.getElem_toArray, List.getElem_cons_zero, List.getElem_cons_succ]
                go_simp
                have hbn : Below W1.heap.size W1 (W1.alloc (.cells #[.nilIface] 30)) := (Below.refl _ _).alloc (Nat.le_refl _) _
                have hFN := heap_alloc_new W1 (.cells #[.nilIface] 30)
                have hz2 : W1.heap.size < (W1.alloc (.cells #[.nilIface] 30)).heap.size := by simp
                replace rA := (rA.mono (ok' := fun c => c < W1.heap.size) (fun _ _ h2 => h2)).stays hbn
                replace hw := hw.trans (hbn.mono hw.size)
                replace rb := rb.stays hbn
                refine hK2.out _ _ (hSS.trans (hbn.mono hSS.size)) (fun hSS => ?_)
                clear hbn hK2
                generalize W1.alloc (.cells #[.nilIface] 30) = W2 at *
                generalize hFB : W1.heap.size = FB at *
                refine wpAnyH_ready (rs := [4]) (by kernel_rfl) (by simp) (AllReadyH.cons rfl (fun K3 hK3 => ?_) AllReadyH.nil)
                refine step_plain (by rfl) ?_
                simp only [List.getElem_toArray, List.getElem_cons_zero, List.getElem_cons_succ]
                go_simp
                go_at_call 24
                refine (CWI.out _ (fun c => c ≠ FB) a b (fun c hc => by omega) hw (rA.mono (fun c h1 _ => by omega)) (rb.mono (fun c h1 _ => by omega))).mono ?_
                rintro e W3 ⟨h, rfl, hh1, rh, hbn⟩
                clear rA rb hw
                have hz3 := hbn.size
                replace hFN := (hbn.block _ (Array.getElem?_eq_some_iff.1 hFN).1).trans hFN
                go_simp
                refine hK3.out _ _ (hSS.trans (hbn.mono hSS.size)) (fun hSS => ?_)
                clear hbn hK3
                refine wpAnyH_take (i := 5) (v := ?_) rfl (by kernel_rfl) (by kernel_rfl) (by kernel_rfl) (fun _ _ _ h => h) (Or.inl ⟨by rfl, ?_⟩) hSS ?_
                rotate_left
                · intro wz hSz
                  go_simp
                  try with_reducible rfl
                simp only [List.getElem_toArray, List.getElem_cons_zero, List.getElem_cons_succ, Act.put, List.setIfInBounds_toArray, List.set_cons_zero, List.set_cons_succ]
                refine wpAnyH_take (i := 6) (v := ?_) rfl (by kernel_rfl) (by kernel_rfl) (by kernel_rfl) (fun _ _ _ h => h) (Or.inl ⟨by rfl, ?_⟩) hSS ?_
                rotate_left
                · intro wz hSz
                  go_simp
                  try with_reducible rfl
                simp only [List.getElem_toArray, List.getElem_cons_zero, List.getElem_cons_succ, Act.put, List.setIfInBounds_toArray, List.set_cons_zero, List.set_cons_succ]
                refine wpAnyH_take (i := 7) (v := ?_) rfl (by kernel_rfl) (by kernel_rfl) (by kernel_rfl) (fun _ _ _ h => h) (Or.inl ⟨by rfl, ?_⟩) hSS ?_
                rotate_left
                · intro wz hSz
                  go_simp
                  try with_reducible rfl
                simp only [List.getElem_toArray, List.getElem_cons_zero, List.getElem_cons_succ, Act.put, List.setIfInBounds_toArray, List.set_cons_zero, List.set_cons_succ]
                have hSF : Below W11.heap.size W11 (World.setCell W3 ⟨FB, 0, none⟩ h) := hSS.setCell (p := ⟨FB, 0, none⟩) (show _ ≤ FB by omega) h
                have hFF := heap_setCell_same W3 FB 0 _ _ h hFN
                have rhF := rh.set1 (B := FB) (fun c hc => by omega) h
                refine wpAnyH_ready (rs := [9]) (by kernel_rfl) (by simp) (AllReadyH.cons rfl (fun K4 hK4 => ?_) AllReadyH.nil)
                refine step_set1 (by rfl) _ _ (by rfl) (by rfl) (B := FB) (u := h) (by rfl) (by rfl) hh1 hFN ?_
                refine hK4.out _ _ hSF (fun hSS => ?_)
                clear hSF hK4 hFN rh
                generalize World.setCell W3 ⟨FB, 0, none⟩ h = WZ at *
                refine wpAnyH_take (i := 10) (v := ?_) rfl (by kernel_rfl) (by kernel_rfl) (by kernel_rfl) (fun _ _ _ h => h) (Or.inl ⟨by rfl, ?_⟩) hSS ?_
                rotate_left
                · intro wz hSz
                  go_simp
                  try with_reducible rfl
                simp only [List.getElem_toArray, List.getElem_cons_zero, List.getElem_cons_succ, Act.put, List.setIfInBounds_toArray, List.set_cons_zero, List.set_cons_succ]
                refine wpAnyH_done (by kernel_rfl) ?_ _
                go_wp2_with fail
                go_meet
                exact ⟨FB, h, rfl, rfl, hFF, rhF.mono (fun _ _ _ => trivial), hSS⟩
            · refine step_plain (by rfl) ?_
              simp only [List.getElem_toArray, List.getElem_cons_zero, List.getElem_cons_succ]
              go_simp
              have hbn : Below V0.heap.size V0 (V0.alloc (.cells #[.nilIface] 30)) := (Below.refl _ _).alloc (Nat.le_refl _) _
              have hFN := heap_alloc_new V0 (.cells #[.nilIface] 30)
              have hz1 : V0.heap.size < (V0.alloc (.cells #[.nilIface] 30)).heap.size := by simp
              replace hY := hY.stays hbn
              replace rA := (rA.mono (ok' := fun c => c < V0.heap.size) (fun _ _ h2 => h2)).stays hbn
              replace hw := hw.trans (hbn.mono hw.size)
              refine hK1.out _ _ (hSS.trans (hbn.mono hSS.size)) (fun hSS => ?_)
              clear hbn hK1
              generalize V0.alloc (.cells #[.nilIface] 30) = W1 at *
              generalize hFB : V0.heap.size = FB at *
              refine wpAnyH_ready (rs := [2]) (by kernel_rfl) (by simp) (AllReadyH.cons rfl (fun K2 hK2 => ?_) AllReadyH.nil)
              refine step_plain (by rfl) ?_
              simp only [List.getElem_toArray, List.getElem_cons_zero, List.getElem_cons_succ]
              go_simp
              go_at_call 11
              refine (T2.out _ yp _ hY).mono ?_
              rintro e W2 ⟨b, rfl, hb1, rb, hbn⟩
              replace rb := rb.mono (ok' := fun c => W1.heap.size ≤ c ∧ c < W2.heap.size) (fun _ h1 h2 => ⟨h1, h2⟩)
              clear hY
              replace rA := rA.stays hbn
              replace hw := hw.trans (hbn.mono hw.size)
              have hz2 := hbn.size
              replace hFN := (hbn.block _ (Array.getElem?_eq_some_iff.1 hFN).1).trans hFN
              go_simp
              refine hK2.out _ _ (hSS.trans (hbn.mono hSS.size)) (fun hSS => ?_)
              clear hbn hK2
              refine wpAnyH_ready (rs := [4]) (by kernel_rfl) (by simp) (AllReadyH.cons rfl (fun K3 hK3 => ?_) AllReadyH.nil)
              refine step_plain (by rfl) ?_
              simp only [List.getElem_toArray, List.getElem_cons_zero, List.getElem_cons_succ]
              go_simp
              go_at_call 24
              refine (CWI.out _ (fun c => c ≠ FB) a b (fun c hc => by omega) hw (rA.mono (fun c h1 _ => by omega)) (rb.mono (fun c h1 _ => by omega))).mono ?_
              rintro e W3 ⟨h, rfl, hh1, rh, hbn⟩
              clear rA rb hw
              have hz3 := hbn.size
              replace hFN := (hbn.block _ (Array.getElem?_eq_some_iff.1 hFN).1).trans hFN
              go_simp
              refine hK3.out _ _ (hSS.trans (hbn.mono hSS.size)) (fun hSS => ?_)
              clear hbn hK3
              refine wpAnyH_take (i := 5) (v := ?_) rfl (by kernel_rfl) (by kernel_rfl) (by kernel_rfl) (fun _ _ _ h => h) (Or.inl ⟨by rfl, ?_⟩) hSS ?_
              rotate_left
              · intro wz hSz
                go_simp
                try with_reducible rfl
              simp only [List.getElem_toArray, List.getElem_cons_zero, List.getElem_cons_succ, Act.put, List.setIfInBounds_toArray, List.set_cons_zero, List.set_cons_succ]
              refine wpAnyH_take (i := 6) (v := ?_) rfl (by kernel_rfl) (by kernel_rfl) (by kernel_rfl) (fun _ _ _ h => h) (Or.inl ⟨by rfl, ?_⟩) hSS ?_
              rotate_left
              · intro wz hSz
                go_simp
                try with_reducible rfl
              simp only [List.getElem_toArray, List.getElem_cons_zero, List.getElem_cons_succ, Act.put, List.setIfInBounds_toArray, List.set_cons_zero, List.set_cons_succ]
              refine wpAnyH_take (i := 7) (v := ?_) rfl (by kernel_rfl) (by kernel_rfl) (by kernel_rfl) (fun _ _ _ h => h) (Or.inl ⟨by rfl, ?_⟩) hSS ?_
              rotate_left
              · intro wz hSz
                go_simp
                try with_reducible rfl
              simp only [List.getElem_toArray, List.getElem_cons_zero, List.getElem_cons_succ, Act.put, List.setIfInBounds_toArray, List.set_cons_zero, List.set_cons_succ]
              have hSF : Below W11.heap.size W11 (World.setCell W3 ⟨FB, 0, none⟩ h) := hSS.setCell (p := ⟨FB, 0, none⟩) (show _ ≤ FB by omega) h
              have hFF := heap_setCell_same W3 FB 0 _ _ h hFN
              have rhF := rh.set1 (B := FB) (fun c hc => by omega) h
              refine wpAnyH_ready (rs := [9]) (by kernel_rfl) (by simp) (AllReadyH.cons rfl (fun K4 hK4 => ?_) AllReadyH.nil)
              refine step_set1 (by rfl) _ _ (by rfl) (by rfl) (B := FB) (u := h) (by rfl) (by rfl) hh1 hFN ?_
              refine hK4.out _ _ hSF (fun hSS => ?_)
              clear hSF hK4 hFN rh
              generalize World.setCell W3 ⟨FB, 0, none⟩ h = WZ at *
              refine wpAnyH_take (i := 10) (v := ?_) rfl (by kernel_rfl) (by kernel_rfl) (by kernel_rfl) (fun _ _ _ h => h) (Or.inl ⟨by rfl, ?_⟩) hSS ?_
              rotate_left
              · intro wz hSz
                go_simp
                try with_reducible rfl
              simp only [List.getElem_toArray, List.getElem_cons_zero, List.getElem_cons_succ, Act.put, List.setIfInBounds_toArray, List.set_cons_zero, List.set_cons_succ]
              refine wpAnyH_done (by kernel_rfl) ?_ _
              go_wp2_with fail
              go_meet
              exact ⟨FB, h, rfl, rfl, hFF, rhF.mono (fun _ _ _ => trivial), hSS⟩
          case rest =>
            obtain ⟨F, h, rfl, rfl, hF, rH, hb12⟩ := hcut
            replace hA := (hb12.block _ (Array.getElem?_eq_some_iff.1 hA).1).trans hA
            replace hB := (hb12.block _ (Array.getElem?_eq_some_iff.1 hB).1).trans hB
            replace hD := (hb12.block _ (Array.getElem?_eq_some_iff.1 hD).1).trans hD
            replace hE := (hb12.block _ (Array.getElem?_eq_some_iff.1 hE).1).trans hE
            replace hX := hX.stays hb12
            replace hY := hY.stays hb12
            replace rA := rA.stays hb12
            replace rG := rG.stays hb12
            replace HST : Hid (StRow _ sa l ∧ SliceOk sa l.length sc) := ⟨HST.out.1.below hb12, HST.out.2⟩
            replace hw := hw.trans (hb12.mono hw.size)
            clear hb12 T2 CWI
            obtain ⟨k0, k1, k2, k3, k4, k5, k6⟩ := box_cells hA
            go_wp2_with fail
            refine (RG.out _ xp sa sc hX HST.out.1).mono ?_
            rintro e w13 ⟨cp, rfl, hC, hb13⟩
            have hbn : Below wc.heap.size wc (w13.alloc (.cells #[.int .i64 c.k, .bool c.b, .int .i64 c.n, .int .i64 c.m, .string c.s, .slice cp.la c.l.length cp.lc, .slice cp.ka c.keys.length cp.kc] 25)) := hb13.alloc hb13.size _
            have hbm : Below w13.heap.size w13 (w13.alloc (.cells #[.int .i64 c.k, .bool c.b, .int .i64 c.n, .int .i64 c.m, .string c.s, .slice cp.la c.l.length cp.lc, .slice cp.ka c.keys.length cp.kc] 25)) := (Below.refl _ _).alloc (Nat.le_refl _) _
            have hG := heap_alloc_new w13 (.cells #[.int .i64 c.k, .bool c.b, .int .i64 c.n, .int .i64 c.m, .string c.s, .slice cp.la c.l.length cp.lc, .slice cp.ka c.keys.length cp.kc] 25)
            replace hC := hC.stays hbm
            replace hA := (hbn.block _ (Array.getElem?_eq_some_iff.1 hA).1).trans hA
            replace hB := (hbn.block _ (Array.getElem?_eq_some_iff.1 hB).1).trans hB
            replace hD := (hbn.block _ (Array.getElem?_eq_some_iff.1 hD).1).trans hD
            replace hE := (hbn.block _ (Array.getElem?_eq_some_iff.1 hE).1).trans hE
            replace hF := (hbn.block _ (Array.getElem?_eq_some_iff.1 hF).1).trans hF
            replace hX := hX.stays hbn
            replace hY := hY.stays hbn
            replace rA := rA.stays hbn
            replace rG := rG.stays hbn
            replace rH := rH.stays hbn
            replace HST : Hid (StRow _ sa l ∧ SliceOk sa l.length sc) := ⟨HST.out.1.below hbn, HST.out.2⟩
            replace hw := hw.trans (hbn.mono hw.size)
            clear k0 k1 k2 k3 k4 k5 k6 hb13 hbn hbm RG
            obtain ⟨k0, k1, k2, k3, k4, k5, k6⟩ := box_cells hA
            obtain ⟨l0, l1, l2, l3, l4, l5, l6⟩ := box_cells hB
            go_wp2_with fail
            refine (RW.out _ xp yp sa sc hX hY HST.out.1 HST.out.2).mono ?_
            rintro e w14 ⟨dp, rfl, hZ, hb14⟩
            have hbm : Below w14.heap.size w14 (w14.alloc (.cells #[.int .i64 z.k, .bool z.b, .int .i64 z.n, .int .i64 z.m, .string z.s, .slice dp.la z.l.length dp.lc, .slice dp.ka z.keys.length dp.kc] 25)) := (Below.refl _ _).alloc (Nat.le_refl _) _
            have hbn := hb14.trans (hbm.mono hb14.size)
            replace hA := (hbn.block _ (Array.getElem?_eq_some_iff.1 hA).1).trans hA
            replace hB := (hbn.block _ (Array.getElem?_eq_some_iff.1 hB).1).trans hB
            replace hD := (hbn.block _ (Array.getElem?_eq_some_iff.1 hD).1).trans hD
            replace hE := (hbn.block _ (Array.getElem?_eq_some_iff.1 hE).1).trans hE
            replace hF := (hbn.block _ (Array.getElem?_eq_some_iff.1 hF).1).trans hF
            replace hG := (hbn.block _ (Array.getElem?_eq_some_iff.1 hG).1).trans hG
            replace hX := hX.stays hbn
            replace hY := hY.stays hbn
            replace rA := rA.stays hbn
            replace rG := rG.stays hbn
            replace rH := rH.stays hbn
            replace hC := hC.stays hbn
            replace HST : Hid (StRow _ sa l ∧ SliceOk sa l.length sc) := ⟨HST.out.1.below hbn, HST.out.2⟩
            replace hw := hw.trans (hbn.mono hw.size)
            have hH := heap_alloc_new w14 (.cells #[.int .i64 z.k, .bool z.b, .int .i64 z.n, .int .i64 z.m, .string z.s, .slice dp.la z.l.length dp.lc, .slice dp.ka z.keys.length dp.kc] 25)
            replace hZ := hZ.stays hbm
            clear k0 k1 k2 k3 k4 k5 k6 l0 l1 l2 l3 l4 l5 l6 hb14 hbn hbm RW HST hB hY
            generalize w13.heap.size = GB at *
            have cE := cell_of_row _ _ 0 _ _ _ hE
            obtain ⟨k0, k1, k2, k3, k4, k5, k6⟩ := box_cells hG
            go_wp2_with fail
            refine (UG.out _ g cp rG hC).mono ?_
            rintro e w15 ⟨rfl, hb15⟩
            replace hA := (hb15.block _ (Array.getElem?_eq_some_iff.1 hA).1).trans hA
            replace hD := (hb15.block _ (Array.getElem?_eq_some_iff.1 hD).1).trans hD
            replace hF := (hb15.block _ (Array.getElem?_eq_some_iff.1 hF).1).trans hF
            replace hH := (hb15.block _ (Array.getElem?_eq_some_iff.1 hH).1).trans hH
            replace hX := hX.stays hb15
            replace rA := rA.stays hb15
            replace rH := rH.stays hb15
            replace hZ := hZ.stays hb15
            replace hw := hw.trans (hb15.mono hw.size)
            clear k0 k1 k2 k3 k4 k5 k6 cE hb15 UG hE hG rG hC
            generalize w14.heap.size = HB at *
            have cF := cell_of_row _ _ 0 _ _ _ hF
            obtain ⟨k0, k1, k2, k3, k4, k5, k6⟩ := box_cells hH
            go_wp2_with fail
            refine (UW.out _ h dp rH hZ).mono ?_
            rintro e w16 ⟨rfl, hb16⟩
            replace hA := (hb16.block _ (Array.getElem?_eq_some_iff.1 hA).1).trans hA
            replace hD := (hb16.block _ (Array.getElem?_eq_some_iff.1 hD).1).trans hD
            replace hX := hX.stays hb16
            replace rA := rA.stays hb16
            replace hw := hw.trans (hb16.mono hw.size)
            clear k0 k1 k2 k3 k4 k5 k6 cF hb16 UW hF hH rH hZ
            have cD := cell_of_row _ _ 0 _ _ _ hD
            obtain ⟨k0, k1, k2, k3, k4, k5, k6⟩ := box_cells hA
            go_wp2_with fail
            refine (UX.out _ a xp rA hX).mono ?_
            rintro e w17 ⟨rfl, hb17⟩
            go_wp2_with fail
            go_ret
            exact ⟨rfl, hw.trans (hb17.mono hw.size)⟩

end Go.Proofs.Ytigdcnoggjcddaa

