/- PackApart, walked: of any two values it answers true. Condition: values of at most 1048576 values and letters together. -/
import Derived.Test.YtepohbcpepkboaaGreatVCleanB
import Derived.Test.YtepohbcpepkboaaGreatVClean
import Derived.Test.YtepohbcpepkboaaGreatVGreat
import Derived.Test.YtepohbcpepkboaaGreatVSame
import Derived.Test.YtepohbcpepkboaaGreatVTo
import Derived.Test.YtepohbcpepkboaaGreatVTwo
import Derived.Deep.CutRange
namespace Go.Proofs.YtepohbcpepkboaaGreat
open Go.RowKit Go.Maps Go.WideMaps

set_option maxRecDepth 100000 in
theorem Rep.nok {w : World} {ok : Nat → Prop} {h : Value} {v : V} (hr : Rep w ok h v) : v.nok := by
  induction hr using Rep.ind with
  | null => exact nok_leaf pk_i64_0 pk_i64_0
  | later => exact nok_leaf pk_i64_0 pk_i64_0
  | bool b => exact nok_leaf pk_i64_0 pk_i64_0
  | int n h => exact nok_leaf h pk_i64_0
  | point n m hn hm => exact nok_leaf (by unfold I64; omega) (by unfold I64; omega)
  | text s h => exact nok_leaf pk_i64_0 pk_i64_0
  | list B l a c H hB ha c0 c1 c2 c3 c4 hr0 hin ih =>
    simp only [V.nok, nok_go]
    refine ⟨⟨pk_i64_0, pk_i64_0⟩, fun x hx => ?_⟩
    obtain ⟨j, hj, rfl⟩ := List.getElem_of_mem hx
    exact ih j hj
  | map B M l q a c ka kc H hB hMo ha hka hq c0 c1 c2 c3 c4 c5 c6 hs hpl hr0 hin ih =>
    simp only [V.nok, nok_go]
    refine ⟨⟨pk_i64_0, pk_i64_0⟩, fun x hx => ?_⟩
    obtain ⟨j, hj, rfl⟩ := List.getElem_of_mem hx
    exact ih j hj
set_option maxRecDepth 100000 in
theorem enc_two {v : V} : v.enc.2 = 0 ∨ v.enc.2 = 3 := by
  unfold V.enc; split
  · exact Or.inl rfl
  · exact Or.inr rfl
set_option maxRecDepth 100000 in
theorem enc_parts {v : V} {zs : List Int} (h : v.enc = (zs, 0)) : v.packX = false ∧ v.packB = zs := by
  unfold V.enc at h
  split at h
  · rename_i h1
    injection h with h2 _
    exact ⟨h1.2.2, h2⟩
  · injection h with _ h2; simp at h2
set_option maxRecDepth 100000 in
theorem enc_inj {x y : V} {zs zs' : List Int} (hx : x.enc = (zs, 0)) (hy : y.enc = (zs', 0)) (cx : x.cl) (cy : y.cl) (nx : x.nok) (ny : y.nok) : zs = zs' ↔ x = y := by
  obtain ⟨x1, x2⟩ := enc_parts hx
  obtain ⟨y1, y2⟩ := enc_parts hy
  constructor
  · intro e
    have h1 := valF_pack (zs.length + 1) x cx nx x1 (by rw [x2]; omega)
    have h2 := valF_pack (zs.length + 1) y cy ny y1 (by rw [y2, e]; omega)
    rw [← h1, ← h2, x2, y2, e]
  · intro e
    subst e
    rw [← x2, ← y2]
set_option maxRecDepth 100000 in
set_option maxHeartbeats 25600000 in
theorem apart_law {w : World} {v u : V} {p q : VP} (hv : VIn w (fun _ => True) v p) (hu : VIn w (fun _ => True) u q) (hbk : v.bulk + u.bulk ≤ 1048576) :
    Calls Tryz.prog 6 #[v.val p, u.val q] w fun e w' => e = .returned (.bool true) ∧ Below w.heap.size w w' := by
  have hvb : v.bulk ≤ 1048576 := by omega
  have hub : u.bulk ≤ 1048576 := by omega
  have G1 : Hid (∀ W, Below w.heap.size w W → Calls Tryz.prog 7 #[v.val p] W fun e w' => (∃ g : Int, e = .returned (.int .i64 g)) ∧ Below W.heap.size W w') := fun W hW => great_v hv W hW hvb
  have G2 : Hid (∀ W, Below w.heap.size w W → Calls Tryz.prog 7 #[u.val q] W fun e w' => (∃ g : Int, e = .returned (.int .i64 g)) ∧ Below W.heap.size W w') := fun W hW => great_v hu W hW hub
  have CA : Hid (∀ W, Calls Tryz.prog 8 #[] W fun e w' => e = .returned (.bool true) ∧ Below W.heap.size W w') := awake6_any
  have C1 : Hid (∀ W, Below w.heap.size w W → Calls Tryz.prog 9 #[v.val p] W fun e w' => ∃ p', e = .returned (v.clean.val p') ∧ VIn w' (fun b => W.heap.size ≤ b) v.clean p' ∧ Below W.heap.size W w') := fun W hW => clean_any hv W hW hvb
  have C2 : Hid (∀ W, Below w.heap.size w W → Calls Tryz.prog 9 #[u.val q] W fun e w' => ∃ p', e = .returned (u.clean.val p') ∧ VIn w' (fun b => W.heap.size ≤ b) u.clean p' ∧ Below W.heap.size W w') := fun W hW => clean_any hu W hW hub
  have hx := clean_cl v
  have hy := clean_cl u
  have hxb : v.clean.bulk ≤ 1048576 := by have := clean_bulk v; omega
  have hyb : u.clean.bulk ≤ 1048576 := by have := clean_bulk u; omega
  have T1 : Hid (∀ W xp (ok : Nat → Prop), VIn W ok v.clean xp → Calls Tryz.prog 11 #[v.clean.val xp] W fun e w' => ∃ a, e = .returned (.agg #[a]) ∧ a.oneCell' = true ∧ Rep w' (fun b => W.heap.size ≤ b) a v.clean ∧ Below W.heap.size W w') := fun W xp ok h => by
    refine (to_any h W (Below.refl _ _) hxb hx).mono ?_
    rintro e w' ⟨a, rfl, h1, h2⟩
    exact ⟨a, rfl, h1.one, h1, h2⟩
  have T2 : Hid (∀ W xp (ok : Nat → Prop), VIn W ok u.clean xp → Calls Tryz.prog 11 #[u.clean.val xp] W fun e w' => ∃ a, e = .returned (.agg #[a]) ∧ a.oneCell' = true ∧ Rep w' (fun b => W.heap.size ≤ b) a u.clean ∧ Below W.heap.size W w') := fun W xp ok h => by
    refine (to_any h W (Below.refl _ _) hyb hy).mono ?_
    rintro e w' ⟨a, rfl, h1, h2⟩
    exact ⟨a, rfl, h1.one, h1, h2⟩
  have HCX := hide (And.intro hx (And.intro hy (And.intro hxb hyb)))
  have hB0 := BW.start w v p u q
  have HBC : Hid (∀ W, BW w W v p u q → (W.cell? ⟨w.heap.size, 0, none⟩ = some (.int .i64 v.k) ∧ W.cell? ⟨w.heap.size, 1, none⟩ = some (.bool v.b) ∧ W.cell? ⟨w.heap.size, 2, none⟩ = some (.int .i64 v.n) ∧ W.cell? ⟨w.heap.size, 3, none⟩ = some (.int .i64 v.m) ∧ W.cell? ⟨w.heap.size, 4, none⟩ = some (.string v.s) ∧ W.cell? ⟨w.heap.size, 5, none⟩ = some (.slice p.la v.l.length p.lc) ∧ W.cell? ⟨w.heap.size, 6, none⟩ = some (.slice p.ka v.keys.length p.kc)) ∧ (W.cell? ⟨w.heap.size + 1, 0, none⟩ = some (.int .i64 u.k) ∧ W.cell? ⟨w.heap.size + 1, 1, none⟩ = some (.bool u.b) ∧ W.cell? ⟨w.heap.size + 1, 2, none⟩ = some (.int .i64 u.n) ∧ W.cell? ⟨w.heap.size + 1, 3, none⟩ = some (.int .i64 u.m) ∧ W.cell? ⟨w.heap.size + 1, 4, none⟩ = some (.string u.s) ∧ W.cell? ⟨w.heap.size + 1, 5, none⟩ = some (.slice q.la u.l.length q.lc) ∧ W.cell? ⟨w.heap.size + 1, 6, none⟩ = some (.slice q.ka u.keys.length q.kc))) := fun W hB => ⟨box_cells hB.1, box_cells hB.2.1⟩
  clear hv hu hbk hvb hub hx hy hxb hyb
  generalize v.clean = x at *
  generalize u.clean = y at *
  unfold V.val at G1 G2 C1 C2 T1 T2 ⊢
  obtain ⟨⟨k0, k1, k2, k3, k4, k5, k6⟩, ⟨l0, l1, l2, l3, l4, l5, l6⟩⟩ := HBC.out _ hB0
  unfold V.box at hB0 k0 k1 k2 k3 k4 k5 k6 l0 l1 l2 l3 l4 l5 l6
  go_enter Tryz.func6, Tryz.ntmps6
  go_wp2_with fail
  refine (G1.out _ hB0.2.2).mono ?_
  rintro e w1 ⟨⟨g1, rfl⟩, hb1⟩
  have hB1 := BW.below hB0 hb1
  clear k0 k1 k2 k3 k4 k5 k6 l0 l1 l2 l3 l4 l5 l6 G1 hb1 hB0
  obtain ⟨⟨k0, k1, k2, k3, k4, k5, k6⟩, ⟨l0, l1, l2, l3, l4, l5, l6⟩⟩ := HBC.out _ hB1
  by_cases hg1 : 0 < g1
  · clear C1 C2 T1 T2 HCX HBC G2
    go_wp2_with fail
    refine (CA.out _).mono ?_
    rintro e w3 ⟨rfl, hb3⟩
    go_wp2_with fail
    go_ret
    exact ⟨rfl, (hB1.below hb3).2.2⟩
  · go_wp2_with fail
    refine (G2.out _ hB1.2.2).mono ?_
    rintro e w2 ⟨⟨g2, rfl⟩, hb2⟩
    have hB2 := BW.below hB1 hb2
    clear k0 k1 k2 k3 k4 k5 k6 l0 l1 l2 l3 l4 l5 l6 G2 hb2 hB1
    obtain ⟨⟨k0, k1, k2, k3, k4, k5, k6⟩, ⟨l0, l1, l2, l3, l4, l5, l6⟩⟩ := HBC.out _ hB2
    by_cases hg2 : 0 < g2
    · clear C1 C2 T1 T2 HCX HBC
      go_wp2_with fail
      refine (CA.out _).mono ?_
      rintro e w3 ⟨rfl, hb3⟩
      go_wp2_with fail
      go_ret
      exact ⟨rfl, (hB2.below hb3).2.2⟩
    go_wp2_with fail
    refine (CA.out _).mono ?_
    rintro e w3 ⟨rfl, hb3⟩
    have hB3 := BW.below hB2 hb3
    clear k0 k1 k2 k3 k4 k5 k6 l0 l1 l2 l3 l4 l5 l6 hb3 hB2 CA
    go_wp2_with fail
    go_cut [5, 6] from 24 to 29 (fun s5 s6 wx => TwoR w wx x y s5 s6)
    case first =>
      refine wp_region_held_drew (S := fun w' => BW w w' v p u q) (by kernel_rfl) hB3.drew (fun hSS => ?_)
      refine wpAnyH_take (i := 0) (v := ?_) rfl (by kernel_rfl) (by kernel_rfl) (by kernel_rfl) (fun _ _ _ h => h) (Or.inl ⟨by rfl, ?_⟩) hSS ?_
      rotate_left
      · intro wz hSz
        obtain ⟨⟨k0, k1, k2, k3, k4, k5, k6⟩, ⟨l0, l1, l2, l3, l4, l5, l6⟩⟩ := HBC.out _ hSz
        go_simp
        try with_reducible rfl
      simp only [List.getElem_toArray, List.getElem_cons_zero, Act.put, List.setIfInBounds_toArray, List.set_cons_zero, List.set_cons_succ]
      refine wpAnyH_take (i := 3) (v := ?_) rfl (by kernel_rfl) (by kernel_rfl) (by kernel_rfl) (fun _ _ _ h => h) (Or.inl ⟨by rfl, ?_⟩) hSS ?_
      rotate_left
      · intro wz hSz
        obtain ⟨⟨k0, k1, k2, k3, k4, k5, k6⟩, ⟨l0, l1, l2, l3, l4, l5, l6⟩⟩ := HBC.out _ hSz
        go_simp
        try with_reducible rfl
      simp only [List.getElem_toArray, List.getElem_cons_zero, List.getElem_cons_succ, Act.put, List.setIfInBounds_toArray, List.set_cons_zero, List.set_cons_succ]
      generalize w3.drew = W0 at *
      have hz0 := hSS.lt
      clear hB3 HBC HCX
      refine wpAnyH_ready (rs := [1, 6, 7]) (by kernel_rfl) (by simp) (AllReadyH.cons rfl (fun K1 hK1 => ?_) (AllReadyH.cons rfl (fun K1 hK1 => ?_) (AllReadyH.cons rfl (fun K1 hK1 => ?_) AllReadyH.nil)))
      · refine step_plain (by rfl) ?_
        simp only [List.getElem_toArray, List.getElem_cons_zero, List.getElem_cons_succ]
        go_simp
        go_at_call 9
        refine (C1.out _ hSS.2.2).mono ?_
        rintro e W1 ⟨xp, rfl, hX, hbn⟩
        have hz1 := hbn.size
        go_simp
        refine hK1.out _ _ (hSS.below hbn) (fun hSS => ?_)
        clear hbn hK1
        refine wpAnyH_ready (rs := [2, 6, 7]) (by kernel_rfl) (by simp) (AllReadyH.cons rfl (fun K2 hK2 => ?_) (AllReadyH.cons rfl (fun K2 hK2 => ?_) (AllReadyH.cons rfl (fun K2 hK2 => ?_) AllReadyH.nil)))
        · refine step_plain (by rfl) ?_
          simp only [List.getElem_toArray, List.getElem_cons_zero, List.getElem_cons_succ]
          go_simp
          go_at_call 11
          refine (T1.out _ _ _ hX).mono ?_
          rintro e W2 ⟨a, rfl, ha1, rX, hbn⟩
          replace hX := hX.stays hbn
          replace rX := rX.mono (ok' := fun b => W1.heap.size ≤ b ∧ b < W2.heap.size) (fun _ h1 h2 => ⟨h1, h2⟩)
          clear hX
          have hz2 := hbn.size
          go_simp
          refine hK2.out _ _ (hSS.below hbn) (fun hSS => ?_)
          clear hbn hK2
          refine wpAnyH_ready (rs := [4, 6, 7]) (by kernel_rfl) (by simp) (AllReadyH.cons rfl (fun K3 hK3 => ?_) (AllReadyH.cons rfl (fun K3 hK3 => ?_) (AllReadyH.cons rfl (fun K3 hK3 => ?_) AllReadyH.nil)))
          · refine step_plain (by rfl) ?_
            simp only [List.getElem_toArray, List.getElem_cons_zero, List.getElem_cons_succ]
            go_simp
            go_at_call 9
            refine (C2.out _ hSS.2.2).mono ?_
            rintro e W3 ⟨yp, rfl, hY, hbn⟩
            replace rX := rX.stays hbn
            have hz3 := hbn.size
            go_simp
            refine hK3.out _ _ (hSS.below hbn) (fun hSS => ?_)
            clear hbn hK3
            refine wpAnyH_ready (rs := [5, 6, 7]) (by kernel_rfl) (by simp) (AllReadyH.cons rfl (fun K4 hK4 => ?_) (AllReadyH.cons rfl (fun K4 hK4 => ?_) (AllReadyH.cons rfl (fun K4 hK4 => ?_) AllReadyH.nil)))
            · refine step_plain (by rfl) ?_
              simp only [List.getElem_toArray, List.getElem_cons_zero, List.getElem_cons_succ]
              go_simp
              go_at_call 11
              refine (T2.out _ _ _ hY).mono ?_
              rintro e W4 ⟨b, rfl, hb1, rY, hbn⟩
              replace rX := rX.stays hbn
              replace hY := hY.stays hbn
              replace rY := rY.mono (ok' := fun b => W3.heap.size ≤ b ∧ b < W4.heap.size) (fun _ h1 h2 => ⟨h1, h2⟩)
              clear hY
              have hz4 := hbn.size
              go_simp
              refine hK4.out _ _ (hSS.below hbn) (fun hSS => ?_)
              clear hbn hK4
              refine wpAnyH_ready (rs := [6, 7]) (by kernel_rfl) (by simp) (AllReadyH.cons rfl (fun K5 hK5 => ?_) (AllReadyH.cons rfl (fun K5 hK5 => ?_) AllReadyH.nil))
              · refine step_plain (by rfl) ?_
                simp only [List.getElem_toArray, List.getElem_cons_zero, List.getElem_cons_succ]
                go_simp
                have hbn : Below W4.heap.size W4 (W4.alloc (.cells #[.nilIface] 34)) := (Below.refl _ _).alloc (Nat.le_refl _) _
                have hA := heap_alloc_new W4 (.cells #[.nilIface] 34)
                replace rX := rX.stays hbn
                replace rY := rY.stays hbn
                have hz5 : W4.heap.size < (W4.alloc (.cells #[.nilIface] 34)).heap.size := by simp
                refine hK5.out _ _ (hSS.below hbn) (fun hSS => ?_)
                clear hbn hK5
                generalize W4.alloc (.cells #[.nilIface] 34) = W5 at *
                refine wpAnyH_ready (rs := [7]) (by kernel_rfl) (by simp) (AllReadyH.cons rfl (fun K6 hK6 => ?_) AllReadyH.nil)
                refine step_plain (by rfl) ?_
                simp only [List.getElem_toArray, List.getElem_cons_zero, List.getElem_cons_succ]
                go_simp
                have hbn : Below W5.heap.size W5 (W5.alloc (.cells #[.nilIface] 34)) := (Below.refl _ _).alloc (Nat.le_refl _) _
                have hB := heap_alloc_new W5 (.cells #[.nilIface] 34)
                replace rX := rX.stays hbn
                replace rY := rY.stays hbn
                replace hA := (hbn.block _ (Array.getElem?_eq_some_iff.1 hA).1).trans hA
                have hz6 : W5.heap.size < (W5.alloc (.cells #[.nilIface] 34)).heap.size := by simp
                refine hK6.out _ _ (hSS.below hbn) (fun hSS => ?_)
                clear hbn hK6
                generalize W5.alloc (.cells #[.nilIface] 34) = W6 at *
                have hTwo := TwoR.mk (A := W4.heap.size) (B := W5.heap.size) hSS.2.2 hA hB rX rY (by omega) (by omega) (by omega) (fun b hb => by omega) (fun b hb => by omega)
                have hS8 : Below w.heap.size w (World.setCell W6 ⟨W4.heap.size, 0, none⟩ a) := hSS.2.2.setCell (p := ⟨W4.heap.size, 0, none⟩) (show _ ≤ W4.heap.size by omega) a
                have hS9 := hS8.setCell (p := ⟨W5.heap.size, 0, none⟩) (show _ ≤ W5.heap.size by omega) b
                have hB6 := (Below.heap_setCell W6 ⟨W4.heap.size, 0, none⟩ a (W5.heap.size) (show W5.heap.size ≠ W4.heap.size by omega)).trans hB
                have hQ8 : BW w (World.setCell W6 ⟨W4.heap.size, 0, none⟩ a) v p u q := ⟨(Below.heap_setCell _ _ _ _ (show w.heap.size ≠ W4.heap.size by omega)).trans hSS.1, (Below.heap_setCell _ _ _ _ (show w.heap.size + 1 ≠ W4.heap.size by omega)).trans hSS.2.1, hS8⟩
                have hQ9 : BW w (World.setCell (World.setCell W6 ⟨W4.heap.size, 0, none⟩ a) ⟨W5.heap.size, 0, none⟩ b) v p u q := ⟨(Below.heap_setCell _ _ _ _ (show w.heap.size ≠ W5.heap.size by omega)).trans hQ8.1, (Below.heap_setCell _ _ _ _ (show w.heap.size + 1 ≠ W5.heap.size by omega)).trans hQ8.2.1, hS9⟩
                refine wpAnyH_ready (rs := [8]) (by kernel_rfl) (by simp) (AllReadyH.cons rfl (fun K7 hK7 => ?_) AllReadyH.nil)
                refine step_set1 (by rfl) _ _ (by rfl) (by rfl) (B := W4.heap.size) (u := a) (by rfl) (by rfl) ha1 hA ?_
                refine hK7.out _ _ hQ8 (fun hSS6 => ?_)
                clear hQ8 hS8 hS9 hK7
                generalize World.setCell W6 ⟨W4.heap.size, 0, none⟩ a = WB at *
                refine wpAnyH_ready (rs := [9]) (by kernel_rfl) (by simp) (AllReadyH.cons rfl (fun K8 hK8 => ?_) AllReadyH.nil)
                refine step_set1 (by rfl) _ _ (by rfl) (by rfl) (B := W5.heap.size) (u := b) (by rfl) (by rfl) hb1 hB6 ?_
                refine hK8.out _ _ hQ9 (fun hSS7 => ?_)
                clear hQ9 hK8
                generalize World.setCell WB ⟨W5.heap.size, 0, none⟩ b = WC at *
                refine wpAnyH_done (by kernel_rfl) ?_ _
                go_wp2_with fail
                go_meet
                exact hTwo
              · refine step_plain (by rfl) ?_
                simp only [List.getElem_toArray, List.getElem_cons_zero, List.getElem_cons_succ]
                go_simp
                have hbn : Below W4.heap.size W4 (W4.alloc (.cells #[.nilIface] 34)) := (Below.refl _ _).alloc (Nat.le_refl _) _
                have hB := heap_alloc_new W4 (.cells #[.nilIface] 34)
                replace rX := rX.stays hbn
                replace rY := rY.stays hbn
                have hz5 : W4.heap.size < (W4.alloc (.cells #[.nilIface] 34)).heap.size := by simp
                refine hK5.out _ _ (hSS.below hbn) (fun hSS => ?_)
                clear hbn hK5
                generalize W4.alloc (.cells #[.nilIface] 34) = W5 at *
                refine wpAnyH_ready (rs := [6]) (by kernel_rfl) (by simp) (AllReadyH.cons rfl (fun K6 hK6 => ?_) AllReadyH.nil)
                refine step_plain (by rfl) ?_
                simp only [List.getElem_toArray, List.getElem_cons_zero, List.getElem_cons_succ]
                go_simp
                have hbn : Below W5.heap.size W5 (W5.alloc (.cells #[.nilIface] 34)) := (Below.refl _ _).alloc (Nat.le_refl _) _
                have hA := heap_alloc_new W5 (.cells #[.nilIface] 34)
                replace rX := rX.stays hbn
                replace rY := rY.stays hbn
                replace hB := (hbn.block _ (Array.getElem?_eq_some_iff.1 hB).1).trans hB
                have hz6 : W5.heap.size < (W5.alloc (.cells #[.nilIface] 34)).heap.size := by simp
                refine hK6.out _ _ (hSS.below hbn) (fun hSS => ?_)
                clear hbn hK6
                generalize W5.alloc (.cells #[.nilIface] 34) = W6 at *
                have hTwo := TwoR.mk (A := W5.heap.size) (B := W4.heap.size) hSS.2.2 hA hB rX rY (by omega) (by omega) (by omega) (fun b hb => by omega) (fun b hb => by omega)
                have hS8 : Below w.heap.size w (World.setCell W6 ⟨W5.heap.size, 0, none⟩ a) := hSS.2.2.setCell (p := ⟨W5.heap.size, 0, none⟩) (show _ ≤ W5.heap.size by omega) a
                have hS9 := hS8.setCell (p := ⟨W4.heap.size, 0, none⟩) (show _ ≤ W4.heap.size by omega) b
                have hB6 := (Below.heap_setCell W6 ⟨W5.heap.size, 0, none⟩ a (W4.heap.size) (show W4.heap.size ≠ W5.heap.size by omega)).trans hB
                have hQ8 : BW w (World.setCell W6 ⟨W5.heap.size, 0, none⟩ a) v p u q := ⟨(Below.heap_setCell _ _ _ _ (show w.heap.size ≠ W5.heap.size by omega)).trans hSS.1, (Below.heap_setCell _ _ _ _ (show w.heap.size + 1 ≠ W5.heap.size by omega)).trans hSS.2.1, hS8⟩
                have hQ9 : BW w (World.setCell (World.setCell W6 ⟨W5.heap.size, 0, none⟩ a) ⟨W4.heap.size, 0, none⟩ b) v p u q := ⟨(Below.heap_setCell _ _ _ _ (show w.heap.size ≠ W4.heap.size by omega)).trans hQ8.1, (Below.heap_setCell _ _ _ _ (show w.heap.size + 1 ≠ W4.heap.size by omega)).trans hQ8.2.1, hS9⟩
                refine wpAnyH_ready (rs := [8]) (by kernel_rfl) (by simp) (AllReadyH.cons rfl (fun K7 hK7 => ?_) AllReadyH.nil)
                refine step_set1 (by rfl) _ _ (by rfl) (by rfl) (B := W5.heap.size) (u := a) (by rfl) (by rfl) ha1 hA ?_
                refine hK7.out _ _ hQ8 (fun hSS6 => ?_)
                clear hQ8 hS8 hS9 hK7
                generalize World.setCell W6 ⟨W5.heap.size, 0, none⟩ a = WB at *
                refine wpAnyH_ready (rs := [9]) (by kernel_rfl) (by simp) (AllReadyH.cons rfl (fun K8 hK8 => ?_) AllReadyH.nil)
                refine step_set1 (by rfl) _ _ (by rfl) (by rfl) (B := W4.heap.size) (u := b) (by rfl) (by rfl) hb1 hB6 ?_
                refine hK8.out _ _ hQ9 (fun hSS7 => ?_)
                clear hQ9 hK8
                generalize World.setCell WB ⟨W4.heap.size, 0, none⟩ b = WC at *
                refine wpAnyH_done (by kernel_rfl) ?_ _
                go_wp2_with fail
                go_meet
                exact hTwo
            · refine step_plain (by rfl) ?_
              simp only [List.getElem_toArray, List.getElem_cons_zero, List.getElem_cons_succ]
              go_simp
              have hbn : Below W3.heap.size W3 (W3.alloc (.cells #[.nilIface] 34)) := (Below.refl _ _).alloc (Nat.le_refl _) _
              have hA := heap_alloc_new W3 (.cells #[.nilIface] 34)
              replace rX := rX.stays hbn
              replace hY := hY.stays hbn
              have hz4 : W3.heap.size < (W3.alloc (.cells #[.nilIface] 34)).heap.size := by simp
              refine hK4.out _ _ (hSS.below hbn) (fun hSS => ?_)
              clear hbn hK4
              generalize W3.alloc (.cells #[.nilIface] 34) = W4 at *
              refine wpAnyH_ready (rs := [5, 7]) (by kernel_rfl) (by simp) (AllReadyH.cons rfl (fun K5 hK5 => ?_) (AllReadyH.cons rfl (fun K5 hK5 => ?_) AllReadyH.nil))
              · refine step_plain (by rfl) ?_
                simp only [List.getElem_toArray, List.getElem_cons_zero, List.getElem_cons_succ]
                go_simp
                go_at_call 11
                refine (T2.out _ _ _ hY).mono ?_
                rintro e W5 ⟨b, rfl, hb1, rY, hbn⟩
                replace rX := rX.stays hbn
                replace hY := hY.stays hbn
                replace hA := (hbn.block _ (Array.getElem?_eq_some_iff.1 hA).1).trans hA
                replace rY := rY.mono (ok' := fun b => W4.heap.size ≤ b ∧ b < W5.heap.size) (fun _ h1 h2 => ⟨h1, h2⟩)
                clear hY
                have hz5 := hbn.size
                go_simp
                refine hK5.out _ _ (hSS.below hbn) (fun hSS => ?_)
                clear hbn hK5
                refine wpAnyH_ready (rs := [7]) (by kernel_rfl) (by simp) (AllReadyH.cons rfl (fun K6 hK6 => ?_) AllReadyH.nil)
                refine step_plain (by rfl) ?_
                simp only [List.getElem_toArray, List.getElem_cons_zero, List.getElem_cons_succ]
                go_simp
                have hbn : Below W5.heap.size W5 (W5.alloc (.cells #[.nilIface] 34)) := (Below.refl _ _).alloc (Nat.le_refl _) _
                have hB := heap_alloc_new W5 (.cells #[.nilIface] 34)
                replace rX := rX.stays hbn
                replace rY := rY.stays hbn
                replace hA := (hbn.block _ (Array.getElem?_eq_some_iff.1 hA).1).trans hA
                have hz6 : W5.heap.size < (W5.alloc (.cells #[.nilIface] 34)).heap.size := by simp
                refine hK6.out _ _ (hSS.below hbn) (fun hSS => ?_)
                clear hbn hK6
                generalize W5.alloc (.cells #[.nilIface] 34) = W6 at *
                have hTwo := TwoR.mk (A := W3.heap.size) (B := W5.heap.size) hSS.2.2 hA hB rX rY (by omega) (by omega) (by omega) (fun b hb => by omega) (fun b hb => by omega)
                have hS8 : Below w.heap.size w (World.setCell W6 ⟨W3.heap.size, 0, none⟩ a) := hSS.2.2.setCell (p := ⟨W3.heap.size, 0, none⟩) (show _ ≤ W3.heap.size by omega) a
                have hS9 := hS8.setCell (p := ⟨W5.heap.size, 0, none⟩) (show _ ≤ W5.heap.size by omega) b
                have hB6 := (Below.heap_setCell W6 ⟨W3.heap.size, 0, none⟩ a (W5.heap.size) (show W5.heap.size ≠ W3.heap.size by omega)).trans hB
                have hQ8 : BW w (World.setCell W6 ⟨W3.heap.size, 0, none⟩ a) v p u q := ⟨(Below.heap_setCell _ _ _ _ (show w.heap.size ≠ W3.heap.size by omega)).trans hSS.1, (Below.heap_setCell _ _ _ _ (show w.heap.size + 1 ≠ W3.heap.size by omega)).trans hSS.2.1, hS8⟩
                have hQ9 : BW w (World.setCell (World.setCell W6 ⟨W3.heap.size, 0, none⟩ a) ⟨W5.heap.size, 0, none⟩ b) v p u q := ⟨(Below.heap_setCell _ _ _ _ (show w.heap.size ≠ W5.heap.size by omega)).trans hQ8.1, (Below.heap_setCell _ _ _ _ (show w.heap.size + 1 ≠ W5.heap.size by omega)).trans hQ8.2.1, hS9⟩
                refine wpAnyH_ready (rs := [8]) (by kernel_rfl) (by simp) (AllReadyH.cons rfl (fun K7 hK7 => ?_) AllReadyH.nil)
                refine step_set1 (by rfl) _ _ (by rfl) (by rfl) (B := W3.heap.size) (u := a) (by rfl) (by rfl) ha1 hA ?_
                refine hK7.out _ _ hQ8 (fun hSS6 => ?_)
                clear hQ8 hS8 hS9 hK7
                generalize World.setCell W6 ⟨W3.heap.size, 0, none⟩ a = WB at *
                refine wpAnyH_ready (rs := [9]) (by kernel_rfl) (by simp) (AllReadyH.cons rfl (fun K8 hK8 => ?_) AllReadyH.nil)
                refine step_set1 (by rfl) _ _ (by rfl) (by rfl) (B := W5.heap.size) (u := b) (by rfl) (by rfl) hb1 hB6 ?_
                refine hK8.out _ _ hQ9 (fun hSS7 => ?_)
                clear hQ9 hK8
                generalize World.setCell WB ⟨W5.heap.size, 0, none⟩ b = WC at *
                refine wpAnyH_done (by kernel_rfl) ?_ _
                go_wp2_with fail
                go_meet
                exact hTwo
              · refine step_plain (by rfl) ?_
                simp only [List.getElem_toArray, List.getElem_cons_zero, List.getElem_cons_succ]
                go_simp
                have hbn : Below W4.heap.size W4 (W4.alloc (.cells #[.nilIface] 34)) := (Below.refl _ _).alloc (Nat.le_refl _) _
                have hB := heap_alloc_new W4 (.cells #[.nilIface] 34)
                replace rX := rX.stays hbn
                replace hY := hY.stays hbn
                replace hA := (hbn.block _ (Array.getElem?_eq_some_iff.1 hA).1).trans hA
                have hz5 : W4.heap.size < (W4.alloc (.cells #[.nilIface] 34)).heap.size := by simp
                refine hK5.out _ _ (hSS.below hbn) (fun hSS => ?_)
                clear hbn hK5
                generalize W4.alloc (.cells #[.nilIface] 34) = W5 at *
                refine wpAnyH_ready (rs := [5]) (by kernel_rfl) (by simp) (AllReadyH.cons rfl (fun K6 hK6 => ?_) AllReadyH.nil)
                refine step_plain (by rfl) ?_
                simp only [List.getElem_toArray, List.getElem_cons_zero, List.getElem_cons_succ]
                go_simp
                go_at_call 11
                refine (T2.out _ _ _ hY).mono ?_
                rintro e W6 ⟨b, rfl, hb1, rY, hbn⟩
                replace rX := rX.stays hbn
                replace hY := hY.stays hbn
                replace hA := (hbn.block _ (Array.getElem?_eq_some_iff.1 hA).1).trans hA
                replace hB := (hbn.block _ (Array.getElem?_eq_some_iff.1 hB).1).trans hB
                replace rY := rY.mono (ok' := fun b => W5.heap.size ≤ b ∧ b < W6.heap.size) (fun _ h1 h2 => ⟨h1, h2⟩)
                clear hY
                have hz6 := hbn.size
                go_simp
                refine hK6.out _ _ (hSS.below hbn) (fun hSS => ?_)
                clear hbn hK6
                have hTwo := TwoR.mk (A := W3.heap.size) (B := W4.heap.size) hSS.2.2 hA hB rX rY (by omega) (by omega) (by omega) (fun b hb => by omega) (fun b hb => by omega)
                have hS8 : Below w.heap.size w (World.setCell W6 ⟨W3.heap.size, 0, none⟩ a) := hSS.2.2.setCell (p := ⟨W3.heap.size, 0, none⟩) (show _ ≤ W3.heap.size by omega) a
                have hS9 := hS8.setCell (p := ⟨W4.heap.size, 0, none⟩) (show _ ≤ W4.heap.size by omega) b
                have hB6 := (Below.heap_setCell W6 ⟨W3.heap.size, 0, none⟩ a (W4.heap.size) (show W4.heap.size ≠ W3.heap.size by omega)).trans hB
                have hQ8 : BW w (World.setCell W6 ⟨W3.heap.size, 0, none⟩ a) v p u q := ⟨(Below.heap_setCell _ _ _ _ (show w.heap.size ≠ W3.heap.size by omega)).trans hSS.1, (Below.heap_setCell _ _ _ _ (show w.heap.size + 1 ≠ W3.heap.size by omega)).trans hSS.2.1, hS8⟩
                have hQ9 : BW w (World.setCell (World.setCell W6 ⟨W3.heap.size, 0, none⟩ a) ⟨W4.heap.size, 0, none⟩ b) v p u q := ⟨(Below.heap_setCell _ _ _ _ (show w.heap.size ≠ W4.heap.size by omega)).trans hQ8.1, (Below.heap_setCell _ _ _ _ (show w.heap.size + 1 ≠ W4.heap.size by omega)).trans hQ8.2.1, hS9⟩
                refine wpAnyH_ready (rs := [8]) (by kernel_rfl) (by simp) (AllReadyH.cons rfl (fun K7 hK7 => ?_) AllReadyH.nil)
                refine step_set1 (by rfl) _ _ (by rfl) (by rfl) (B := W3.heap.size) (u := a) (by rfl) (by rfl) ha1 hA ?_
                refine hK7.out _ _ hQ8 (fun hSS6 => ?_)
                clear hQ8 hS8 hS9 hK7
                generalize World.setCell W6 ⟨W3.heap.size, 0, none⟩ a = WB at *
                refine wpAnyH_ready (rs := [9]) (by kernel_rfl) (by simp) (AllReadyH.cons rfl (fun K8 hK8 => ?_) AllReadyH.nil)
                refine step_set1 (by rfl) _ _ (by rfl) (by rfl) (B := W4.heap.size) (u := b) (by rfl) (by rfl) hb1 hB6 ?_
                refine hK8.out _ _ hQ9 (fun hSS7 => ?_)
                clear hQ9 hK8
                generalize World.setCell WB ⟨W4.heap.size, 0, none⟩ b = WC at *
                refine wpAnyH_done (by kernel_rfl) ?_ _
                go_wp2_with fail
                go_meet
                exact hTwo
            · refine step_plain (by rfl) ?_
              simp only [List.getElem_toArray, List.getElem_cons_zero, List.getElem_cons_succ]
              go_simp
              have hbn : Below W3.heap.size W3 (W3.alloc (.cells #[.nilIface] 34)) := (Below.refl _ _).alloc (Nat.le_refl _) _
              have hB := heap_alloc_new W3 (.cells #[.nilIface] 34)
              replace rX := rX.stays hbn
              replace hY := hY.stays hbn
              have hz4 : W3.heap.size < (W3.alloc (.cells #[.nilIface] 34)).heap.size := by simp
              refine hK4.out _ _ (hSS.below hbn) (fun hSS => ?_)
              clear hbn hK4
              generalize W3.alloc (.cells #[.nilIface] 34) = W4 at *
              refine wpAnyH_ready (rs := [5, 6]) (by kernel_rfl) (by simp) (AllReadyH.cons rfl (fun K5 hK5 => ?_) (AllReadyH.cons rfl (fun K5 hK5 => ?_) AllReadyH.nil))
              · refine step_plain (by rfl) ?_
                simp only [List.getElem_toArray, List.getElem_cons_zero, List.getElem_cons_succ]
                go_simp
                go_at_call 11
                refine (T2.out _ _ _ hY).mono ?_
                rintro e W5 ⟨b, rfl, hb1, rY, hbn⟩
                replace rX := rX.stays hbn
                replace hY := hY.stays hbn
                replace hB := (hbn.block _ (Array.getElem?_eq_some_iff.1 hB).1).trans hB
                replace rY := rY.mono (ok' := fun b => W4.heap.size ≤ b ∧ b < W5.heap.size) (fun _ h1 h2 => ⟨h1, h2⟩)
                clear hY
                have hz5 := hbn.size
                go_simp
                refine hK5.out _ _ (hSS.below hbn) (fun hSS => ?_)
                clear hbn hK5
                refine wpAnyH_ready (rs := [6]) (by kernel_rfl) (by simp) (AllReadyH.cons rfl (fun K6 hK6 => ?_) AllReadyH.nil)
                refine step_plain (by rfl) ?_
                simp only [List.getElem_toArray, List.getElem_cons_zero, List.getElem_cons_succ]
                go_simp
                have hbn : Below W5.heap.size W5 (W5.alloc (.cells #[.nilIface] 34)) := (Below.refl _ _).alloc (Nat.le_refl _) _
                have hA := heap_alloc_new W5 (.cells #[.nilIface] 34)
                replace rX := rX.stays hbn
                replace rY := rY.stays hbn
                replace hB := (hbn.block _ (Array.getElem?_eq_some_iff.1 hB).1).trans hB
                have hz6 : W5.heap.size < (W5.alloc (.cells #[.nilIface] 34)).heap.size := by simp
                refine hK6.out _ _ (hSS.below hbn) (fun hSS => ?_)
                clear hbn hK6
                generalize W5.alloc (.cells #[.nilIface] 34) = W6 at *
                have hTwo := TwoR.mk (A := W5.heap.size) (B := W3.heap.size) hSS.2.2 hA hB rX rY (by omega) (by omega) (by omega) (fun b hb => by omega) (fun b hb => by omega)
                have hS8 : Below w.heap.size w (World.setCell W6 ⟨W5.heap.size, 0, none⟩ a) := hSS.2.2.setCell (p := ⟨W5.heap.size, 0, none⟩) (show _ ≤ W5.heap.size by omega) a
                have hS9 := hS8.setCell (p := ⟨W3.heap.size, 0, none⟩) (show _ ≤ W3.heap.size by omega) b
                have hB6 := (Below.heap_setCell W6 ⟨W5.heap.size, 0, none⟩ a (W3.heap.size) (show W3.heap.size ≠ W5.heap.size by omega)).trans hB
                have hQ8 : BW w (World.setCell W6 ⟨W5.heap.size, 0, none⟩ a) v p u q := ⟨(Below.heap_setCell _ _ _ _ (show w.heap.size ≠ W5.heap.size by omega)).trans hSS.1, (Below.heap_setCell _ _ _ _ (show w.heap.size + 1 ≠ W5.heap.size by omega)).trans hSS.2.1, hS8⟩
                have hQ9 : BW w (World.setCell (World.setCell W6 ⟨W5.heap.size, 0, none⟩ a) ⟨W3.heap.size, 0, none⟩ b) v p u q := ⟨(Below.heap_setCell _ _ _ _ (show w.heap.size ≠ W3.heap.size by omega)).trans hQ8.1, (Below.heap_setCell _ _ _ _ (show w.heap.size + 1 ≠ W3.heap.size by omega)).trans hQ8.2.1, hS9⟩
                refine wpAnyH_ready (rs := [8]) (by kernel_rfl) (by simp) (AllReadyH.cons rfl (fun K7 hK7 => ?_) AllReadyH.nil)
                refine step_set1 (by rfl) _ _ (by rfl) (by rfl) (B := W5.heap.size) (u := a) (by rfl) (by rfl) ha1 hA ?_
                refine hK7.out _ _ hQ8 (fun hSS6 => ?_)
                clear hQ8 hS8 hS9 hK7
                generalize World.setCell W6 ⟨W5.heap.size, 0, none⟩ a = WB at *
                refine wpAnyH_ready (rs := [9]) (by kernel_rfl) (by simp) (AllReadyH.cons rfl (fun K8 hK8 => ?_) AllReadyH.nil)
                refine step_set1 (by rfl) _ _ (by rfl) (by rfl) (B := W3.heap.size) (u := b) (by rfl) (by rfl) hb1 hB6 ?_
                refine hK8.out _ _ hQ9 (fun hSS7 => ?_)
                clear hQ9 hK8
                generalize World.setCell WB ⟨W3.heap.size, 0, none⟩ b = WC at *
                refine wpAnyH_done (by kernel_rfl) ?_ _
                go_wp2_with fail
                go_meet
                exact hTwo
              · refine step_plain (by rfl) ?_
                simp only [List.getElem_toArray, List.getElem_cons_zero, List.getElem_cons_succ]
                go_simp
                have hbn : Below W4.heap.size W4 (W4.alloc (.cells #[.nilIface] 34)) := (Below.refl _ _).alloc (Nat.le_refl _) _
                have hA := heap_alloc_new W4 (.cells #[.nilIface] 34)
                replace rX := rX.stays hbn
                replace hY := hY.stays hbn
                replace hB := (hbn.block _ (Array.getElem?_eq_some_iff.1 hB).1).trans hB
                have hz5 : W4.heap.size < (W4.alloc (.cells #[.nilIface] 34)).heap.size := by simp
                refine hK5.out _ _ (hSS.below hbn) (fun hSS => ?_)
                clear hbn hK5
                generalize W4.alloc (.cells #[.nilIface] 34) = W5 at *
                refine wpAnyH_ready (rs := [5]) (by kernel_rfl) (by simp) (AllReadyH.cons rfl (fun K6 hK6 => ?_) AllReadyH.nil)
                refine step_plain (by rfl) ?_
                simp only [List.getElem_toArray, List.getElem_cons_zero, List.getElem_cons_succ]
                go_simp
                go_at_call 11
                refine (T2.out _ _ _ hY).mono ?_
                rintro e W6 ⟨b, rfl, hb1, rY, hbn⟩
                replace rX := rX.stays hbn
                replace hY := hY.stays hbn
                replace hA := (hbn.block _ (Array.getElem?_eq_some_iff.1 hA).1).trans hA
                replace hB := (hbn.block _ (Array.getElem?_eq_some_iff.1 hB).1).trans hB
                replace rY := rY.mono (ok' := fun b => W5.heap.size ≤ b ∧ b < W6.heap.size) (fun _ h1 h2 => ⟨h1, h2⟩)
                clear hY
                have hz6 := hbn.size
                go_simp
                refine hK6.out _ _ (hSS.below hbn) (fun hSS => ?_)
                clear hbn hK6
                have hTwo := TwoR.mk (A := W4.heap.size) (B := W3.heap.size) hSS.2.2 hA hB rX rY (by omega) (by omega) (by omega) (fun b hb => by omega) (fun b hb => by omega)
                have hS8 : Below w.heap.size w (World.setCell W6 ⟨W4.heap.size, 0, none⟩ a) := hSS.2.2.setCell (p := ⟨W4.heap.size, 0, none⟩) (show _ ≤ W4.heap.size by omega) a
                have hS9 := hS8.setCell (p := ⟨W3.heap.size, 0, none⟩) (show _ ≤ W3.heap.size by omega) b
                have hB6 := (Below.heap_setCell W6 ⟨W4.heap.size, 0, none⟩ a (W3.heap.size) (show W3.heap.size ≠ W4.heap.size by omega)).trans hB
                have hQ8 : BW w (World.setCell W6 ⟨W4.heap.size, 0, none⟩ a) v p u q := ⟨(Below.heap_setCell _ _ _ _ (show w.heap.size ≠ W4.heap.size by omega)).trans hSS.1, (Below.heap_setCell _ _ _ _ (show w.heap.size + 1 ≠ W4.heap.size by omega)).trans hSS.2.1, hS8⟩
                have hQ9 : BW w (World.setCell (World.setCell W6 ⟨W4.heap.size, 0, none⟩ a) ⟨W3.heap.size, 0, none⟩ b) v p u q := ⟨(Below.heap_setCell _ _ _ _ (show w.heap.size ≠ W3.heap.size by omega)).trans hQ8.1, (Below.heap_setCell _ _ _ _ (show w.heap.size + 1 ≠ W3.heap.size by omega)).trans hQ8.2.1, hS9⟩
                refine wpAnyH_ready (rs := [8]) (by kernel_rfl) (by simp) (AllReadyH.cons rfl (fun K7 hK7 => ?_) AllReadyH.nil)
                refine step_set1 (by rfl) _ _ (by rfl) (by rfl) (B := W4.heap.size) (u := a) (by rfl) (by rfl) ha1 hA ?_
                refine hK7.out _ _ hQ8 (fun hSS6 => ?_)
                clear hQ8 hS8 hS9 hK7
                generalize World.setCell W6 ⟨W4.heap.size, 0, none⟩ a = WB at *
                refine wpAnyH_ready (rs := [9]) (by kernel_rfl) (by simp) (AllReadyH.cons rfl (fun K8 hK8 => ?_) AllReadyH.nil)
                refine step_set1 (by rfl) _ _ (by rfl) (by rfl) (B := W3.heap.size) (u := b) (by rfl) (by rfl) hb1 hB6 ?_
                refine hK8.out _ _ hQ9 (fun hSS7 => ?_)
                clear hQ9 hK8
                generalize World.setCell WB ⟨W3.heap.size, 0, none⟩ b = WC at *
                refine wpAnyH_done (by kernel_rfl) ?_ _
                go_wp2_with fail
                go_meet
                exact hTwo
          · refine step_plain (by rfl) ?_
            simp only [List.getElem_toArray, List.getElem_cons_zero, List.getElem_cons_succ]
            go_simp
            have hbn : Below W2.heap.size W2 (W2.alloc (.cells #[.nilIface] 34)) := (Below.refl _ _).alloc (Nat.le_refl _) _
            have hA := heap_alloc_new W2 (.cells #[.nilIface] 34)
            replace rX := rX.stays hbn
            have hz3 : W2.heap.size < (W2.alloc (.cells #[.nilIface] 34)).heap.size := by simp
            refine hK3.out _ _ (hSS.below hbn) (fun hSS => ?_)
            clear hbn hK3
            generalize W2.alloc (.cells #[.nilIface] 34) = W3 at *
            refine wpAnyH_ready (rs := [4, 7]) (by kernel_rfl) (by simp) (AllReadyH.cons rfl (fun K4 hK4 => ?_) (AllReadyH.cons rfl (fun K4 hK4 => ?_) AllReadyH.nil))
            · refine step_plain (by rfl) ?_
              simp only [List.getElem_toArray, List.getElem_cons_zero, List.getElem_cons_succ]
              go_simp
              go_at_call 9
              refine (C2.out _ hSS.2.2).mono ?_
              rintro e W4 ⟨yp, rfl, hY, hbn⟩
              replace rX := rX.stays hbn
              replace hA := (hbn.block _ (Array.getElem?_eq_some_iff.1 hA).1).trans hA
              have hz4 := hbn.size
              go_simp
              refine hK4.out _ _ (hSS.below hbn) (fun hSS => ?_)
              clear hbn hK4
              refine wpAnyH_ready (rs := [5, 7]) (by kernel_rfl) (by simp) (AllReadyH.cons rfl (fun K5 hK5 => ?_) (AllReadyH.cons rfl (fun K5 hK5 => ?_) AllReadyH.nil))
              · refine step_plain (by rfl) ?_
                simp only [List.getElem_toArray, List.getElem_cons_zero, List.getElem_cons_succ]
                go_simp
                go_at_call 11
                refine (T2.out _ _ _ hY).mono ?_
                rintro e W5 ⟨b, rfl, hb1, rY, hbn⟩
                replace rX := rX.stays hbn
                replace hY := hY.stays hbn
                replace hA := (hbn.block _ (Array.getElem?_eq_some_iff.1 hA).1).trans hA
                replace rY := rY.mono (ok' := fun b => W4.heap.size ≤ b ∧ b < W5.heap.size) (fun _ h1 h2 => ⟨h1, h2⟩)
                clear hY
                have hz5 := hbn.size
                go_simp
                refine hK5.out _ _ (hSS.below hbn) (fun hSS => ?_)
                clear hbn hK5
                refine wpAnyH_ready (rs := [7]) (by kernel_rfl) (by simp) (AllReadyH.cons rfl (fun K6 hK6 => ?_) AllReadyH.nil)
                refine step_plain (by rfl) ?_
                simp only [List.getElem_toArray, List.getElem_cons_zero, List.getElem_cons_succ]
                go_simp
                have hbn : Below W5.heap.size W5 (W5.alloc (.cells #[.nilIface] 34)) := (Below.refl _ _).alloc (Nat.le_refl _) _
                have hB := heap_alloc_new W5 (.cells #[.nilIface] 34)
                replace rX := rX.stays hbn
                replace rY := rY.stays hbn
                replace hA := (hbn.block _ (Array.getElem?_eq_some_iff.1 hA).1).trans hA
                have hz6 : W5.heap.size < (W5.alloc (.cells #[.nilIface] 34)).heap.size := by simp
                refine hK6.out _ _ (hSS.below hbn) (fun hSS => ?_)
                clear hbn hK6
                generalize W5.alloc (.cells #[.nilIface] 34) = W6 at *
                have hTwo := TwoR.mk (A := W2.heap.size) (B := W5.heap.size) hSS.2.2 hA hB rX rY (by omega) (by omega) (by omega) (fun b hb => by omega) (fun b hb => by omega)
                have hS8 : Below w.heap.size w (World.setCell W6 ⟨W2.heap.size, 0, none⟩ a) := hSS.2.2.setCell (p := ⟨W2.heap.size, 0, none⟩) (show _ ≤ W2.heap.size by omega) a
                have hS9 := hS8.setCell (p := ⟨W5.heap.size, 0, none⟩) (show _ ≤ W5.heap.size by omega) b
                have hB6 := (Below.heap_setCell W6 ⟨W2.heap.size, 0, none⟩ a (W5.heap.size) (show W5.heap.size ≠ W2.heap.size by omega)).trans hB
                have hQ8 : BW w (World.setCell W6 ⟨W2.heap.size, 0, none⟩ a) v p u q := ⟨(Below.heap_setCell _ _ _ _ (show w.heap.size ≠ W2.heap.size by omega)).trans hSS.1, (Below.heap_setCell _ _ _ _ (show w.heap.size + 1 ≠ W2.heap.size by omega)).trans hSS.2.1, hS8⟩
                have hQ9 : BW w (World.setCell (World.setCell W6 ⟨W2.heap.size, 0, none⟩ a) ⟨W5.heap.size, 0, none⟩ b) v p u q := ⟨(Below.heap_setCell _ _ _ _ (show w.heap.size ≠ W5.heap.size by omega)).trans hQ8.1, (Below.heap_setCell _ _ _ _ (show w.heap.size + 1 ≠ W5.heap.size by omega)).trans hQ8.2.1, hS9⟩
                refine wpAnyH_ready (rs := [8]) (by kernel_rfl) (by simp) (AllReadyH.cons rfl (fun K7 hK7 => ?_) AllReadyH.nil)
                refine step_set1 (by rfl) _ _ (by rfl) (by rfl) (B := W2.heap.size) (u := a) (by rfl) (by rfl) ha1 hA ?_
                refine hK7.out _ _ hQ8 (fun hSS6 => ?_)
                clear hQ8 hS8 hS9 hK7
                generalize World.setCell W6 ⟨W2.heap.size, 0, none⟩ a = WB at *
                refine wpAnyH_ready (rs := [9]) (by kernel_rfl) (by simp) (AllReadyH.cons rfl (fun K8 hK8 => ?_) AllReadyH.nil)
                refine step_set1 (by rfl) _ _ (by rfl) (by rfl) (B := W5.heap.size) (u := b) (by rfl) (by rfl) hb1 hB6 ?_
                refine hK8.out _ _ hQ9 (fun hSS7 => ?_)
                clear hQ9 hK8
                generalize World.setCell WB ⟨W5.heap.size, 0, none⟩ b = WC at *
                refine wpAnyH_done (by kernel_rfl) ?_ _
                go_wp2_with fail
                go_meet
                exact hTwo
              · refine step_plain (by rfl) ?_
                simp only [List.getElem_toArray, List.getElem_cons_zero, List.getElem_cons_succ]
                go_simp
                have hbn : Below W4.heap.size W4 (W4.alloc (.cells #[.nilIface] 34)) := (Below.refl _ _).alloc (Nat.le_refl _) _
                have hB := heap_alloc_new W4 (.cells #[.nilIface] 34)
                replace rX := rX.stays hbn
                replace hY := hY.stays hbn
                replace hA := (hbn.block _ (Array.getElem?_eq_some_iff.1 hA).1).trans hA
                have hz5 : W4.heap.size < (W4.alloc (.cells #[.nilIface] 34)).heap.size := by simp
                refine hK5.out _ _ (hSS.below hbn) (fun hSS => ?_)
                clear hbn hK5
                generalize W4.alloc (.cells #[.nilIface] 34) = W5 at *
                refine wpAnyH_ready (rs := [5]) (by kernel_rfl) (by simp) (AllReadyH.cons rfl (fun K6 hK6 => ?_) AllReadyH.nil)
                refine step_plain (by rfl) ?_
                simp only [List.getElem_toArray, List.getElem_cons_zero, List.getElem_cons_succ]
                go_simp
                go_at_call 11
                refine (T2.out _ _ _ hY).mono ?_
                rintro e W6 ⟨b, rfl, hb1, rY, hbn⟩
                replace rX := rX.stays hbn
                replace hY := hY.stays hbn
                replace hA := (hbn.block _ (Array.getElem?_eq_some_iff.1 hA).1).trans hA
                replace hB := (hbn.block _ (Array.getElem?_eq_some_iff.1 hB).1).trans hB
                replace rY := rY.mono (ok' := fun b => W5.heap.size ≤ b ∧ b < W6.heap.size) (fun _ h1 h2 => ⟨h1, h2⟩)
                clear hY
                have hz6 := hbn.size
                go_simp
                refine hK6.out _ _ (hSS.below hbn) (fun hSS => ?_)
                clear hbn hK6
                have hTwo := TwoR.mk (A := W2.heap.size) (B := W4.heap.size) hSS.2.2 hA hB rX rY (by omega) (by omega) (by omega) (fun b hb => by omega) (fun b hb => by omega)
                have hS8 : Below w.heap.size w (World.setCell W6 ⟨W2.heap.size, 0, none⟩ a) := hSS.2.2.setCell (p := ⟨W2.heap.size, 0, none⟩) (show _ ≤ W2.heap.size by omega) a
                have hS9 := hS8.setCell (p := ⟨W4.heap.size, 0, none⟩) (show _ ≤ W4.heap.size by omega) b
                have hB6 := (Below.heap_setCell W6 ⟨W2.heap.size, 0, none⟩ a (W4.heap.size) (show W4.heap.size ≠ W2.heap.size by omega)).trans hB
                have hQ8 : BW w (World.setCell W6 ⟨W2.heap.size, 0, none⟩ a) v p u q := ⟨(Below.heap_setCell _ _ _ _ (show w.heap.size ≠ W2.heap.size by omega)).trans hSS.1, (Below.heap_setCell _ _ _ _ (show w.heap.size + 1 ≠ W2.heap.size by omega)).trans hSS.2.1, hS8⟩
                have hQ9 : BW w (World.setCell (World.setCell W6 ⟨W2.heap.size, 0, none⟩ a) ⟨W4.heap.size, 0, none⟩ b) v p u q := ⟨(Below.heap_setCell _ _ _ _ (show w.heap.size ≠ W4.heap.size by omega)).trans hQ8.1, (Below.heap_setCell _ _ _ _ (show w.heap.size + 1 ≠ W4.heap.size by omega)).trans hQ8.2.1, hS9⟩
                refine wpAnyH_ready (rs := [8]) (by kernel_rfl) (by simp) (AllReadyH.cons rfl (fun K7 hK7 => ?_) AllReadyH.nil)
                refine step_set1 (by rfl) _ _ (by rfl) (by rfl) (B := W2.heap.size) (u := a) (by rfl) (by rfl) ha1 hA ?_
                refine hK7.out _ _ hQ8 (fun hSS6 => ?_)
                clear hQ8 hS8 hS9 hK7
                generalize World.setCell W6 ⟨W2.heap.size, 0, none⟩ a = WB at *
                refine wpAnyH_ready (rs := [9]) (by kernel_rfl) (by simp) (AllReadyH.cons rfl (fun K8 hK8 => ?_) AllReadyH.nil)
                refine step_set1 (by rfl) _ _ (by rfl) (by rfl) (B := W4.heap.size) (u := b) (by rfl) (by rfl) hb1 hB6 ?_
                refine hK8.out _ _ hQ9 (fun hSS7 => ?_)
                clear hQ9 hK8
                generalize World.setCell WB ⟨W4.heap.size, 0, none⟩ b = WC at *
                refine wpAnyH_done (by kernel_rfl) ?_ _
                go_wp2_with fail
                go_meet
                exact hTwo
            · refine step_plain (by rfl) ?_
              simp only [List.getElem_toArray, List.getElem_cons_zero, List.getElem_cons_succ]
              go_simp
              have hbn : Below W3.heap.size W3 (W3.alloc (.cells #[.nilIface] 34)) := (Below.refl _ _).alloc (Nat.le_refl _) _
              have hB := heap_alloc_new W3 (.cells #[.nilIface] 34)
              replace rX := rX.stays hbn
              replace hA := (hbn.block _ (Array.getElem?_eq_some_iff.1 hA).1).trans hA
              have hz4 : W3.heap.size < (W3.alloc (.cells #[.nilIface] 34)).heap.size := by simp
              refine hK4.out _ _ (hSS.below hbn) (fun hSS => ?_)
              clear hbn hK4
              generalize W3.alloc (.cells #[.nilIface] 34) = W4 at *
              refine wpAnyH_ready (rs := [4]) (by kernel_rfl) (by simp) (AllReadyH.cons rfl (fun K5 hK5 => ?_) AllReadyH.nil)
              refine step_plain (by rfl) ?_
              simp only [List.getElem_toArray, List.getElem_cons_zero, List.getElem_cons_succ]
              go_simp
              go_at_call 9
              refine (C2.out _ hSS.2.2).mono ?_
              rintro e W5 ⟨yp, rfl, hY, hbn⟩
              replace rX := rX.stays hbn
              replace hA := (hbn.block _ (Array.getElem?_eq_some_iff.1 hA).1).trans hA
              replace hB := (hbn.block _ (Array.getElem?_eq_some_iff.1 hB).1).trans hB
              have hz5 := hbn.size
              go_simp
              refine hK5.out _ _ (hSS.below hbn) (fun hSS => ?_)
              clear hbn hK5
              refine wpAnyH_ready (rs := [5]) (by kernel_rfl) (by simp) (AllReadyH.cons rfl (fun K6 hK6 => ?_) AllReadyH.nil)
              refine step_plain (by rfl) ?_
              simp only [List.getElem_toArray, List.getElem_cons_zero, List.getElem_cons_succ]
              go_simp
              go_at_call 11
              refine (T2.out _ _ _ hY).mono ?_
              rintro e W6 ⟨b, rfl, hb1, rY, hbn⟩
              replace rX := rX.stays hbn
              replace hY := hY.stays hbn
              replace hA := (hbn.block _ (Array.getElem?_eq_some_iff.1 hA).1).trans hA
              replace hB := (hbn.block _ (Array.getElem?_eq_some_iff.1 hB).1).trans hB
              replace rY := rY.mono (ok' := fun b => W5.heap.size ≤ b ∧ b < W6.heap.size) (fun _ h1 h2 => ⟨h1, h2⟩)
              clear hY
              have hz6 := hbn.size
              go_simp
              refine hK6.out _ _ (hSS.below hbn) (fun hSS => ?_)
              clear hbn hK6
              have hTwo := TwoR.mk (A := W2.heap.size) (B := W3.heap.size) hSS.2.2 hA hB rX rY (by omega) (by omega) (by omega) (fun b hb => by omega) (fun b hb => by omega)
              have hS8 : Below w.heap.size w (World.setCell W6 ⟨W2.heap.size, 0, none⟩ a) := hSS.2.2.setCell (p := ⟨W2.heap.size, 0, none⟩) (show _ ≤ W2.heap.size by omega) a
              have hS9 := hS8.setCell (p := ⟨W3.heap.size, 0, none⟩) (show _ ≤ W3.heap.size by omega) b
              have hB6 := (Below.heap_setCell W6 ⟨W2.heap.size, 0, none⟩ a (W3.heap.size) (show W3.heap.size ≠ W2.heap.size by omega)).trans hB
              have hQ8 : BW w (World.setCell W6 ⟨W2.heap.size, 0, none⟩ a) v p u q := ⟨(Below.heap_setCell _ _ _ _ (show w.heap.size ≠ W2.heap.size by omega)).trans hSS.1, (Below.heap_setCell _ _ _ _ (show w.heap.size + 1 ≠ W2.heap.size by omega)).trans hSS.2.1, hS8⟩
              have hQ9 : BW w (World.setCell (World.setCell W6 ⟨W2.heap.size, 0, none⟩ a) ⟨W3.heap.size, 0, none⟩ b) v p u q := ⟨(Below.heap_setCell _ _ _ _ (show w.heap.size ≠ W3.heap.size by omega)).trans hQ8.1, (Below.heap_setCell _ _ _ _ (show w.heap.size + 1 ≠ W3.heap.size by omega)).trans hQ8.2.1, hS9⟩
              refine wpAnyH_ready (rs := [8]) (by kernel_rfl) (by simp) (AllReadyH.cons rfl (fun K7 hK7 => ?_) AllReadyH.nil)
              refine step_set1 (by rfl) _ _ (by rfl) (by rfl) (B := W2.heap.size) (u := a) (by rfl) (by rfl) ha1 hA ?_
              refine hK7.out _ _ hQ8 (fun hSS6 => ?_)
              clear hQ8 hS8 hS9 hK7
              generalize World.setCell W6 ⟨W2.heap.size, 0, none⟩ a = WB at *
              refine wpAnyH_ready (rs := [9]) (by kernel_rfl) (by simp) (AllReadyH.cons rfl (fun K8 hK8 => ?_) AllReadyH.nil)
              refine step_set1 (by rfl) _ _ (by rfl) (by rfl) (B := W3.heap.size) (u := b) (by rfl) (by rfl) hb1 hB6 ?_
              refine hK8.out _ _ hQ9 (fun hSS7 => ?_)
              clear hQ9 hK8
              generalize World.setCell WB ⟨W3.heap.size, 0, none⟩ b = WC at *
              refine wpAnyH_done (by kernel_rfl) ?_ _
              go_wp2_with fail
              go_meet
              exact hTwo
          · refine step_plain (by rfl) ?_
            simp only [List.getElem_toArray, List.getElem_cons_zero, List.getElem_cons_succ]
            go_simp
            have hbn : Below W2.heap.size W2 (W2.alloc (.cells #[.nilIface] 34)) := (Below.refl _ _).alloc (Nat.le_refl _) _
            have hB := heap_alloc_new W2 (.cells #[.nilIface] 34)
            replace rX := rX.stays hbn
            have hz3 : W2.heap.size < (W2.alloc (.cells #[.nilIface] 34)).heap.size := by simp
            refine hK3.out _ _ (hSS.below hbn) (fun hSS => ?_)
            clear hbn hK3
            generalize W2.alloc (.cells #[.nilIface] 34) = W3 at *
            refine wpAnyH_ready (rs := [4, 6]) (by kernel_rfl) (by simp) (AllReadyH.cons rfl (fun K4 hK4 => ?_) (AllReadyH.cons rfl (fun K4 hK4 => ?_) AllReadyH.nil))
            · refine step_plain (by rfl) ?_
              simp only [List.getElem_toArray, List.getElem_cons_zero, List.getElem_cons_succ]
              go_simp
              go_at_call 9
              refine (C2.out _ hSS.2.2).mono ?_
              rintro e W4 ⟨yp, rfl, hY, hbn⟩
              replace rX := rX.stays hbn
              replace hB := (hbn.block _ (Array.getElem?_eq_some_iff.1 hB).1).trans hB
              have hz4 := hbn.size
              go_simp
              refine hK4.out _ _ (hSS.below hbn) (fun hSS => ?_)
              clear hbn hK4
              refine wpAnyH_ready (rs := [5, 6]) (by kernel_rfl) (by simp) (AllReadyH.cons rfl (fun K5 hK5 => ?_) (AllReadyH.cons rfl (fun K5 hK5 => ?_) AllReadyH.nil))
              · refine step_plain (by rfl) ?_
                simp only [List.getElem_toArray, List.getElem_cons_zero, List.getElem_cons_succ]
                go_simp
                go_at_call 11
                refine (T2.out _ _ _ hY).mono ?_
                rintro e W5 ⟨b, rfl, hb1, rY, hbn⟩
                replace rX := rX.stays hbn
                replace hY := hY.stays hbn
                replace hB := (hbn.block _ (Array.getElem?_eq_some_iff.1 hB).1).trans hB
                replace rY := rY.mono (ok' := fun b => W4.heap.size ≤ b ∧ b < W5.heap.size) (fun _ h1 h2 => ⟨h1, h2⟩)
                clear hY
                have hz5 := hbn.size
                go_simp
                refine hK5.out _ _ (hSS.below hbn) (fun hSS => ?_)
                clear hbn hK5
                refine wpAnyH_ready (rs := [6]) (by kernel_rfl) (by simp) (AllReadyH.cons rfl (fun K6 hK6 => ?_) AllReadyH.nil)
                refine step_plain (by rfl) ?_
                simp only [List.getElem_toArray, List.getElem_cons_zero, List.getElem_cons_succ]
                go_simp
                have hbn : Below W5.heap.size W5 (W5.alloc (.cells #[.nilIface] 34)) := (Below.refl _ _).alloc (Nat.le_refl _) _
                have hA := heap_alloc_new W5 (.cells #[.nilIface] 34)
                replace rX := rX.stays hbn
                replace rY := rY.stays hbn
                replace hB := (hbn.block _ (Array.getElem?_eq_some_iff.1 hB).1).trans hB
                have hz6 : W5.heap.size < (W5.alloc (.cells #[.nilIface] 34)).heap.size := by simp
                refine hK6.out _ _ (hSS.below hbn) (fun hSS => ?_)
                clear hbn hK6
                generalize W5.alloc (.cells #[.nilIface] 34) = W6 at *
                have hTwo := TwoR.mk (A := W5.heap.size) (B := W2.heap.size) hSS.2.2 hA hB rX rY (by omega) (by omega) (by omega) (fun b hb => by omega) (fun b hb => by omega)
                have hS8 : Below w.heap.size w (World.setCell W6 ⟨W5.heap.size, 0, none⟩ a) := hSS.2.2.setCell (p := ⟨W5.heap.size, 0, none⟩) (show _ ≤ W5.heap.size by omega) a
                have hS9 := hS8.setCell (p := ⟨W2.heap.size, 0, none⟩) (show _ ≤ W2.heap.size by omega) b
                have hB6 := (Below.heap_setCell W6 ⟨W5.heap.size, 0, none⟩ a (W2.heap.size) (show W2.heap.size ≠ W5.heap.size by omega)).trans hB
                have hQ8 : BW w (World.setCell W6 ⟨W5.heap.size, 0, none⟩ a) v p u q := ⟨(Below.heap_setCell _ _ _ _ (show w.heap.size ≠ W5.heap.size by omega)).trans hSS.1, (Below.heap_setCell _ _ _ _ (show w.heap.size + 1 ≠ W5.heap.size by omega)).trans hSS.2.1, hS8⟩
                have hQ9 : BW w (World.setCell (World.setCell W6 ⟨W5.heap.size, 0, none⟩ a) ⟨W2.heap.size, 0, none⟩ b) v p u q := ⟨(Below.heap_setCell _ _ _ _ (show w.heap.size ≠ W2.heap.size by omega)).trans hQ8.1, (Below.heap_setCell _ _ _ _ (show w.heap.size + 1 ≠ W2.heap.size by omega)).trans hQ8.2.1, hS9⟩
                refine wpAnyH_ready (rs := [8]) (by kernel_rfl) (by simp) (AllReadyH.cons rfl (fun K7 hK7 => ?_) AllReadyH.nil)
                refine step_set1 (by rfl) _ _ (by rfl) (by rfl) (B := W5.heap.size) (u := a) (by rfl) (by rfl) ha1 hA ?_
                refine hK7.out _ _ hQ8 (fun hSS6 => ?_)
                clear hQ8 hS8 hS9 hK7
                generalize World.setCell W6 ⟨W5.heap.size, 0, none⟩ a = WB at *
                refine wpAnyH_ready (rs := [9]) (by kernel_rfl) (by simp) (AllReadyH.cons rfl (fun K8 hK8 => ?_) AllReadyH.nil)
                refine step_set1 (by rfl) _ _ (by rfl) (by rfl) (B := W2.heap.size) (u := b) (by rfl) (by rfl) hb1 hB6 ?_
                refine hK8.out _ _ hQ9 (fun hSS7 => ?_)
                clear hQ9 hK8
                generalize World.setCell WB ⟨W2.heap.size, 0, none⟩ b = WC at *
                refine wpAnyH_done (by kernel_rfl) ?_ _
                go_wp2_with fail
                go_meet
                exact hTwo
              · refine step_plain (by rfl) ?_
                simp only [List.getElem_toArray, List.getElem_cons_zero, List.getElem_cons_succ]
                go_simp
                have hbn : Below W4.heap.size W4 (W4.alloc (.cells #[.nilIface] 34)) := (Below.refl _ _).alloc (Nat.le_refl _) _
                have hA := heap_alloc_new W4 (.cells #[.nilIface] 34)
                replace rX := rX.stays hbn
                replace hY := hY.stays hbn
                replace hB := (hbn.block _ (Array.getElem?_eq_some_iff.1 hB).1).trans hB
                have hz5 : W4.heap.size < (W4.alloc (.cells #[.nilIface] 34)).heap.size := by simp
                refine hK5.out _ _ (hSS.below hbn) (fun hSS => ?_)
                clear hbn hK5
                generalize W4.alloc (.cells #[.nilIface] 34) = W5 at *
                refine wpAnyH_ready (rs := [5]) (by kernel_rfl) (by simp) (AllReadyH.cons rfl (fun K6 hK6 => ?_) AllReadyH.nil)
                refine step_plain (by rfl) ?_
                simp only [List.getElem_toArray, List.getElem_cons_zero, List.getElem_cons_succ]
                go_simp
                go_at_call 11
                refine (T2.out _ _ _ hY).mono ?_
                rintro e W6 ⟨b, rfl, hb1, rY, hbn⟩
                replace rX := rX.stays hbn
                replace hY := hY.stays hbn
                replace hA := (hbn.block _ (Array.getElem?_eq_some_iff.1 hA).1).trans hA
                replace hB := (hbn.block _ (Array.getElem?_eq_some_iff.1 hB).1).trans hB
                replace rY := rY.mono (ok' := fun b => W5.heap.size ≤ b ∧ b < W6.heap.size) (fun _ h1 h2 => ⟨h1, h2⟩)
                clear hY
                have hz6 := hbn.size
                go_simp
                refine hK6.out _ _ (hSS.below hbn) (fun hSS => ?_)
                clear hbn hK6
                have hTwo := TwoR.mk (A := W4.heap.size) (B := W2.heap.size) hSS.2.2 hA hB rX rY (by omega) (by omega) (by omega) (fun b hb => by omega) (fun b hb => by omega)
                have hS8 : Below w.heap.size w (World.setCell W6 ⟨W4.heap.size, 0, none⟩ a) := hSS.2.2.setCell (p := ⟨W4.heap.size, 0, none⟩) (show _ ≤ W4.heap.size by omega) a
                have hS9 := hS8.setCell (p := ⟨W2.heap.size, 0, none⟩) (show _ ≤ W2.heap.size by omega) b
                have hB6 := (Below.heap_setCell W6 ⟨W4.heap.size, 0, none⟩ a (W2.heap.size) (show W2.heap.size ≠ W4.heap.size by omega)).trans hB
                have hQ8 : BW w (World.setCell W6 ⟨W4.heap.size, 0, none⟩ a) v p u q := ⟨(Below.heap_setCell _ _ _ _ (show w.heap.size ≠ W4.heap.size by omega)).trans hSS.1, (Below.heap_setCell _ _ _ _ (show w.heap.size + 1 ≠ W4.heap.size by omega)).trans hSS.2.1, hS8⟩
                have hQ9 : BW w (World.setCell (World.setCell W6 ⟨W4.heap.size, 0, none⟩ a) ⟨W2.heap.size, 0, none⟩ b) v p u q := ⟨(Below.heap_setCell _ _ _ _ (show w.heap.size ≠ W2.heap.size by omega)).trans hQ8.1, (Below.heap_setCell _ _ _ _ (show w.heap.size + 1 ≠ W2.heap.size by omega)).trans hQ8.2.1, hS9⟩
                refine wpAnyH_ready (rs := [8]) (by kernel_rfl) (by simp) (AllReadyH.cons rfl (fun K7 hK7 => ?_) AllReadyH.nil)
                refine step_set1 (by rfl) _ _ (by rfl) (by rfl) (B := W4.heap.size) (u := a) (by rfl) (by rfl) ha1 hA ?_
                refine hK7.out _ _ hQ8 (fun hSS6 => ?_)
                clear hQ8 hS8 hS9 hK7
                generalize World.setCell W6 ⟨W4.heap.size, 0, none⟩ a = WB at *
                refine wpAnyH_ready (rs := [9]) (by kernel_rfl) (by simp) (AllReadyH.cons rfl (fun K8 hK8 => ?_) AllReadyH.nil)
                refine step_set1 (by rfl) _ _ (by rfl) (by rfl) (B := W2.heap.size) (u := b) (by rfl) (by rfl) hb1 hB6 ?_
                refine hK8.out _ _ hQ9 (fun hSS7 => ?_)
                clear hQ9 hK8
                generalize World.setCell WB ⟨W2.heap.size, 0, none⟩ b = WC at *
                refine wpAnyH_done (by kernel_rfl) ?_ _
                go_wp2_with fail
                go_meet
                exact hTwo
            · refine step_plain (by rfl) ?_
              simp only [List.getElem_toArray, List.getElem_cons_zero, List.getElem_cons_succ]
              go_simp
              have hbn : Below W3.heap.size W3 (W3.alloc (.cells #[.nilIface] 34)) := (Below.refl _ _).alloc (Nat.le_refl _) _
              have hA := heap_alloc_new W3 (.cells #[.nilIface] 34)
              replace rX := rX.stays hbn
              replace hB := (hbn.block _ (Array.getElem?_eq_some_iff.1 hB).1).trans hB
              have hz4 : W3.heap.size < (W3.alloc (.cells #[.nilIface] 34)).heap.size := by simp
              refine hK4.out _ _ (hSS.below hbn) (fun hSS => ?_)
              clear hbn hK4
              generalize W3.alloc (.cells #[.nilIface] 34) = W4 at *
              refine wpAnyH_ready (rs := [4]) (by kernel_rfl) (by simp) (AllReadyH.cons rfl (fun K5 hK5 => ?_) AllReadyH.nil)
              refine step_plain (by rfl) ?_
              simp only [List.getElem_toArray, List.getElem_cons_zero, List.getElem_cons_succ]
              go_simp
              go_at_call 9
              refine (C2.out _ hSS.2.2).mono ?_
              rintro e W5 ⟨yp, rfl, hY, hbn⟩
              replace rX := rX.stays hbn
              replace hA := (hbn.block _ (Array.getElem?_eq_some_iff.1 hA).1).trans hA
              replace hB := (hbn.block _ (Array.getElem?_eq_some_iff.1 hB).1).trans hB
              have hz5 := hbn.size
              go_simp
              refine hK5.out _ _ (hSS.below hbn) (fun hSS => ?_)
              clear hbn hK5
              refine wpAnyH_ready (rs := [5]) (by kernel_rfl) (by simp) (AllReadyH.cons rfl (fun K6 hK6 => ?_) AllReadyH.nil)
              refine step_plain (by rfl) ?_
              simp only [List.getElem_toArray, List.getElem_cons_zero, List.getElem_cons_succ]
              go_simp
              go_at_call 11
              refine (T2.out _ _ _ hY).mono ?_
              rintro e W6 ⟨b, rfl, hb1, rY, hbn⟩
              replace rX := rX.stays hbn
              replace hY := hY.stays hbn
              replace hA := (hbn.block _ (Array.getElem?_eq_some_iff.1 hA).1).trans hA
              replace hB := (hbn.block _ (Array.getElem?_eq_some_iff.1 hB).1).trans hB
              replace rY := rY.mono (ok' := fun b => W5.heap.size ≤ b ∧ b < W6.heap.size) (fun _ h1 h2 => ⟨h1, h2⟩)
              clear hY
              have hz6 := hbn.size
              go_simp
              refine hK6.out _ _ (hSS.below hbn) (fun hSS => ?_)
              clear hbn hK6
              have hTwo := TwoR.mk (A := W3.heap.size) (B := W2.heap.size) hSS.2.2 hA hB rX rY (by omega) (by omega) (by omega) (fun b hb => by omega) (fun b hb => by omega)
              have hS8 : Below w.heap.size w (World.setCell W6 ⟨W3.heap.size, 0, none⟩ a) := hSS.2.2.setCell (p := ⟨W3.heap.size, 0, none⟩) (show _ ≤ W3.heap.size by omega) a
              have hS9 := hS8.setCell (p := ⟨W2.heap.size, 0, none⟩) (show _ ≤ W2.heap.size by omega) b
              have hB6 := (Below.heap_setCell W6 ⟨W3.heap.size, 0, none⟩ a (W2.heap.size) (show W2.heap.size ≠ W3.heap.size by omega)).trans hB
              have hQ8 : BW w (World.setCell W6 ⟨W3.heap.size, 0, none⟩ a) v p u q := ⟨(Below.heap_setCell _ _ _ _ (show w.heap.size ≠ W3.heap.size by omega)).trans hSS.1, (Below.heap_setCell _ _ _ _ (show w.heap.size + 1 ≠ W3.heap.size by omega)).trans hSS.2.1, hS8⟩
              have hQ9 : BW w (World.setCell (World.setCell W6 ⟨W3.heap.size, 0, none⟩ a) ⟨W2.heap.size, 0, none⟩ b) v p u q := ⟨(Below.heap_setCell _ _ _ _ (show w.heap.size ≠ W2.heap.size by omega)).trans hQ8.1, (Below.heap_setCell _ _ _ _ (show w.heap.size + 1 ≠ W2.heap.size by omega)).trans hQ8.2.1, hS9⟩
              refine wpAnyH_ready (rs := [8]) (by kernel_rfl) (by simp) (AllReadyH.cons rfl (fun K7 hK7 => ?_) AllReadyH.nil)
              refine step_set1 (by rfl) _ _ (by rfl) (by rfl) (B := W3.heap.size) (u := a) (by rfl) (by rfl) ha1 hA ?_
              refine hK7.out _ _ hQ8 (fun hSS6 => ?_)
              clear hQ8 hS8 hS9 hK7
              generalize World.setCell W6 ⟨W3.heap.size, 0, none⟩ a = WB at *
              refine wpAnyH_ready (rs := [9]) (by kernel_rfl) (by simp) (AllReadyH.cons rfl (fun K8 hK8 => ?_) AllReadyH.nil)
              refine step_set1 (by rfl) _ _ (by rfl) (by rfl) (B := W2.heap.size) (u := b) (by rfl) (by rfl) hb1 hB6 ?_
              refine hK8.out _ _ hQ9 (fun hSS7 => ?_)
              clear hQ9 hK8
              generalize World.setCell WB ⟨W2.heap.size, 0, none⟩ b = WC at *
              refine wpAnyH_done (by kernel_rfl) ?_ _
              go_wp2_with fail
              go_meet
              exact hTwo
        · refine step_plain (by rfl) ?_
          simp only [List.getElem_toArray, List.getElem_cons_zero, List.getElem_cons_succ]
          go_simp
          have hbn : Below W1.heap.size W1 (W1.alloc (.cells #[.nilIface] 34)) := (Below.refl _ _).alloc (Nat.le_refl _) _
          have hA := heap_alloc_new W1 (.cells #[.nilIface] 34)
          replace hX := hX.stays hbn
          have hz2 : W1.heap.size < (W1.alloc (.cells #[.nilIface] 34)).heap.size := by simp
          refine hK2.out _ _ (hSS.below hbn) (fun hSS => ?_)
          clear hbn hK2
          generalize W1.alloc (.cells #[.nilIface] 34) = W2 at *
          refine wpAnyH_ready (rs := [2, 7]) (by kernel_rfl) (by simp) (AllReadyH.cons rfl (fun K3 hK3 => ?_) (AllReadyH.cons rfl (fun K3 hK3 => ?_) AllReadyH.nil))
          · refine step_plain (by rfl) ?_
            simp only [List.getElem_toArray, List.getElem_cons_zero, List.getElem_cons_succ]
            go_simp
            go_at_call 11
            refine (T1.out _ _ _ hX).mono ?_
            rintro e W3 ⟨a, rfl, ha1, rX, hbn⟩
            replace hX := hX.stays hbn
            replace hA := (hbn.block _ (Array.getElem?_eq_some_iff.1 hA).1).trans hA
            replace rX := rX.mono (ok' := fun b => W2.heap.size ≤ b ∧ b < W3.heap.size) (fun _ h1 h2 => ⟨h1, h2⟩)
            clear hX
            have hz3 := hbn.size
            go_simp
            refine hK3.out _ _ (hSS.below hbn) (fun hSS => ?_)
            clear hbn hK3
            refine wpAnyH_ready (rs := [4, 7]) (by kernel_rfl) (by simp) (AllReadyH.cons rfl (fun K4 hK4 => ?_) (AllReadyH.cons rfl (fun K4 hK4 => ?_) AllReadyH.nil))
            · refine step_plain (by rfl) ?_
              simp only [List.getElem_toArray, List.getElem_cons_zero, List.getElem_cons_succ]
              go_simp
              go_at_call 9
              refine (C2.out _ hSS.2.2).mono ?_
              rintro e W4 ⟨yp, rfl, hY, hbn⟩
              replace rX := rX.stays hbn
              replace hA := (hbn.block _ (Array.getElem?_eq_some_iff.1 hA).1).trans hA
              have hz4 := hbn.size
              go_simp
              refine hK4.out _ _ (hSS.below hbn) (fun hSS => ?_)
              clear hbn hK4
              refine wpAnyH_ready (rs := [5, 7]) (by kernel_rfl) (by simp) (AllReadyH.cons rfl (fun K5 hK5 => ?_) (AllReadyH.cons rfl (fun K5 hK5 => ?_) AllReadyH.nil))
              · refine step_plain (by rfl) ?_
                simp only [List.getElem_toArray, List.getElem_cons_zero, List.getElem_cons_succ]
                go_simp
                go_at_call 11
                refine (T2.out _ _ _ hY).mono ?_
                rintro e W5 ⟨b, rfl, hb1, rY, hbn⟩
                replace rX := rX.stays hbn
                replace hY := hY.stays hbn
                replace hA := (hbn.block _ (Array.getElem?_eq_some_iff.1 hA).1).trans hA
                replace rY := rY.mono (ok' := fun b => W4.heap.size ≤ b ∧ b < W5.heap.size) (fun _ h1 h2 => ⟨h1, h2⟩)
                clear hY
                have hz5 := hbn.size
                go_simp
                refine hK5.out _ _ (hSS.below hbn) (fun hSS => ?_)
                clear hbn hK5
                refine wpAnyH_ready (rs := [7]) (by kernel_rfl) (by simp) (AllReadyH.cons rfl (fun K6 hK6 => ?_) AllReadyH.nil)
                refine step_plain (by rfl) ?_
                simp only [List.getElem_toArray, List.getElem_cons_zero, List.getElem_cons_succ]
                go_simp
                have hbn : Below W5.heap.size W5 (W5.alloc (.cells #[.nilIface] 34)) := (Below.refl _ _).alloc (Nat.le_refl _) _
                have hB := heap_alloc_new W5 (.cells #[.nilIface] 34)
                replace rX := rX.stays hbn
                replace rY := rY.stays hbn
                replace hA := (hbn.block _ (Array.getElem?_eq_some_iff.1 hA).1).trans hA
                have hz6 : W5.heap.size < (W5.alloc (.cells #[.nilIface] 34)).heap.size := by simp
                refine hK6.out _ _ (hSS.below hbn) (fun hSS => ?_)
                clear hbn hK6
                generalize W5.alloc (.cells #[.nilIface] 34) = W6 at *
                have hTwo := TwoR.mk (A := W1.heap.size) (B := W5.heap.size) hSS.2.2 hA hB rX rY (by omega) (by omega) (by omega) (fun b hb => by omega) (fun b hb => by omega)
                have hS8 : Below w.heap.size w (World.setCell W6 ⟨W1.heap.size, 0, none⟩ a) := hSS.2.2.setCell (p := ⟨W1.heap.size, 0, none⟩) (show _ ≤ W1.heap.size by omega) a
                have hS9 := hS8.setCell (p := ⟨W5.heap.size, 0, none⟩) (show _ ≤ W5.heap.size by omega) b
                have hB6 := (Below.heap_setCell W6 ⟨W1.heap.size, 0, none⟩ a (W5.heap.size) (show W5.heap.size ≠ W1.heap.size by omega)).trans hB
                have hQ8 : BW w (World.setCell W6 ⟨W1.heap.size, 0, none⟩ a) v p u q := ⟨(Below.heap_setCell _ _ _ _ (show w.heap.size ≠ W1.heap.size by omega)).trans hSS.1, (Below.heap_setCell _ _ _ _ (show w.heap.size + 1 ≠ W1.heap.size by omega)).trans hSS.2.1, hS8⟩
                have hQ9 : BW w (World.setCell (World.setCell W6 ⟨W1.heap.size, 0, none⟩ a) ⟨W5.heap.size, 0, none⟩ b) v p u q := ⟨(Below.heap_setCell _ _ _ _ (show w.heap.size ≠ W5.heap.size by omega)).trans hQ8.1, (Below.heap_setCell _ _ _ _ (show w.heap.size + 1 ≠ W5.heap.size by omega)).trans hQ8.2.1, hS9⟩
                refine wpAnyH_ready (rs := [8]) (by kernel_rfl) (by simp) (AllReadyH.cons rfl (fun K7 hK7 => ?_) AllReadyH.nil)
                refine step_set1 (by rfl) _ _ (by rfl) (by rfl) (B := W1.heap.size) (u := a) (by rfl) (by rfl) ha1 hA ?_
                refine hK7.out _ _ hQ8 (fun hSS6 => ?_)
                clear hQ8 hS8 hS9 hK7
                generalize World.setCell W6 ⟨W1.heap.size, 0, none⟩ a = WB at *
                refine wpAnyH_ready (rs := [9]) (by kernel_rfl) (by simp) (AllReadyH.cons rfl (fun K8 hK8 => ?_) AllReadyH.nil)
                refine step_set1 (by rfl) _ _ (by rfl) (by rfl) (B := W5.heap.size) (u := b) (by rfl) (by rfl) hb1 hB6 ?_
                refine hK8.out _ _ hQ9 (fun hSS7 => ?_)
                clear hQ9 hK8
                generalize World.setCell WB ⟨W5.heap.size, 0, none⟩ b = WC at *
                refine wpAnyH_done (by kernel_rfl) ?_ _
                go_wp2_with fail
                go_meet
                exact hTwo
              · refine step_plain (by rfl) ?_
                simp only [List.getElem_toArray, List.getElem_cons_zero, List.getElem_cons_succ]
                go_simp
                have hbn : Below W4.heap.size W4 (W4.alloc (.cells #[.nilIface] 34)) := (Below.refl _ _).alloc (Nat.le_refl _) _
                have hB := heap_alloc_new W4 (.cells #[.nilIface] 34)
                replace rX := rX.stays hbn
                replace hY := hY.stays hbn
                replace hA := (hbn.block _ (Array.getElem?_eq_some_iff.1 hA).1).trans hA
                have hz5 : W4.heap.size < (W4.alloc (.cells #[.nilIface] 34)).heap.size := by simp
                refine hK5.out _ _ (hSS.below hbn) (fun hSS => ?_)
                clear hbn hK5
                generalize W4.alloc (.cells #[.nilIface] 34) = W5 at *
                refine wpAnyH_ready (rs := [5]) (by kernel_rfl) (by simp) (AllReadyH.cons rfl (fun K6 hK6 => ?_) AllReadyH.nil)
                refine step_plain (by rfl) ?_
                simp only [List.getElem_toArray, List.getElem_cons_zero, List.getElem_cons_succ]
                go_simp
                go_at_call 11
                refine (T2.out _ _ _ hY).mono ?_
                rintro e W6 ⟨b, rfl, hb1, rY, hbn⟩
                replace rX := rX.stays hbn
                replace hY := hY.stays hbn
                replace hA := (hbn.block _ (Array.getElem?_eq_some_iff.1 hA).1).trans hA
                replace hB := (hbn.block _ (Array.getElem?_eq_some_iff.1 hB).1).trans hB
                replace rY := rY.mono (ok' := fun b => W5.heap.size ≤ b ∧ b < W6.heap.size) (fun _ h1 h2 => ⟨h1, h2⟩)
                clear hY
                have hz6 := hbn.size
                go_simp
                refine hK6.out _ _ (hSS.below hbn) (fun hSS => ?_)
                clear hbn hK6
                have hTwo := TwoR.mk (A := W1.heap.size) (B := W4.heap.size) hSS.2.2 hA hB rX rY (by omega) (by omega) (by omega) (fun b hb => by omega) (fun b hb => by omega)
                have hS8 : Below w.heap.size w (World.setCell W6 ⟨W1.heap.size, 0, none⟩ a) := hSS.2.2.setCell (p := ⟨W1.heap.size, 0, none⟩) (show _ ≤ W1.heap.size by omega) a
                have hS9 := hS8.setCell (p := ⟨W4.heap.size, 0, none⟩) (show _ ≤ W4.heap.size by omega) b
                have hB6 := (Below.heap_setCell W6 ⟨W1.heap.size, 0, none⟩ a (W4.heap.size) (show W4.heap.size ≠ W1.heap.size by omega)).trans hB
                have hQ8 : BW w (World.setCell W6 ⟨W1.heap.size, 0, none⟩ a) v p u q := ⟨(Below.heap_setCell _ _ _ _ (show w.heap.size ≠ W1.heap.size by omega)).trans hSS.1, (Below.heap_setCell _ _ _ _ (show w.heap.size + 1 ≠ W1.heap.size by omega)).trans hSS.2.1, hS8⟩
                have hQ9 : BW w (World.setCell (World.setCell W6 ⟨W1.heap.size, 0, none⟩ a) ⟨W4.heap.size, 0, none⟩ b) v p u q := ⟨(Below.heap_setCell _ _ _ _ (show w.heap.size ≠ W4.heap.size by omega)).trans hQ8.1, (Below.heap_setCell _ _ _ _ (show w.heap.size + 1 ≠ W4.heap.size by omega)).trans hQ8.2.1, hS9⟩
                refine wpAnyH_ready (rs := [8]) (by kernel_rfl) (by simp) (AllReadyH.cons rfl (fun K7 hK7 => ?_) AllReadyH.nil)
                refine step_set1 (by rfl) _ _ (by rfl) (by rfl) (B := W1.heap.size) (u := a) (by rfl) (by rfl) ha1 hA ?_
                refine hK7.out _ _ hQ8 (fun hSS6 => ?_)
                clear hQ8 hS8 hS9 hK7
                generalize World.setCell W6 ⟨W1.heap.size, 0, none⟩ a = WB at *
                refine wpAnyH_ready (rs := [9]) (by kernel_rfl) (by simp) (AllReadyH.cons rfl (fun K8 hK8 => ?_) AllReadyH.nil)
                refine step_set1 (by rfl) _ _ (by rfl) (by rfl) (B := W4.heap.size) (u := b) (by rfl) (by rfl) hb1 hB6 ?_
                refine hK8.out _ _ hQ9 (fun hSS7 => ?_)
                clear hQ9 hK8
                generalize World.setCell WB ⟨W4.heap.size, 0, none⟩ b = WC at *
                refine wpAnyH_done (by kernel_rfl) ?_ _
                go_wp2_with fail
                go_meet
                exact hTwo
            · refine step_plain (by rfl) ?_
              simp only [List.getElem_toArray, List.getElem_cons_zero, List.getElem_cons_succ]
              go_simp
              have hbn : Below W3.heap.size W3 (W3.alloc (.cells #[.nilIface] 34)) := (Below.refl _ _).alloc (Nat.le_refl _) _
              have hB := heap_alloc_new W3 (.cells #[.nilIface] 34)
              replace rX := rX.stays hbn
              replace hA := (hbn.block _ (Array.getElem?_eq_some_iff.1 hA).1).trans hA
              have hz4 : W3.heap.size < (W3.alloc (.cells #[.nilIface] 34)).heap.size := by simp
              refine hK4.out _ _ (hSS.below hbn) (fun hSS => ?_)
              clear hbn hK4
              generalize W3.alloc (.cells #[.nilIface] 34) = W4 at *
              refine wpAnyH_ready (rs := [4]) (by kernel_rfl) (by simp) (AllReadyH.cons rfl (fun K5 hK5 => ?_) AllReadyH.nil)
              refine step_plain (by rfl) ?_
              simp only [List.getElem_toArray, List.getElem_cons_zero, List.getElem_cons_succ]
              go_simp
              go_at_call 9
              refine (C2.out _ hSS.2.2).mono ?_
              rintro e W5 ⟨yp, rfl, hY, hbn⟩
              replace rX := rX.stays hbn
              replace hA := (hbn.block _ (Array.getElem?_eq_some_iff.1 hA).1).trans hA
              replace hB := (hbn.block _ (Array.getElem?_eq_some_iff.1 hB).1).trans hB
              have hz5 := hbn.size
              go_simp
              refine hK5.out _ _ (hSS.below hbn) (fun hSS => ?_)
              clear hbn hK5
              refine wpAnyH_ready (rs := [5]) (by kernel_rfl) (by simp) (AllReadyH.cons rfl (fun K6 hK6 => ?_) AllReadyH.nil)
              refine step_plain (by rfl) ?_
              simp only [List.getElem_toArray, List.getElem_cons_zero, List.getElem_cons_succ]
              go_simp
              go_at_call 11
              refine (T2.out _ _ _ hY).mono ?_
              rintro e W6 ⟨b, rfl, hb1, rY, hbn⟩
              replace rX := rX.stays hbn
              replace hY := hY.stays hbn
              replace hA := (hbn.block _ (Array.getElem?_eq_some_iff.1 hA).1).trans hA
              replace hB := (hbn.block _ (Array.getElem?_eq_some_iff.1 hB).1).trans hB
              replace rY := rY.mono (ok' := fun b => W5.heap.size ≤ b ∧ b < W6.heap.size) (fun _ h1 h2 => ⟨h1, h2⟩)
              clear hY
              have hz6 := hbn.size
              go_simp
              refine hK6.out _ _ (hSS.below hbn) (fun hSS => ?_)
              clear hbn hK6
              have hTwo := TwoR.mk (A := W1.heap.size) (B := W3.heap.size) hSS.2.2 hA hB rX rY (by omega) (by omega) (by omega) (fun b hb => by omega) (fun b hb => by omega)
              have hS8 : Below w.heap.size w (World.setCell W6 ⟨W1.heap.size, 0, none⟩ a) := hSS.2.2.setCell (p := ⟨W1.heap.size, 0, none⟩) (show _ ≤ W1.heap.size by omega) a
              have hS9 := hS8.setCell (p := ⟨W3.heap.size, 0, none⟩) (show _ ≤ W3.heap.size by omega) b
              have hB6 := (Below.heap_setCell W6 ⟨W1.heap.size, 0, none⟩ a (W3.heap.size) (show W3.heap.size ≠ W1.heap.size by omega)).trans hB
              have hQ8 : BW w (World.setCell W6 ⟨W1.heap.size, 0, none⟩ a) v p u q := ⟨(Below.heap_setCell _ _ _ _ (show w.heap.size ≠ W1.heap.size by omega)).trans hSS.1, (Below.heap_setCell _ _ _ _ (show w.heap.size + 1 ≠ W1.heap.size by omega)).trans hSS.2.1, hS8⟩
              have hQ9 : BW w (World.setCell (World.setCell W6 ⟨W1.heap.size, 0, none⟩ a) ⟨W3.heap.size, 0, none⟩ b) v p u q := ⟨(Below.heap_setCell _ _ _ _ (show w.heap.size ≠ W3.heap.size by omega)).trans hQ8.1, (Below.heap_setCell _ _ _ _ (show w.heap.size + 1 ≠ W3.heap.size by omega)).trans hQ8.2.1, hS9⟩
              refine wpAnyH_ready (rs := [8]) (by kernel_rfl) (by simp) (AllReadyH.cons rfl (fun K7 hK7 => ?_) AllReadyH.nil)
              refine step_set1 (by rfl) _ _ (by rfl) (by rfl) (B := W1.heap.size) (u := a) (by rfl) (by rfl) ha1 hA ?_
              refine hK7.out _ _ hQ8 (fun hSS6 => ?_)
              clear hQ8 hS8 hS9 hK7
              generalize World.setCell W6 ⟨W1.heap.size, 0, none⟩ a = WB at *
              refine wpAnyH_ready (rs := [9]) (by kernel_rfl) (by simp) (AllReadyH.cons rfl (fun K8 hK8 => ?_) AllReadyH.nil)
              refine step_set1 (by rfl) _ _ (by rfl) (by rfl) (B := W3.heap.size) (u := b) (by rfl) (by rfl) hb1 hB6 ?_
              refine hK8.out _ _ hQ9 (fun hSS7 => ?_)
              clear hQ9 hK8
              generalize World.setCell WB ⟨W3.heap.size, 0, none⟩ b = WC at *
              refine wpAnyH_done (by kernel_rfl) ?_ _
              go_wp2_with fail
              go_meet
              exact hTwo
          · refine step_plain (by rfl) ?_
            simp only [List.getElem_toArray, List.getElem_cons_zero, List.getElem_cons_succ]
            go_simp
            have hbn : Below W2.heap.size W2 (W2.alloc (.cells #[.nilIface] 34)) := (Below.refl _ _).alloc (Nat.le_refl _) _
            have hB := heap_alloc_new W2 (.cells #[.nilIface] 34)
            replace hX := hX.stays hbn
            replace hA := (hbn.block _ (Array.getElem?_eq_some_iff.1 hA).1).trans hA
            have hz3 : W2.heap.size < (W2.alloc (.cells #[.nilIface] 34)).heap.size := by simp
            refine hK3.out _ _ (hSS.below hbn) (fun hSS => ?_)
            clear hbn hK3
            generalize W2.alloc (.cells #[.nilIface] 34) = W3 at *
            refine wpAnyH_ready (rs := [2]) (by kernel_rfl) (by simp) (AllReadyH.cons rfl (fun K4 hK4 => ?_) AllReadyH.nil)
            refine step_plain (by rfl) ?_
            simp only [List.getElem_toArray, List.getElem_cons_zero, List.getElem_cons_succ]
            go_simp
            go_at_call 11
            refine (T1.out _ _ _ hX).mono ?_
            rintro e W4 ⟨a, rfl, ha1, rX, hbn⟩
            replace hX := hX.stays hbn
            replace hA := (hbn.block _ (Array.getElem?_eq_some_iff.1 hA).1).trans hA
            replace hB := (hbn.block _ (Array.getElem?_eq_some_iff.1 hB).1).trans hB
            replace rX := rX.mono (ok' := fun b => W3.heap.size ≤ b ∧ b < W4.heap.size) (fun _ h1 h2 => ⟨h1, h2⟩)
            clear hX
            have hz4 := hbn.size
            go_simp
            refine hK4.out _ _ (hSS.below hbn) (fun hSS => ?_)
            clear hbn hK4
            refine wpAnyH_ready (rs := [4]) (by kernel_rfl) (by simp) (AllReadyH.cons rfl (fun K5 hK5 => ?_) AllReadyH.nil)
            refine step_plain (by rfl) ?_
            simp only [List.getElem_toArray, List.getElem_cons_zero, List.getElem_cons_succ]
            go_simp
            go_at_call 9
            refine (C2.out _ hSS.2.2).mono ?_
            rintro e W5 ⟨yp, rfl, hY, hbn⟩
            replace rX := rX.stays hbn
            replace hA := (hbn.block _ (Array.getElem?_eq_some_iff.1 hA).1).trans hA
            replace hB := (hbn.block _ (Array.getElem?_eq_some_iff.1 hB).1).trans hB
            have hz5 := hbn.size
            go_simp
            refine hK5.out _ _ (hSS.below hbn) (fun hSS => ?_)
            clear hbn hK5
            refine wpAnyH_ready (rs := [5]) (by kernel_rfl) (by simp) (AllReadyH.cons rfl (fun K6 hK6 => ?_) AllReadyH.nil)
            refine step_plain (by rfl) ?_
            simp only [List.getElem_toArray, List.getElem_cons_zero, List.getElem_cons_succ]
            go_simp
            go_at_call 11
            refine (T2.out _ _ _ hY).mono ?_
            rintro e W6 ⟨b, rfl, hb1, rY, hbn⟩
            replace rX := rX.stays hbn
            replace hY := hY.stays hbn
            replace hA := (hbn.block _ (Array.getElem?_eq_some_iff.1 hA).1).trans hA
            replace hB := (hbn.block _ (Array.getElem?_eq_some_iff.1 hB).1).trans hB
            replace rY := rY.mono (ok' := fun b => W5.heap.size ≤ b ∧ b < W6.heap.size) (fun _ h1 h2 => ⟨h1, h2⟩)
            clear hY
            have hz6 := hbn.size
            go_simp
            refine hK6.out _ _ (hSS.below hbn) (fun hSS => ?_)
            clear hbn hK6
            have hTwo := TwoR.mk (A := W1.heap.size) (B := W2.heap.size) hSS.2.2 hA hB rX rY (by omega) (by omega) (by omega) (fun b hb => by omega) (fun b hb => by omega)
            have hS8 : Below w.heap.size w (World.setCell W6 ⟨W1.heap.size, 0, none⟩ a) := hSS.2.2.setCell (p := ⟨W1.heap.size, 0, none⟩) (show _ ≤ W1.heap.size by omega) a
            have hS9 := hS8.setCell (p := ⟨W2.heap.size, 0, none⟩) (show _ ≤ W2.heap.size by omega) b
            have hB6 := (Below.heap_setCell W6 ⟨W1.heap.size, 0, none⟩ a (W2.heap.size) (show W2.heap.size ≠ W1.heap.size by omega)).trans hB
            have hQ8 : BW w (World.setCell W6 ⟨W1.heap.size, 0, none⟩ a) v p u q := ⟨(Below.heap_setCell _ _ _ _ (show w.heap.size ≠ W1.heap.size by omega)).trans hSS.1, (Below.heap_setCell _ _ _ _ (show w.heap.size + 1 ≠ W1.heap.size by omega)).trans hSS.2.1, hS8⟩
            have hQ9 : BW w (World.setCell (World.setCell W6 ⟨W1.heap.size, 0, none⟩ a) ⟨W2.heap.size, 0, none⟩ b) v p u q := ⟨(Below.heap_setCell _ _ _ _ (show w.heap.size ≠ W2.heap.size by omega)).trans hQ8.1, (Below.heap_setCell _ _ _ _ (show w.heap.size + 1 ≠ W2.heap.size by omega)).trans hQ8.2.1, hS9⟩
            refine wpAnyH_ready (rs := [8]) (by kernel_rfl) (by simp) (AllReadyH.cons rfl (fun K7 hK7 => ?_) AllReadyH.nil)
            refine step_set1 (by rfl) _ _ (by rfl) (by rfl) (B := W1.heap.size) (u := a) (by rfl) (by rfl) ha1 hA ?_
            refine hK7.out _ _ hQ8 (fun hSS6 => ?_)
            clear hQ8 hS8 hS9 hK7
            generalize World.setCell W6 ⟨W1.heap.size, 0, none⟩ a = WB at *
            refine wpAnyH_ready (rs := [9]) (by kernel_rfl) (by simp) (AllReadyH.cons rfl (fun K8 hK8 => ?_) AllReadyH.nil)
            refine step_set1 (by rfl) _ _ (by rfl) (by rfl) (B := W2.heap.size) (u := b) (by rfl) (by rfl) hb1 hB6 ?_
            refine hK8.out _ _ hQ9 (fun hSS7 => ?_)
            clear hQ9 hK8
            generalize World.setCell WB ⟨W2.heap.size, 0, none⟩ b = WC at *
            refine wpAnyH_done (by kernel_rfl) ?_ _
            go_wp2_with fail
            go_meet
            exact hTwo
        · refine step_plain (by rfl) ?_
          simp only [List.getElem_toArray, List.getElem_cons_zero, List.getElem_cons_succ]
          go_simp
          have hbn : Below W1.heap.size W1 (W1.alloc (.cells #[.nilIface] 34)) := (Below.refl _ _).alloc (Nat.le_refl _) _
          have hB := heap_alloc_new W1 (.cells #[.nilIface] 34)
          replace hX := hX.stays hbn
          have hz2 : W1.heap.size < (W1.alloc (.cells #[.nilIface] 34)).heap.size := by simp
          refine hK2.out _ _ (hSS.below hbn) (fun hSS => ?_)
          clear hbn hK2
          generalize W1.alloc (.cells #[.nilIface] 34) = W2 at *
          refine wpAnyH_ready (rs := [2, 6]) (by kernel_rfl) (by simp) (AllReadyH.cons rfl (fun K3 hK3 => ?_) (AllReadyH.cons rfl (fun K3 hK3 => ?_) AllReadyH.nil))
          · refine step_plain (by rfl) ?_
            simp only [List.getElem_toArray, List.getElem_cons_zero, List.getElem_cons_succ]
            go_simp
            go_at_call 11
            refine (T1.out _ _ _ hX).mono ?_
            rintro e W3 ⟨a, rfl, ha1, rX, hbn⟩
            replace hX := hX.stays hbn
            replace hB := (hbn.block _ (Array.getElem?_eq_some_iff.1 hB).1).trans hB
            replace rX := rX.mono (ok' := fun b => W2.heap.size ≤ b ∧ b < W3.heap.size) (fun _ h1 h2 => ⟨h1, h2⟩)
            clear hX
            have hz3 := hbn.size
            go_simp
            refine hK3.out _ _ (hSS.below hbn) (fun hSS => ?_)
            clear hbn hK3
            refine wpAnyH_ready (rs := [4, 6]) (by kernel_rfl) (by simp) (AllReadyH.cons rfl (fun K4 hK4 => ?_) (AllReadyH.cons rfl (fun K4 hK4 => ?_) AllReadyH.nil))
            · refine step_plain (by rfl) ?_
              simp only [List.getElem_toArray, List.getElem_cons_zero, List.getElem_cons_succ]
              go_simp
              go_at_call 9
              refine (C2.out _ hSS.2.2).mono ?_
              rintro e W4 ⟨yp, rfl, hY, hbn⟩
              replace rX := rX.stays hbn
              replace hB := (hbn.block _ (Array.getElem?_eq_some_iff.1 hB).1).trans hB
              have hz4 := hbn.size
              go_simp
              refine hK4.out _ _ (hSS.below hbn) (fun hSS => ?_)
              clear hbn hK4
              refine wpAnyH_ready (rs := [5, 6]) (by kernel_rfl) (by simp) (AllReadyH.cons rfl (fun K5 hK5 => ?_) (AllReadyH.cons rfl (fun K5 hK5 => ?_) AllReadyH.nil))
              · refine step_plain (by rfl) ?_
                simp only [List.getElem_toArray, List.getElem_cons_zero, List.getElem_cons_succ]
                go_simp
                go_at_call 11
                refine (T2.out _ _ _ hY).mono ?_
                rintro e W5 ⟨b, rfl, hb1, rY, hbn⟩
                replace rX := rX.stays hbn
                replace hY := hY.stays hbn
                replace hB := (hbn.block _ (Array.getElem?_eq_some_iff.1 hB).1).trans hB
                replace rY := rY.mono (ok' := fun b => W4.heap.size ≤ b ∧ b < W5.heap.size) (fun _ h1 h2 => ⟨h1, h2⟩)
                clear hY
                have hz5 := hbn.size
                go_simp
                refine hK5.out _ _ (hSS.below hbn) (fun hSS => ?_)
                clear hbn hK5
                refine wpAnyH_ready (rs := [6]) (by kernel_rfl) (by simp) (AllReadyH.cons rfl (fun K6 hK6 => ?_) AllReadyH.nil)
                refine step_plain (by rfl) ?_
                simp only [List.getElem_toArray, List.getElem_cons_zero, List.getElem_cons_succ]
                go_simp
                have hbn : Below W5.heap.size W5 (W5.alloc (.cells #[.nilIface] 34)) := (Below.refl _ _).alloc (Nat.le_refl _) _
                have hA := heap_alloc_new W5 (.cells #[.nilIface] 34)
                replace rX := rX.stays hbn
                replace rY := rY.stays hbn
                replace hB := (hbn.block _ (Array.getElem?_eq_some_iff.1 hB).1).trans hB
                have hz6 : W5.heap.size < (W5.alloc (.cells #[.nilIface] 34)).heap.size := by simp
                refine hK6.out _ _ (hSS.below hbn) (fun hSS => ?_)
                clear hbn hK6
                generalize W5.alloc (.cells #[.nilIface] 34) = W6 at *
                have hTwo := TwoR.mk (A := W5.heap.size) (B := W1.heap.size) hSS.2.2 hA hB rX rY (by omega) (by omega) (by omega) (fun b hb => by omega) (fun b hb => by omega)
                have hS8 : Below w.heap.size w (World.setCell W6 ⟨W5.heap.size, 0, none⟩ a) := hSS.2.2.setCell (p := ⟨W5.heap.size, 0, none⟩) (show _ ≤ W5.heap.size by omega) a
                have hS9 := hS8.setCell (p := ⟨W1.heap.size, 0, none⟩) (show _ ≤ W1.heap.size by omega) b
                have hB6 := (Below.heap_setCell W6 ⟨W5.heap.size, 0, none⟩ a (W1.heap.size) (show W1.heap.size ≠ W5.heap.size by omega)).trans hB
                have hQ8 : BW w (World.setCell W6 ⟨W5.heap.size, 0, none⟩ a) v p u q := ⟨(Below.heap_setCell _ _ _ _ (show w.heap.size ≠ W5.heap.size by omega)).trans hSS.1, (Below.heap_setCell _ _ _ _ (show w.heap.size + 1 ≠ W5.heap.size by omega)).trans hSS.2.1, hS8⟩
                have hQ9 : BW w (World.setCell (World.setCell W6 ⟨W5.heap.size, 0, none⟩ a) ⟨W1.heap.size, 0, none⟩ b) v p u q := ⟨(Below.heap_setCell _ _ _ _ (show w.heap.size ≠ W1.heap.size by omega)).trans hQ8.1, (Below.heap_setCell _ _ _ _ (show w.heap.size + 1 ≠ W1.heap.size by omega)).trans hQ8.2.1, hS9⟩
                refine wpAnyH_ready (rs := [8]) (by kernel_rfl) (by simp) (AllReadyH.cons rfl (fun K7 hK7 => ?_) AllReadyH.nil)
                refine step_set1 (by rfl) _ _ (by rfl) (by rfl) (B := W5.heap.size) (u := a) (by rfl) (by rfl) ha1 hA ?_
                refine hK7.out _ _ hQ8 (fun hSS6 => ?_)
                clear hQ8 hS8 hS9 hK7
                generalize World.setCell W6 ⟨W5.heap.size, 0, none⟩ a = WB at *
                refine wpAnyH_ready (rs := [9]) (by kernel_rfl) (by simp) (AllReadyH.cons rfl (fun K8 hK8 => ?_) AllReadyH.nil)
                refine step_set1 (by rfl) _ _ (by rfl) (by rfl) (B := W1.heap.size) (u := b) (by rfl) (by rfl) hb1 hB6 ?_
                refine hK8.out _ _ hQ9 (fun hSS7 => ?_)
                clear hQ9 hK8
                generalize World.setCell WB ⟨W1.heap.size, 0, none⟩ b = WC at *
                refine wpAnyH_done (by kernel_rfl) ?_ _
                go_wp2_with fail
                go_meet
                exact hTwo
              · refine step_plain (by rfl) ?_
                simp only [List.getElem_toArray, List.getElem_cons_zero, List.getElem_cons_succ]
                go_simp
                have hbn : Below W4.heap.size W4 (W4.alloc (.cells #[.nilIface] 34)) := (Below.refl _ _).alloc (Nat.le_refl _) _
                have hA := heap_alloc_new W4 (.cells #[.nilIface] 34)
                replace rX := rX.stays hbn
                replace hY := hY.stays hbn
                replace hB := (hbn.block _ (Array.getElem?_eq_some_iff.1 hB).1).trans hB
                have hz5 : W4.heap.size < (W4.alloc (.cells #[.nilIface] 34)).heap.size := by simp
                refine hK5.out _ _ (hSS.below hbn) (fun hSS => ?_)
                clear hbn hK5
                generalize W4.alloc (.cells #[.nilIface] 34) = W5 at *
                refine wpAnyH_ready (rs := [5]) (by kernel_rfl) (by simp) (AllReadyH.cons rfl (fun K6 hK6 => ?_) AllReadyH.nil)
                refine step_plain (by rfl) ?_
                simp only [List.getElem_toArray, List.getElem_cons_zero, List.getElem_cons_succ]
                go_simp
                go_at_call 11
                refine (T2.out _ _ _ hY).mono ?_
                rintro e W6 ⟨b, rfl, hb1, rY, hbn⟩
                replace rX := rX.stays hbn
                replace hY := hY.stays hbn
                replace hA := (hbn.block _ (Array.getElem?_eq_some_iff.1 hA).1).trans hA
                replace hB := (hbn.block _ (Array.getElem?_eq_some_iff.1 hB).1).trans hB
                replace rY := rY.mono (ok' := fun b => W5.heap.size ≤ b ∧ b < W6.heap.size) (fun _ h1 h2 => ⟨h1, h2⟩)
                clear hY
                have hz6 := hbn.size
                go_simp
                refine hK6.out _ _ (hSS.below hbn) (fun hSS => ?_)
                clear hbn hK6
                have hTwo := TwoR.mk (A := W4.heap.size) (B := W1.heap.size) hSS.2.2 hA hB rX rY (by omega) (by omega) (by omega) (fun b hb => by omega) (fun b hb => by omega)
                have hS8 : Below w.heap.size w (World.setCell W6 ⟨W4.heap.size, 0, none⟩ a) := hSS.2.2.setCell (p := ⟨W4.heap.size, 0, none⟩) (show _ ≤ W4.heap.size by omega) a
                have hS9 := hS8.setCell (p := ⟨W1.heap.size, 0, none⟩) (show _ ≤ W1.heap.size by omega) b
                have hB6 := (Below.heap_setCell W6 ⟨W4.heap.size, 0, none⟩ a (W1.heap.size) (show W1.heap.size ≠ W4.heap.size by omega)).trans hB
                have hQ8 : BW w (World.setCell W6 ⟨W4.heap.size, 0, none⟩ a) v p u q := ⟨(Below.heap_setCell _ _ _ _ (show w.heap.size ≠ W4.heap.size by omega)).trans hSS.1, (Below.heap_setCell _ _ _ _ (show w.heap.size + 1 ≠ W4.heap.size by omega)).trans hSS.2.1, hS8⟩
                have hQ9 : BW w (World.setCell (World.setCell W6 ⟨W4.heap.size, 0, none⟩ a) ⟨W1.heap.size, 0, none⟩ b) v p u q := ⟨(Below.heap_setCell _ _ _ _ (show w.heap.size ≠ W1.heap.size by omega)).trans hQ8.1, (Below.heap_setCell _ _ _ _ (show w.heap.size + 1 ≠ W1.heap.size by omega)).trans hQ8.2.1, hS9⟩
                refine wpAnyH_ready (rs := [8]) (by kernel_rfl) (by simp) (AllReadyH.cons rfl (fun K7 hK7 => ?_) AllReadyH.nil)
                refine step_set1 (by rfl) _ _ (by rfl) (by rfl) (B := W4.heap.size) (u := a) (by rfl) (by rfl) ha1 hA ?_
                refine hK7.out _ _ hQ8 (fun hSS6 => ?_)
                clear hQ8 hS8 hS9 hK7
                generalize World.setCell W6 ⟨W4.heap.size, 0, none⟩ a = WB at *
                refine wpAnyH_ready (rs := [9]) (by kernel_rfl) (by simp) (AllReadyH.cons rfl (fun K8 hK8 => ?_) AllReadyH.nil)
                refine step_set1 (by rfl) _ _ (by rfl) (by rfl) (B := W1.heap.size) (u := b) (by rfl) (by rfl) hb1 hB6 ?_
                refine hK8.out _ _ hQ9 (fun hSS7 => ?_)
                clear hQ9 hK8
                generalize World.setCell WB ⟨W1.heap.size, 0, none⟩ b = WC at *
                refine wpAnyH_done (by kernel_rfl) ?_ _
                go_wp2_with fail
                go_meet
                exact hTwo
            · refine step_plain (by rfl) ?_
              simp only [List.getElem_toArray, List.getElem_cons_zero, List.getElem_cons_succ]
              go_simp
              have hbn : Below W3.heap.size W3 (W3.alloc (.cells #[.nilIface] 34)) := (Below.refl _ _).alloc (Nat.le_refl _) _
              have hA := heap_alloc_new W3 (.cells #[.nilIface] 34)
              replace rX := rX.stays hbn
              replace hB := (hbn.block _ (Array.getElem?_eq_some_iff.1 hB).1).trans hB
              have hz4 : W3.heap.size < (W3.alloc (.cells #[.nilIface] 34)).heap.size := by simp
              refine hK4.out _ _ (hSS.below hbn) (fun hSS => ?_)
              clear hbn hK4
              generalize W3.alloc (.cells #[.nilIface] 34) = W4 at *
              refine wpAnyH_ready (rs := [4]) (by kernel_rfl) (by simp) (AllReadyH.cons rfl (fun K5 hK5 => ?_) AllReadyH.nil)
              refine step_plain (by rfl) ?_
              simp only [List.getElem_toArray, List.getElem_cons_zero, List.getElem_cons_succ]
              go_simp
              go_at_call 9
              refine (C2.out _ hSS.2.2).mono ?_
              rintro e W5 ⟨yp, rfl, hY, hbn⟩
              replace rX := rX.stays hbn
              replace hA := (hbn.block _ (Array.getElem?_eq_some_iff.1 hA).1).trans hA
              replace hB := (hbn.block _ (Array.getElem?_eq_some_iff.1 hB).1).trans hB
              have hz5 := hbn.size
              go_simp
              refine hK5.out _ _ (hSS.below hbn) (fun hSS => ?_)
              clear hbn hK5
              refine wpAnyH_ready (rs := [5]) (by kernel_rfl) (by simp) (AllReadyH.cons rfl (fun K6 hK6 => ?_) AllReadyH.nil)
              refine step_plain (by rfl) ?_
              simp only [List.getElem_toArray, List.getElem_cons_zero, List.getElem_cons_succ]
              go_simp
              go_at_call 11
              refine (T2.out _ _ _ hY).mono ?_
              rintro e W6 ⟨b, rfl, hb1, rY, hbn⟩
              replace rX := rX.stays hbn
              replace hY := hY.stays hbn
              replace hA := (hbn.block _ (Array.getElem?_eq_some_iff.1 hA).1).trans hA
              replace hB := (hbn.block _ (Array.getElem?_eq_some_iff.1 hB).1).trans hB
              replace rY := rY.mono (ok' := fun b => W5.heap.size ≤ b ∧ b < W6.heap.size) (fun _ h1 h2 => ⟨h1, h2⟩)
              clear hY
              have hz6 := hbn.size
              go_simp
              refine hK6.out _ _ (hSS.below hbn) (fun hSS => ?_)
              clear hbn hK6
              have hTwo := TwoR.mk (A := W3.heap.size) (B := W1.heap.size) hSS.2.2 hA hB rX rY (by omega) (by omega) (by omega) (fun b hb => by omega) (fun b hb => by omega)
              have hS8 : Below w.heap.size w (World.setCell W6 ⟨W3.heap.size, 0, none⟩ a) := hSS.2.2.setCell (p := ⟨W3.heap.size, 0, none⟩) (show _ ≤ W3.heap.size by omega) a
              have hS9 := hS8.setCell (p := ⟨W1.heap.size, 0, none⟩) (show _ ≤ W1.heap.size by omega) b
              have hB6 := (Below.heap_setCell W6 ⟨W3.heap.size, 0, none⟩ a (W1.heap.size) (show W1.heap.size ≠ W3.heap.size by omega)).trans hB
              have hQ8 : BW w (World.setCell W6 ⟨W3.heap.size, 0, none⟩ a) v p u q := ⟨(Below.heap_setCell _ _ _ _ (show w.heap.size ≠ W3.heap.size by omega)).trans hSS.1, (Below.heap_setCell _ _ _ _ (show w.heap.size + 1 ≠ W3.heap.size by omega)).trans hSS.2.1, hS8⟩
              have hQ9 : BW w (World.setCell (World.setCell W6 ⟨W3.heap.size, 0, none⟩ a) ⟨W1.heap.size, 0, none⟩ b) v p u q := ⟨(Below.heap_setCell _ _ _ _ (show w.heap.size ≠ W1.heap.size by omega)).trans hQ8.1, (Below.heap_setCell _ _ _ _ (show w.heap.size + 1 ≠ W1.heap.size by omega)).trans hQ8.2.1, hS9⟩
              refine wpAnyH_ready (rs := [8]) (by kernel_rfl) (by simp) (AllReadyH.cons rfl (fun K7 hK7 => ?_) AllReadyH.nil)
              refine step_set1 (by rfl) _ _ (by rfl) (by rfl) (B := W3.heap.size) (u := a) (by rfl) (by rfl) ha1 hA ?_
              refine hK7.out _ _ hQ8 (fun hSS6 => ?_)
              clear hQ8 hS8 hS9 hK7
              generalize World.setCell W6 ⟨W3.heap.size, 0, none⟩ a = WB at *
              refine wpAnyH_ready (rs := [9]) (by kernel_rfl) (by simp) (AllReadyH.cons rfl (fun K8 hK8 => ?_) AllReadyH.nil)
              refine step_set1 (by rfl) _ _ (by rfl) (by rfl) (B := W1.heap.size) (u := b) (by rfl) (by rfl) hb1 hB6 ?_
              refine hK8.out _ _ hQ9 (fun hSS7 => ?_)
              clear hQ9 hK8
              generalize World.setCell WB ⟨W1.heap.size, 0, none⟩ b = WC at *
              refine wpAnyH_done (by kernel_rfl) ?_ _
              go_wp2_with fail
              go_meet
              exact hTwo
          · refine step_plain (by rfl) ?_
            simp only [List.getElem_toArray, List.getElem_cons_zero, List.getElem_cons_succ]
            go_simp
            have hbn : Below W2.heap.size W2 (W2.alloc (.cells #[.nilIface] 34)) := (Below.refl _ _).alloc (Nat.le_refl _) _
            have hA := heap_alloc_new W2 (.cells #[.nilIface] 34)
            replace hX := hX.stays hbn
            replace hB := (hbn.block _ (Array.getElem?_eq_some_iff.1 hB).1).trans hB
            have hz3 : W2.heap.size < (W2.alloc (.cells #[.nilIface] 34)).heap.size := by simp
            refine hK3.out _ _ (hSS.below hbn) (fun hSS => ?_)
            clear hbn hK3
            generalize W2.alloc (.cells #[.nilIface] 34) = W3 at *
            refine wpAnyH_ready (rs := [2]) (by kernel_rfl) (by simp) (AllReadyH.cons rfl (fun K4 hK4 => ?_) AllReadyH.nil)
            refine step_plain (by rfl) ?_
            simp only [List.getElem_toArray, List.getElem_cons_zero, List.getElem_cons_succ]
            go_simp
            go_at_call 11
            refine (T1.out _ _ _ hX).mono ?_
            rintro e W4 ⟨a, rfl, ha1, rX, hbn⟩
            replace hX := hX.stays hbn
            replace hA := (hbn.block _ (Array.getElem?_eq_some_iff.1 hA).1).trans hA
            replace hB := (hbn.block _ (Array.getElem?_eq_some_iff.1 hB).1).trans hB
            replace rX := rX.mono (ok' := fun b => W3.heap.size ≤ b ∧ b < W4.heap.size) (fun _ h1 h2 => ⟨h1, h2⟩)
            clear hX
            have hz4 := hbn.size
            go_simp
            refine hK4.out _ _ (hSS.below hbn) (fun hSS => ?_)
            clear hbn hK4
            refine wpAnyH_ready (rs := [4]) (by kernel_rfl) (by simp) (AllReadyH.cons rfl (fun K5 hK5 => ?_) AllReadyH.nil)
            refine step_plain (by rfl) ?_
            simp only [List.getElem_toArray, List.getElem_cons_zero, List.getElem_cons_succ]
            go_simp
            go_at_call 9
            refine (C2.out _ hSS.2.2).mono ?_
            rintro e W5 ⟨yp, rfl, hY, hbn⟩
            replace rX := rX.stays hbn
            replace hA := (hbn.block _ (Array.getElem?_eq_some_iff.1 hA).1).trans hA
            replace hB := (hbn.block _ (Array.getElem?_eq_some_iff.1 hB).1).trans hB
            have hz5 := hbn.size
            go_simp
            refine hK5.out _ _ (hSS.below hbn) (fun hSS => ?_)
            clear hbn hK5
            refine wpAnyH_ready (rs := [5]) (by kernel_rfl) (by simp) (AllReadyH.cons rfl (fun K6 hK6 => ?_) AllReadyH.nil)
            refine step_plain (by rfl) ?_
            simp only [List.getElem_toArray, List.getElem_cons_zero, List.getElem_cons_succ]
            go_simp
            go_at_call 11
            refine (T2.out _ _ _ hY).mono ?_
            rintro e W6 ⟨b, rfl, hb1, rY, hbn⟩
            replace rX := rX.stays hbn
            replace hY := hY.stays hbn
            replace hA := (hbn.block _ (Array.getElem?_eq_some_iff.1 hA).1).trans hA
            replace hB := (hbn.block _ (Array.getElem?_eq_some_iff.1 hB).1).trans hB
            replace rY := rY.mono (ok' := fun b => W5.heap.size ≤ b ∧ b < W6.heap.size) (fun _ h1 h2 => ⟨h1, h2⟩)
            clear hY
            have hz6 := hbn.size
            go_simp
            refine hK6.out _ _ (hSS.below hbn) (fun hSS => ?_)
            clear hbn hK6
            have hTwo := TwoR.mk (A := W2.heap.size) (B := W1.heap.size) hSS.2.2 hA hB rX rY (by omega) (by omega) (by omega) (fun b hb => by omega) (fun b hb => by omega)
            have hS8 : Below w.heap.size w (World.setCell W6 ⟨W2.heap.size, 0, none⟩ a) := hSS.2.2.setCell (p := ⟨W2.heap.size, 0, none⟩) (show _ ≤ W2.heap.size by omega) a
            have hS9 := hS8.setCell (p := ⟨W1.heap.size, 0, none⟩) (show _ ≤ W1.heap.size by omega) b
            have hB6 := (Below.heap_setCell W6 ⟨W2.heap.size, 0, none⟩ a (W1.heap.size) (show W1.heap.size ≠ W2.heap.size by omega)).trans hB
            have hQ8 : BW w (World.setCell W6 ⟨W2.heap.size, 0, none⟩ a) v p u q := ⟨(Below.heap_setCell _ _ _ _ (show w.heap.size ≠ W2.heap.size by omega)).trans hSS.1, (Below.heap_setCell _ _ _ _ (show w.heap.size + 1 ≠ W2.heap.size by omega)).trans hSS.2.1, hS8⟩
            have hQ9 : BW w (World.setCell (World.setCell W6 ⟨W2.heap.size, 0, none⟩ a) ⟨W1.heap.size, 0, none⟩ b) v p u q := ⟨(Below.heap_setCell _ _ _ _ (show w.heap.size ≠ W1.heap.size by omega)).trans hQ8.1, (Below.heap_setCell _ _ _ _ (show w.heap.size + 1 ≠ W1.heap.size by omega)).trans hQ8.2.1, hS9⟩
            refine wpAnyH_ready (rs := [8]) (by kernel_rfl) (by simp) (AllReadyH.cons rfl (fun K7 hK7 => ?_) AllReadyH.nil)
            refine step_set1 (by rfl) _ _ (by rfl) (by rfl) (B := W2.heap.size) (u := a) (by rfl) (by rfl) ha1 hA ?_
            refine hK7.out _ _ hQ8 (fun hSS6 => ?_)
            clear hQ8 hS8 hS9 hK7
            generalize World.setCell W6 ⟨W2.heap.size, 0, none⟩ a = WB at *
            refine wpAnyH_ready (rs := [9]) (by kernel_rfl) (by simp) (AllReadyH.cons rfl (fun K8 hK8 => ?_) AllReadyH.nil)
            refine step_set1 (by rfl) _ _ (by rfl) (by rfl) (B := W1.heap.size) (u := b) (by rfl) (by rfl) hb1 hB6 ?_
            refine hK8.out _ _ hQ9 (fun hSS7 => ?_)
            clear hQ9 hK8
            generalize World.setCell WB ⟨W1.heap.size, 0, none⟩ b = WC at *
            refine wpAnyH_done (by kernel_rfl) ?_ _
            go_wp2_with fail
            go_meet
            exact hTwo
      · refine step_plain (by rfl) ?_
        simp only [List.getElem_toArray, List.getElem_cons_zero, List.getElem_cons_succ]
        go_simp
        have hbn : Below W0.heap.size W0 (W0.alloc (.cells #[.nilIface] 34)) := (Below.refl _ _).alloc (Nat.le_refl _) _
        have hA := heap_alloc_new W0 (.cells #[.nilIface] 34)
        have hz1 : W0.heap.size < (W0.alloc (.cells #[.nilIface] 34)).heap.size := by simp
        refine hK1.out _ _ (hSS.below hbn) (fun hSS => ?_)
        clear hbn hK1
        generalize W0.alloc (.cells #[.nilIface] 34) = W1 at *
        refine wpAnyH_ready (rs := [1, 7]) (by kernel_rfl) (by simp) (AllReadyH.cons rfl (fun K2 hK2 => ?_) (AllReadyH.cons rfl (fun K2 hK2 => ?_) AllReadyH.nil))
        · refine step_plain (by rfl) ?_
          simp only [List.getElem_toArray, List.getElem_cons_zero, List.getElem_cons_succ]
          go_simp
          go_at_call 9
          refine (C1.out _ hSS.2.2).mono ?_
          rintro e W2 ⟨xp, rfl, hX, hbn⟩
          replace hA := (hbn.block _ (Array.getElem?_eq_some_iff.1 hA).1).trans hA
          have hz2 := hbn.size
          go_simp
          refine hK2.out _ _ (hSS.below hbn) (fun hSS => ?_)
          clear hbn hK2
          refine wpAnyH_ready (rs := [2, 7]) (by kernel_rfl) (by simp) (AllReadyH.cons rfl (fun K3 hK3 => ?_) (AllReadyH.cons rfl (fun K3 hK3 => ?_) AllReadyH.nil))
          · refine step_plain (by rfl) ?_
            simp only [List.getElem_toArray, List.getElem_cons_zero, List.getElem_cons_succ]
            go_simp
            go_at_call 11
            refine (T1.out _ _ _ hX).mono ?_
            rintro e W3 ⟨a, rfl, ha1, rX, hbn⟩
            replace hX := hX.stays hbn
            replace hA := (hbn.block _ (Array.getElem?_eq_some_iff.1 hA).1).trans hA
            replace rX := rX.mono (ok' := fun b => W2.heap.size ≤ b ∧ b < W3.heap.size) (fun _ h1 h2 => ⟨h1, h2⟩)
            clear hX
            have hz3 := hbn.size
            go_simp
            refine hK3.out _ _ (hSS.below hbn) (fun hSS => ?_)
            clear hbn hK3
            refine wpAnyH_ready (rs := [4, 7]) (by kernel_rfl) (by simp) (AllReadyH.cons rfl (fun K4 hK4 => ?_) (AllReadyH.cons rfl (fun K4 hK4 => ?_) AllReadyH.nil))
            · refine step_plain (by rfl) ?_
              simp only [List.getElem_toArray, List.getElem_cons_zero, List.getElem_cons_succ]
              go_simp
              go_at_call 9
              refine (C2.out _ hSS.2.2).mono ?_
              rintro e W4 ⟨yp, rfl, hY, hbn⟩
              replace rX := rX.stays hbn
              replace hA := (hbn.block _ (Array.getElem?_eq_some_iff.1 hA).1).trans hA
              have hz4 := hbn.size
              go_simp
              refine hK4.out _ _ (hSS.below hbn) (fun hSS => ?_)
              clear hbn hK4
              refine wpAnyH_ready (rs := [5, 7]) (by kernel_rfl) (by simp) (AllReadyH.cons rfl (fun K5 hK5 => ?_) (AllReadyH.cons rfl (fun K5 hK5 => ?_) AllReadyH.nil))
              · refine step_plain (by rfl) ?_
                simp only [List.getElem_toArray, List.getElem_cons_zero, List.getElem_cons_succ]
                go_simp
                go_at_call 11
                refine (T2.out _ _ _ hY).mono ?_
                rintro e W5 ⟨b, rfl, hb1, rY, hbn⟩
                replace rX := rX.stays hbn
                replace hY := hY.stays hbn
                replace hA := (hbn.block _ (Array.getElem?_eq_some_iff.1 hA).1).trans hA
                replace rY := rY.mono (ok' := fun b => W4.heap.size ≤ b ∧ b < W5.heap.size) (fun _ h1 h2 => ⟨h1, h2⟩)
                clear hY
                have hz5 := hbn.size
                go_simp
                refine hK5.out _ _ (hSS.below hbn) (fun hSS => ?_)
                clear hbn hK5
                refine wpAnyH_ready (rs := [7]) (by kernel_rfl) (by simp) (AllReadyH.cons rfl (fun K6 hK6 => ?_) AllReadyH.nil)
                refine step_plain (by rfl) ?_
                simp only [List.getElem_toArray, List.getElem_cons_zero, List.getElem_cons_succ]
                go_simp
                have hbn : Below W5.heap.size W5 (W5.alloc (.cells #[.nilIface] 34)) := (Below.refl _ _).alloc (Nat.le_refl _) _
                have hB := heap_alloc_new W5 (.cells #[.nilIface] 34)
                replace rX := rX.stays hbn
                replace rY := rY.stays hbn
                replace hA := (hbn.block _ (Array.getElem?_eq_some_iff.1 hA).1).trans hA
                have hz6 : W5.heap.size < (W5.alloc (.cells #[.nilIface] 34)).heap.size := by simp
                refine hK6.out _ _ (hSS.below hbn) (fun hSS => ?_)
                clear hbn hK6
                generalize W5.alloc (.cells #[.nilIface] 34) = W6 at *
                have hTwo := TwoR.mk (A := W0.heap.size) (B := W5.heap.size) hSS.2.2 hA hB rX rY (by omega) (by omega) (by omega) (fun b hb => by omega) (fun b hb => by omega)
                have hS8 : Below w.heap.size w (World.setCell W6 ⟨W0.heap.size, 0, none⟩ a) := hSS.2.2.setCell (p := ⟨W0.heap.size, 0, none⟩) (show _ ≤ W0.heap.size by omega) a
                have hS9 := hS8.setCell (p := ⟨W5.heap.size, 0, none⟩) (show _ ≤ W5.heap.size by omega) b
                have hB6 := (Below.heap_setCell W6 ⟨W0.heap.size, 0, none⟩ a (W5.heap.size) (show W5.heap.size ≠ W0.heap.size by omega)).trans hB
                have hQ8 : BW w (World.setCell W6 ⟨W0.heap.size, 0, none⟩ a) v p u q := ⟨(Below.heap_setCell _ _ _ _ (show w.heap.size ≠ W0.heap.size by omega)).trans hSS.1, (Below.heap_setCell _ _ _ _ (show w.heap.size + 1 ≠ W0.heap.size by omega)).trans hSS.2.1, hS8⟩
                have hQ9 : BW w (World.setCell (World.setCell W6 ⟨W0.heap.size, 0, none⟩ a) ⟨W5.heap.size, 0, none⟩ b) v p u q := ⟨(Below.heap_setCell _ _ _ _ (show w.heap.size ≠ W5.heap.size by omega)).trans hQ8.1, (Below.heap_setCell _ _ _ _ (show w.heap.size + 1 ≠ W5.heap.size by omega)).trans hQ8.2.1, hS9⟩
                refine wpAnyH_ready (rs := [8]) (by kernel_rfl) (by simp) (AllReadyH.cons rfl (fun K7 hK7 => ?_) AllReadyH.nil)
                refine step_set1 (by rfl) _ _ (by rfl) (by rfl) (B := W0.heap.size) (u := a) (by rfl) (by rfl) ha1 hA ?_
                refine hK7.out _ _ hQ8 (fun hSS6 => ?_)
                clear hQ8 hS8 hS9 hK7
                generalize World.setCell W6 ⟨W0.heap.size, 0, none⟩ a = WB at *
                refine wpAnyH_ready (rs := [9]) (by kernel_rfl) (by simp) (AllReadyH.cons rfl (fun K8 hK8 => ?_) AllReadyH.nil)
                refine step_set1 (by rfl) _ _ (by rfl) (by rfl) (B := W5.heap.size) (u := b) (by rfl) (by rfl) hb1 hB6 ?_
                refine hK8.out _ _ hQ9 (fun hSS7 => ?_)
                clear hQ9 hK8
                generalize World.setCell WB ⟨W5.heap.size, 0, none⟩ b = WC at *
                refine wpAnyH_done (by kernel_rfl) ?_ _
                go_wp2_with fail
                go_meet
                exact hTwo
              · refine step_plain (by rfl) ?_
                simp only [List.getElem_toArray, List.getElem_cons_zero, List.getElem_cons_succ]
                go_simp
                have hbn : Below W4.heap.size W4 (W4.alloc (.cells #[.nilIface] 34)) := (Below.refl _ _).alloc (Nat.le_refl _) _
                have hB := heap_alloc_new W4 (.cells #[.nilIface] 34)
                replace rX := rX.stays hbn
                replace hY := hY.stays hbn
                replace hA := (hbn.block _ (Array.getElem?_eq_some_iff.1 hA).1).trans hA
                have hz5 : W4.heap.size < (W4.alloc (.cells #[.nilIface] 34)).heap.size := by simp
                refine hK5.out _ _ (hSS.below hbn) (fun hSS => ?_)
                clear hbn hK5
                generalize W4.alloc (.cells #[.nilIface] 34) = W5 at *
                refine wpAnyH_ready (rs := [5]) (by kernel_rfl) (by simp) (AllReadyH.cons rfl (fun K6 hK6 => ?_) AllReadyH.nil)
                refine step_plain (by rfl) ?_
                simp only [List.getElem_toArray, List.getElem_cons_zero, List.getElem_cons_succ]
                go_simp
                go_at_call 11
                refine (T2.out _ _ _ hY).mono ?_
                rintro e W6 ⟨b, rfl, hb1, rY, hbn⟩
                replace rX := rX.stays hbn
                replace hY := hY.stays hbn
                replace hA := (hbn.block _ (Array.getElem?_eq_some_iff.1 hA).1).trans hA
                replace hB := (hbn.block _ (Array.getElem?_eq_some_iff.1 hB).1).trans hB
                replace rY := rY.mono (ok' := fun b => W5.heap.size ≤ b ∧ b < W6.heap.size) (fun _ h1 h2 => ⟨h1, h2⟩)
                clear hY
                have hz6 := hbn.size
                go_simp
                refine hK6.out _ _ (hSS.below hbn) (fun hSS => ?_)
                clear hbn hK6
                have hTwo := TwoR.mk (A := W0.heap.size) (B := W4.heap.size) hSS.2.2 hA hB rX rY (by omega) (by omega) (by omega) (fun b hb => by omega) (fun b hb => by omega)
                have hS8 : Below w.heap.size w (World.setCell W6 ⟨W0.heap.size, 0, none⟩ a) := hSS.2.2.setCell (p := ⟨W0.heap.size, 0, none⟩) (show _ ≤ W0.heap.size by omega) a
                have hS9 := hS8.setCell (p := ⟨W4.heap.size, 0, none⟩) (show _ ≤ W4.heap.size by omega) b
                have hB6 := (Below.heap_setCell W6 ⟨W0.heap.size, 0, none⟩ a (W4.heap.size) (show W4.heap.size ≠ W0.heap.size by omega)).trans hB
                have hQ8 : BW w (World.setCell W6 ⟨W0.heap.size, 0, none⟩ a) v p u q := ⟨(Below.heap_setCell _ _ _ _ (show w.heap.size ≠ W0.heap.size by omega)).trans hSS.1, (Below.heap_setCell _ _ _ _ (show w.heap.size + 1 ≠ W0.heap.size by omega)).trans hSS.2.1, hS8⟩
                have hQ9 : BW w (World.setCell (World.setCell W6 ⟨W0.heap.size, 0, none⟩ a) ⟨W4.heap.size, 0, none⟩ b) v p u q := ⟨(Below.heap_setCell _ _ _ _ (show w.heap.size ≠ W4.heap.size by omega)).trans hQ8.1, (Below.heap_setCell _ _ _ _ (show w.heap.size + 1 ≠ W4.heap.size by omega)).trans hQ8.2.1, hS9⟩
                refine wpAnyH_ready (rs := [8]) (by kernel_rfl) (by simp) (AllReadyH.cons rfl (fun K7 hK7 => ?_) AllReadyH.nil)
                refine step_set1 (by rfl) _ _ (by rfl) (by rfl) (B := W0.heap.size) (u := a) (by rfl) (by rfl) ha1 hA ?_
                refine hK7.out _ _ hQ8 (fun hSS6 => ?_)
                clear hQ8 hS8 hS9 hK7
                generalize World.setCell W6 ⟨W0.heap.size, 0, none⟩ a = WB at *
                refine wpAnyH_ready (rs := [9]) (by kernel_rfl) (by simp) (AllReadyH.cons rfl (fun K8 hK8 => ?_) AllReadyH.nil)
                refine step_set1 (by rfl) _ _ (by rfl) (by rfl) (B := W4.heap.size) (u := b) (by rfl) (by rfl) hb1 hB6 ?_
                refine hK8.out _ _ hQ9 (fun hSS7 => ?_)
                clear hQ9 hK8
                generalize World.setCell WB ⟨W4.heap.size, 0, none⟩ b = WC at *
                refine wpAnyH_done (by kernel_rfl) ?_ _
                go_wp2_with fail
                go_meet
                exact hTwo
            · refine step_plain (by rfl) ?_
              simp only [List.getElem_toArray, List.getElem_cons_zero, List.getElem_cons_succ]
              go_simp
              have hbn : Below W3.heap.size W3 (W3.alloc (.cells #[.nilIface] 34)) := (Below.refl _ _).alloc (Nat.le_refl _) _
              have hB := heap_alloc_new W3 (.cells #[.nilIface] 34)
              replace rX := rX.stays hbn
              replace hA := (hbn.block _ (Array.getElem?_eq_some_iff.1 hA).1).trans hA
              have hz4 : W3.heap.size < (W3.alloc (.cells #[.nilIface] 34)).heap.size := by simp
              refine hK4.out _ _ (hSS.below hbn) (fun hSS => ?_)
              clear hbn hK4
              generalize W3.alloc (.cells #[.nilIface] 34) = W4 at *
              refine wpAnyH_ready (rs := [4]) (by kernel_rfl) (by simp) (AllReadyH.cons rfl (fun K5 hK5 => ?_) AllReadyH.nil)
              refine step_plain (by rfl) ?_
              simp only [List.getElem_toArray, List.getElem_cons_zero, List.getElem_cons_succ]
              go_simp
              go_at_call 9
              refine (C2.out _ hSS.2.2).mono ?_
              rintro e W5 ⟨yp, rfl, hY, hbn⟩
              replace rX := rX.stays hbn
              replace hA := (hbn.block _ (Array.getElem?_eq_some_iff.1 hA).1).trans hA
              replace hB := (hbn.block _ (Array.getElem?_eq_some_iff.1 hB).1).trans hB
              have hz5 := hbn.size
              go_simp
              refine hK5.out _ _ (hSS.below hbn) (fun hSS => ?_)
              clear hbn hK5
              refine wpAnyH_ready (rs := [5]) (by kernel_rfl) (by simp) (AllReadyH.cons rfl (fun K6 hK6 => ?_) AllReadyH.nil)
              refine step_plain (by rfl) ?_
              simp only [List.getElem_toArray, List.getElem_cons_zero, List.getElem_cons_succ]
              go_simp
              go_at_call 11
              refine (T2.out _ _ _ hY).mono ?_
              rintro e W6 ⟨b, rfl, hb1, rY, hbn⟩
              replace rX := rX.stays hbn
              replace hY := hY.stays hbn
              replace hA := (hbn.block _ (Array.getElem?_eq_some_iff.1 hA).1).trans hA
              replace hB := (hbn.block _ (Array.getElem?_eq_some_iff.1 hB).1).trans hB
              replace rY := rY.mono (ok' := fun b => W5.heap.size ≤ b ∧ b < W6.heap.size) (fun _ h1 h2 => ⟨h1, h2⟩)
              clear hY
              have hz6 := hbn.size
              go_simp
              refine hK6.out _ _ (hSS.below hbn) (fun hSS => ?_)
              clear hbn hK6
              have hTwo := TwoR.mk (A := W0.heap.size) (B := W3.heap.size) hSS.2.2 hA hB rX rY (by omega) (by omega) (by omega) (fun b hb => by omega) (fun b hb => by omega)
              have hS8 : Below w.heap.size w (World.setCell W6 ⟨W0.heap.size, 0, none⟩ a) := hSS.2.2.setCell (p := ⟨W0.heap.size, 0, none⟩) (show _ ≤ W0.heap.size by omega) a
              have hS9 := hS8.setCell (p := ⟨W3.heap.size, 0, none⟩) (show _ ≤ W3.heap.size by omega) b
              have hB6 := (Below.heap_setCell W6 ⟨W0.heap.size, 0, none⟩ a (W3.heap.size) (show W3.heap.size ≠ W0.heap.size by omega)).trans hB
              have hQ8 : BW w (World.setCell W6 ⟨W0.heap.size, 0, none⟩ a) v p u q := ⟨(Below.heap_setCell _ _ _ _ (show w.heap.size ≠ W0.heap.size by omega)).trans hSS.1, (Below.heap_setCell _ _ _ _ (show w.heap.size + 1 ≠ W0.heap.size by omega)).trans hSS.2.1, hS8⟩
              have hQ9 : BW w (World.setCell (World.setCell W6 ⟨W0.heap.size, 0, none⟩ a) ⟨W3.heap.size, 0, none⟩ b) v p u q := ⟨(Below.heap_setCell _ _ _ _ (show w.heap.size ≠ W3.heap.size by omega)).trans hQ8.1, (Below.heap_setCell _ _ _ _ (show w.heap.size + 1 ≠ W3.heap.size by omega)).trans hQ8.2.1, hS9⟩
              refine wpAnyH_ready (rs := [8]) (by kernel_rfl) (by simp) (AllReadyH.cons rfl (fun K7 hK7 => ?_) AllReadyH.nil)
              refine step_set1 (by rfl) _ _ (by rfl) (by rfl) (B := W0.heap.size) (u := a) (by rfl) (by rfl) ha1 hA ?_
              refine hK7.out _ _ hQ8 (fun hSS6 => ?_)
              clear hQ8 hS8 hS9 hK7
              generalize World.setCell W6 ⟨W0.heap.size, 0, none⟩ a = WB at *
              refine wpAnyH_ready (rs := [9]) (by kernel_rfl) (by simp) (AllReadyH.cons rfl (fun K8 hK8 => ?_) AllReadyH.nil)
              refine step_set1 (by rfl) _ _ (by rfl) (by rfl) (B := W3.heap.size) (u := b) (by rfl) (by rfl) hb1 hB6 ?_
              refine hK8.out _ _ hQ9 (fun hSS7 => ?_)
              clear hQ9 hK8
              generalize World.setCell WB ⟨W3.heap.size, 0, none⟩ b = WC at *
              refine wpAnyH_done (by kernel_rfl) ?_ _
              go_wp2_with fail
              go_meet
              exact hTwo
          · refine step_plain (by rfl) ?_
            simp only [List.getElem_toArray, List.getElem_cons_zero, List.getElem_cons_succ]
            go_simp
            have hbn : Below W2.heap.size W2 (W2.alloc (.cells #[.nilIface] 34)) := (Below.refl _ _).alloc (Nat.le_refl _) _
            have hB := heap_alloc_new W2 (.cells #[.nilIface] 34)
            replace hX := hX.stays hbn
            replace hA := (hbn.block _ (Array.getElem?_eq_some_iff.1 hA).1).trans hA
            have hz3 : W2.heap.size < (W2.alloc (.cells #[.nilIface] 34)).heap.size := by simp
            refine hK3.out _ _ (hSS.below hbn) (fun hSS => ?_)
            clear hbn hK3
            generalize W2.alloc (.cells #[.nilIface] 34) = W3 at *
            refine wpAnyH_ready (rs := [2]) (by kernel_rfl) (by simp) (AllReadyH.cons rfl (fun K4 hK4 => ?_) AllReadyH.nil)
            refine step_plain (by rfl) ?_
            simp only [List.getElem_toArray, List.getElem_cons_zero, List.getElem_cons_succ]
            go_simp
            go_at_call 11
            refine (T1.out _ _ _ hX).mono ?_
            rintro e W4 ⟨a, rfl, ha1, rX, hbn⟩
            replace hX := hX.stays hbn
            replace hA := (hbn.block _ (Array.getElem?_eq_some_iff.1 hA).1).trans hA
            replace hB := (hbn.block _ (Array.getElem?_eq_some_iff.1 hB).1).trans hB
            replace rX := rX.mono (ok' := fun b => W3.heap.size ≤ b ∧ b < W4.heap.size) (fun _ h1 h2 => ⟨h1, h2⟩)
            clear hX
            have hz4 := hbn.size
            go_simp
            refine hK4.out _ _ (hSS.below hbn) (fun hSS => ?_)
            clear hbn hK4
            refine wpAnyH_ready (rs := [4]) (by kernel_rfl) (by simp) (AllReadyH.cons rfl (fun K5 hK5 => ?_) AllReadyH.nil)
            refine step_plain (by rfl) ?_
            simp only [List.getElem_toArray, List.getElem_cons_zero, List.getElem_cons_succ]
            go_simp
            go_at_call 9
            refine (C2.out _ hSS.2.2).mono ?_
            rintro e W5 ⟨yp, rfl, hY, hbn⟩
            replace rX := rX.stays hbn
            replace hA := (hbn.block _ (Array.getElem?_eq_some_iff.1 hA).1).trans hA
            replace hB := (hbn.block _ (Array.getElem?_eq_some_iff.1 hB).1).trans hB
            have hz5 := hbn.size
            go_simp
            refine hK5.out _ _ (hSS.below hbn) (fun hSS => ?_)
            clear hbn hK5
            refine wpAnyH_ready (rs := [5]) (by kernel_rfl) (by simp) (AllReadyH.cons rfl (fun K6 hK6 => ?_) AllReadyH.nil)
            refine step_plain (by rfl) ?_
            simp only [List.getElem_toArray, List.getElem_cons_zero, List.getElem_cons_succ]
            go_simp
            go_at_call 11
            refine (T2.out _ _ _ hY).mono ?_
            rintro e W6 ⟨b, rfl, hb1, rY, hbn⟩
            replace rX := rX.stays hbn
            replace hY := hY.stays hbn
            replace hA := (hbn.block _ (Array.getElem?_eq_some_iff.1 hA).1).trans hA
            replace hB := (hbn.block _ (Array.getElem?_eq_some_iff.1 hB).1).trans hB
            replace rY := rY.mono (ok' := fun b => W5.heap.size ≤ b ∧ b < W6.heap.size) (fun _ h1 h2 => ⟨h1, h2⟩)
            clear hY
            have hz6 := hbn.size
            go_simp
            refine hK6.out _ _ (hSS.below hbn) (fun hSS => ?_)
            clear hbn hK6
            have hTwo := TwoR.mk (A := W0.heap.size) (B := W2.heap.size) hSS.2.2 hA hB rX rY (by omega) (by omega) (by omega) (fun b hb => by omega) (fun b hb => by omega)
            have hS8 : Below w.heap.size w (World.setCell W6 ⟨W0.heap.size, 0, none⟩ a) := hSS.2.2.setCell (p := ⟨W0.heap.size, 0, none⟩) (show _ ≤ W0.heap.size by omega) a
            have hS9 := hS8.setCell (p := ⟨W2.heap.size, 0, none⟩) (show _ ≤ W2.heap.size by omega) b
            have hB6 := (Below.heap_setCell W6 ⟨W0.heap.size, 0, none⟩ a (W2.heap.size) (show W2.heap.size ≠ W0.heap.size by omega)).trans hB
            have hQ8 : BW w (World.setCell W6 ⟨W0.heap.size, 0, none⟩ a) v p u q := ⟨(Below.heap_setCell _ _ _ _ (show w.heap.size ≠ W0.heap.size by omega)).trans hSS.1, (Below.heap_setCell _ _ _ _ (show w.heap.size + 1 ≠ W0.heap.size by omega)).trans hSS.2.1, hS8⟩
            have hQ9 : BW w (World.setCell (World.setCell W6 ⟨W0.heap.size, 0, none⟩ a) ⟨W2.heap.size, 0, none⟩ b) v p u q := ⟨(Below.heap_setCell _ _ _ _ (show w.heap.size ≠ W2.heap.size by omega)).trans hQ8.1, (Below.heap_setCell _ _ _ _ (show w.heap.size + 1 ≠ W2.heap.size by omega)).trans hQ8.2.1, hS9⟩
            refine wpAnyH_ready (rs := [8]) (by kernel_rfl) (by simp) (AllReadyH.cons rfl (fun K7 hK7 => ?_) AllReadyH.nil)
            refine step_set1 (by rfl) _ _ (by rfl) (by rfl) (B := W0.heap.size) (u := a) (by rfl) (by rfl) ha1 hA ?_
            refine hK7.out _ _ hQ8 (fun hSS6 => ?_)
            clear hQ8 hS8 hS9 hK7
            generalize World.setCell W6 ⟨W0.heap.size, 0, none⟩ a = WB at *
            refine wpAnyH_ready (rs := [9]) (by kernel_rfl) (by simp) (AllReadyH.cons rfl (fun K8 hK8 => ?_) AllReadyH.nil)
            refine step_set1 (by rfl) _ _ (by rfl) (by rfl) (B := W2.heap.size) (u := b) (by rfl) (by rfl) hb1 hB6 ?_
            refine hK8.out _ _ hQ9 (fun hSS7 => ?_)
            clear hQ9 hK8
            generalize World.setCell WB ⟨W2.heap.size, 0, none⟩ b = WC at *
            refine wpAnyH_done (by kernel_rfl) ?_ _
            go_wp2_with fail
            go_meet
            exact hTwo
        · refine step_plain (by rfl) ?_
          simp only [List.getElem_toArray, List.getElem_cons_zero, List.getElem_cons_succ]
          go_simp
          have hbn : Below W1.heap.size W1 (W1.alloc (.cells #[.nilIface] 34)) := (Below.refl _ _).alloc (Nat.le_refl _) _
          have hB := heap_alloc_new W1 (.cells #[.nilIface] 34)
          replace hA := (hbn.block _ (Array.getElem?_eq_some_iff.1 hA).1).trans hA
          have hz2 : W1.heap.size < (W1.alloc (.cells #[.nilIface] 34)).heap.size := by simp
          refine hK2.out _ _ (hSS.below hbn) (fun hSS => ?_)
          clear hbn hK2
          generalize W1.alloc (.cells #[.nilIface] 34) = W2 at *
          refine wpAnyH_ready (rs := [1]) (by kernel_rfl) (by simp) (AllReadyH.cons rfl (fun K3 hK3 => ?_) AllReadyH.nil)
          refine step_plain (by rfl) ?_
          simp only [List.getElem_toArray, List.getElem_cons_zero, List.getElem_cons_succ]
          go_simp
          go_at_call 9
          refine (C1.out _ hSS.2.2).mono ?_
          rintro e W3 ⟨xp, rfl, hX, hbn⟩
          replace hA := (hbn.block _ (Array.getElem?_eq_some_iff.1 hA).1).trans hA
          replace hB := (hbn.block _ (Array.getElem?_eq_some_iff.1 hB).1).trans hB
          have hz3 := hbn.size
          go_simp
          refine hK3.out _ _ (hSS.below hbn) (fun hSS => ?_)
          clear hbn hK3
          refine wpAnyH_ready (rs := [2]) (by kernel_rfl) (by simp) (AllReadyH.cons rfl (fun K4 hK4 => ?_) AllReadyH.nil)
          refine step_plain (by rfl) ?_
          simp only [List.getElem_toArray, List.getElem_cons_zero, List.getElem_cons_succ]
          go_simp
          go_at_call 11
          refine (T1.out _ _ _ hX).mono ?_
          rintro e W4 ⟨a, rfl, ha1, rX, hbn⟩
          replace hX := hX.stays hbn
          replace hA := (hbn.block _ (Array.getElem?_eq_some_iff.1 hA).1).trans hA
          replace hB := (hbn.block _ (Array.getElem?_eq_some_iff.1 hB).1).trans hB
          replace rX := rX.mono (ok' := fun b => W3.heap.size ≤ b ∧ b < W4.heap.size) (fun _ h1 h2 => ⟨h1, h2⟩)
          clear hX
          have hz4 := hbn.size
          go_simp
          refine hK4.out _ _ (hSS.below hbn) (fun hSS => ?_)
          clear hbn hK4
          refine wpAnyH_ready (rs := [4]) (by kernel_rfl) (by simp) (AllReadyH.cons rfl (fun K5 hK5 => ?_) AllReadyH.nil)
          refine step_plain (by rfl) ?_
          simp only [List.getElem_toArray, List.getElem_cons_zero, List.getElem_cons_succ]
          go_simp
          go_at_call 9
          refine (C2.out _ hSS.2.2).mono ?_
          rintro e W5 ⟨yp, rfl, hY, hbn⟩
          replace rX := rX.stays hbn
          replace hA := (hbn.block _ (Array.getElem?_eq_some_iff.1 hA).1).trans hA
          replace hB := (hbn.block _ (Array.getElem?_eq_some_iff.1 hB).1).trans hB
          have hz5 := hbn.size
          go_simp
          refine hK5.out _ _ (hSS.below hbn) (fun hSS => ?_)
          clear hbn hK5
          refine wpAnyH_ready (rs := [5]) (by kernel_rfl) (by simp) (AllReadyH.cons rfl (fun K6 hK6 => ?_) AllReadyH.nil)
          refine step_plain (by rfl) ?_
          simp only [List.getElem_toArray, List.getElem_cons_zero, List.getElem_cons_succ]
          go_simp
          go_at_call 11
          refine (T2.out _ _ _ hY).mono ?_
          rintro e W6 ⟨b, rfl, hb1, rY, hbn⟩
          replace rX := rX.stays hbn
          replace hY := hY.stays hbn
          replace hA := (hbn.block _ (Array.getElem?_eq_some_iff.1 hA).1).trans hA
          replace hB := (hbn.block _ (Array.getElem?_eq_some_iff.1 hB).1).trans hB
          replace rY := rY.mono (ok' := fun b => W5.heap.size ≤ b ∧ b < W6.heap.size) (fun _ h1 h2 => ⟨h1, h2⟩)
          clear hY
          have hz6 := hbn.size
          go_simp
          refine hK6.out _ _ (hSS.below hbn) (fun hSS => ?_)
          clear hbn hK6
          have hTwo := TwoR.mk (A := W0.heap.size) (B := W1.heap.size) hSS.2.2 hA hB rX rY (by omega) (by omega) (by omega) (fun b hb => by omega) (fun b hb => by omega)
          have hS8 : Below w.heap.size w (World.setCell W6 ⟨W0.heap.size, 0, none⟩ a) := hSS.2.2.setCell (p := ⟨W0.heap.size, 0, none⟩) (show _ ≤ W0.heap.size by omega) a
          have hS9 := hS8.setCell (p := ⟨W1.heap.size, 0, none⟩) (show _ ≤ W1.heap.size by omega) b
          have hB6 := (Below.heap_setCell W6 ⟨W0.heap.size, 0, none⟩ a (W1.heap.size) (show W1.heap.size ≠ W0.heap.size by omega)).trans hB
          have hQ8 : BW w (World.setCell W6 ⟨W0.heap.size, 0, none⟩ a) v p u q := ⟨(Below.heap_setCell _ _ _ _ (show w.heap.size ≠ W0.heap.size by omega)).trans hSS.1, (Below.heap_setCell _ _ _ _ (show w.heap.size + 1 ≠ W0.heap.size by omega)).trans hSS.2.1, hS8⟩
          have hQ9 : BW w (World.setCell (World.setCell W6 ⟨W0.heap.size, 0, none⟩ a) ⟨W1.heap.size, 0, none⟩ b) v p u q := ⟨(Below.heap_setCell _ _ _ _ (show w.heap.size ≠ W1.heap.size by omega)).trans hQ8.1, (Below.heap_setCell _ _ _ _ (show w.heap.size + 1 ≠ W1.heap.size by omega)).trans hQ8.2.1, hS9⟩
          refine wpAnyH_ready (rs := [8]) (by kernel_rfl) (by simp) (AllReadyH.cons rfl (fun K7 hK7 => ?_) AllReadyH.nil)
          refine step_set1 (by rfl) _ _ (by rfl) (by rfl) (B := W0.heap.size) (u := a) (by rfl) (by rfl) ha1 hA ?_
          refine hK7.out _ _ hQ8 (fun hSS6 => ?_)
          clear hQ8 hS8 hS9 hK7
          generalize World.setCell W6 ⟨W0.heap.size, 0, none⟩ a = WB at *
          refine wpAnyH_ready (rs := [9]) (by kernel_rfl) (by simp) (AllReadyH.cons rfl (fun K8 hK8 => ?_) AllReadyH.nil)
          refine step_set1 (by rfl) _ _ (by rfl) (by rfl) (B := W1.heap.size) (u := b) (by rfl) (by rfl) hb1 hB6 ?_
          refine hK8.out _ _ hQ9 (fun hSS7 => ?_)
          clear hQ9 hK8
          generalize World.setCell WB ⟨W1.heap.size, 0, none⟩ b = WC at *
          refine wpAnyH_done (by kernel_rfl) ?_ _
          go_wp2_with fail
          go_meet
          exact hTwo
      · refine step_plain (by rfl) ?_
        simp only [List.getElem_toArray, List.getElem_cons_zero, List.getElem_cons_succ]
        go_simp
        have hbn : Below W0.heap.size W0 (W0.alloc (.cells #[.nilIface] 34)) := (Below.refl _ _).alloc (Nat.le_refl _) _
        have hB := heap_alloc_new W0 (.cells #[.nilIface] 34)
        have hz1 : W0.heap.size < (W0.alloc (.cells #[.nilIface] 34)).heap.size := by simp
        refine hK1.out _ _ (hSS.below hbn) (fun hSS => ?_)
        clear hbn hK1
        generalize W0.alloc (.cells #[.nilIface] 34) = W1 at *
        refine wpAnyH_ready (rs := [1, 6]) (by kernel_rfl) (by simp) (AllReadyH.cons rfl (fun K2 hK2 => ?_) (AllReadyH.cons rfl (fun K2 hK2 => ?_) AllReadyH.nil))
        · refine step_plain (by rfl) ?_
          simp only [List.getElem_toArray, List.getElem_cons_zero, List.getElem_cons_succ]
          go_simp
          go_at_call 9
          refine (C1.out _ hSS.2.2).mono ?_
          rintro e W2 ⟨xp, rfl, hX, hbn⟩
          replace hB := (hbn.block _ (Array.getElem?_eq_some_iff.1 hB).1).trans hB
          have hz2 := hbn.size
          go_simp
          refine hK2.out _ _ (hSS.below hbn) (fun hSS => ?_)
          clear hbn hK2
          refine wpAnyH_ready (rs := [2, 6]) (by kernel_rfl) (by simp) (AllReadyH.cons rfl (fun K3 hK3 => ?_) (AllReadyH.cons rfl (fun K3 hK3 => ?_) AllReadyH.nil))
          · refine step_plain (by rfl) ?_
            simp only [List.getElem_toArray, List.getElem_cons_zero, List.getElem_cons_succ]
            go_simp
            go_at_call 11
            refine (T1.out _ _ _ hX).mono ?_
            rintro e W3 ⟨a, rfl, ha1, rX, hbn⟩
            replace hX := hX.stays hbn
            replace hB := (hbn.block _ (Array.getElem?_eq_some_iff.1 hB).1).trans hB
            replace rX := rX.mono (ok' := fun b => W2.heap.size ≤ b ∧ b < W3.heap.size) (fun _ h1 h2 => ⟨h1, h2⟩)
            clear hX
            have hz3 := hbn.size
            go_simp
            refine hK3.out _ _ (hSS.below hbn) (fun hSS => ?_)
            clear hbn hK3
            refine wpAnyH_ready (rs := [4, 6]) (by kernel_rfl) (by simp) (AllReadyH.cons rfl (fun K4 hK4 => ?_) (AllReadyH.cons rfl (fun K4 hK4 => ?_) AllReadyH.nil))
            · refine step_plain (by rfl) ?_
              simp only [List.getElem_toArray, List.getElem_cons_zero, List.getElem_cons_succ]
              go_simp
              go_at_call 9
              refine (C2.out _ hSS.2.2).mono ?_
              rintro e W4 ⟨yp, rfl, hY, hbn⟩
              replace rX := rX.stays hbn
              replace hB := (hbn.block _ (Array.getElem?_eq_some_iff.1 hB).1).trans hB
              have hz4 := hbn.size
              go_simp
              refine hK4.out _ _ (hSS.below hbn) (fun hSS => ?_)
              clear hbn hK4
              refine wpAnyH_ready (rs := [5, 6]) (by kernel_rfl) (by simp) (AllReadyH.cons rfl (fun K5 hK5 => ?_) (AllReadyH.cons rfl (fun K5 hK5 => ?_) AllReadyH.nil))
              · refine step_plain (by rfl) ?_
                simp only [List.getElem_toArray, List.getElem_cons_zero, List.getElem_cons_succ]
                go_simp
                go_at_call 11
                refine (T2.out _ _ _ hY).mono ?_
                rintro e W5 ⟨b, rfl, hb1, rY, hbn⟩
                replace rX := rX.stays hbn
                replace hY := hY.stays hbn
                replace hB := (hbn.block _ (Array.getElem?_eq_some_iff.1 hB).1).trans hB
                replace rY := rY.mono (ok' := fun b => W4.heap.size ≤ b ∧ b < W5.heap.size) (fun _ h1 h2 => ⟨h1, h2⟩)
                clear hY
                have hz5 := hbn.size
                go_simp
                refine hK5.out _ _ (hSS.below hbn) (fun hSS => ?_)
                clear hbn hK5
                refine wpAnyH_ready (rs := [6]) (by kernel_rfl) (by simp) (AllReadyH.cons rfl (fun K6 hK6 => ?_) AllReadyH.nil)
                refine step_plain (by rfl) ?_
                simp only [List.getElem_toArray, List.getElem_cons_zero, List.getElem_cons_succ]
                go_simp
                have hbn : Below W5.heap.size W5 (W5.alloc (.cells #[.nilIface] 34)) := (Below.refl _ _).alloc (Nat.le_refl _) _
                have hA := heap_alloc_new W5 (.cells #[.nilIface] 34)
                replace rX := rX.stays hbn
                replace rY := rY.stays hbn
                replace hB := (hbn.block _ (Array.getElem?_eq_some_iff.1 hB).1).trans hB
                have hz6 : W5.heap.size < (W5.alloc (.cells #[.nilIface] 34)).heap.size := by simp
                refine hK6.out _ _ (hSS.below hbn) (fun hSS => ?_)
                clear hbn hK6
                generalize W5.alloc (.cells #[.nilIface] 34) = W6 at *
                have hTwo := TwoR.mk (A := W5.heap.size) (B := W0.heap.size) hSS.2.2 hA hB rX rY (by omega) (by omega) (by omega) (fun b hb => by omega) (fun b hb => by omega)
                have hS8 : Below w.heap.size w (World.setCell W6 ⟨W5.heap.size, 0, none⟩ a) := hSS.2.2.setCell (p := ⟨W5.heap.size, 0, none⟩) (show _ ≤ W5.heap.size by omega) a
                have hS9 := hS8.setCell (p := ⟨W0.heap.size, 0, none⟩) (show _ ≤ W0.heap.size by omega) b
                have hB6 := (Below.heap_setCell W6 ⟨W5.heap.size, 0, none⟩ a (W0.heap.size) (show W0.heap.size ≠ W5.heap.size by omega)).trans hB
                have hQ8 : BW w (World.setCell W6 ⟨W5.heap.size, 0, none⟩ a) v p u q := ⟨(Below.heap_setCell _ _ _ _ (show w.heap.size ≠ W5.heap.size by omega)).trans hSS.1, (Below.heap_setCell _ _ _ _ (show w.heap.size + 1 ≠ W5.heap.size by omega)).trans hSS.2.1, hS8⟩
                have hQ9 : BW w (World.setCell (World.setCell W6 ⟨W5.heap.size, 0, none⟩ a) ⟨W0.heap.size, 0, none⟩ b) v p u q := ⟨(Below.heap_setCell _ _ _ _ (show w.heap.size ≠ W0.heap.size by omega)).trans hQ8.1, (Below.heap_setCell _ _ _ _ (show w.heap.size + 1 ≠ W0.heap.size by omega)).trans hQ8.2.1, hS9⟩
                refine wpAnyH_ready (rs := [8]) (by kernel_rfl) (by simp) (AllReadyH.cons rfl (fun K7 hK7 => ?_) AllReadyH.nil)
                refine step_set1 (by rfl) _ _ (by rfl) (by rfl) (B := W5.heap.size) (u := a) (by rfl) (by rfl) ha1 hA ?_
                refine hK7.out _ _ hQ8 (fun hSS6 => ?_)
                clear hQ8 hS8 hS9 hK7
                generalize World.setCell W6 ⟨W5.heap.size, 0, none⟩ a = WB at *
                refine wpAnyH_ready (rs := [9]) (by kernel_rfl) (by simp) (AllReadyH.cons rfl (fun K8 hK8 => ?_) AllReadyH.nil)
                refine step_set1 (by rfl) _ _ (by rfl) (by rfl) (B := W0.heap.size) (u := b) (by rfl) (by rfl) hb1 hB6 ?_
                refine hK8.out _ _ hQ9 (fun hSS7 => ?_)
                clear hQ9 hK8
                generalize World.setCell WB ⟨W0.heap.size, 0, none⟩ b = WC at *
                refine wpAnyH_done (by kernel_rfl) ?_ _
                go_wp2_with fail
                go_meet
                exact hTwo
              · refine step_plain (by rfl) ?_
                simp only [List.getElem_toArray, List.getElem_cons_zero, List.getElem_cons_succ]
                go_simp
                have hbn : Below W4.heap.size W4 (W4.alloc (.cells #[.nilIface] 34)) := (Below.refl _ _).alloc (Nat.le_refl _) _
                have hA := heap_alloc_new W4 (.cells #[.nilIface] 34)
                replace rX := rX.stays hbn
                replace hY := hY.stays hbn
                replace hB := (hbn.block _ (Array.getElem?_eq_some_iff.1 hB).1).trans hB
                have hz5 : W4.heap.size < (W4.alloc (.cells #[.nilIface] 34)).heap.size := by simp
                refine hK5.out _ _ (hSS.below hbn) (fun hSS => ?_)
                clear hbn hK5
                generalize W4.alloc (.cells #[.nilIface] 34) = W5 at *
                refine wpAnyH_ready (rs := [5]) (by kernel_rfl) (by simp) (AllReadyH.cons rfl (fun K6 hK6 => ?_) AllReadyH.nil)
                refine step_plain (by rfl) ?_
                simp only [List.getElem_toArray, List.getElem_cons_zero, List.getElem_cons_succ]
                go_simp
                go_at_call 11
                refine (T2.out _ _ _ hY).mono ?_
                rintro e W6 ⟨b, rfl, hb1, rY, hbn⟩
                replace rX := rX.stays hbn
                replace hY := hY.stays hbn
                replace hA := (hbn.block _ (Array.getElem?_eq_some_iff.1 hA).1).trans hA
                replace hB := (hbn.block _ (Array.getElem?_eq_some_iff.1 hB).1).trans hB
                replace rY := rY.mono (ok' := fun b => W5.heap.size ≤ b ∧ b < W6.heap.size) (fun _ h1 h2 => ⟨h1, h2⟩)
                clear hY
                have hz6 := hbn.size
                go_simp
                refine hK6.out _ _ (hSS.below hbn) (fun hSS => ?_)
                clear hbn hK6
                have hTwo := TwoR.mk (A := W4.heap.size) (B := W0.heap.size) hSS.2.2 hA hB rX rY (by omega) (by omega) (by omega) (fun b hb => by omega) (fun b hb => by omega)
                have hS8 : Below w.heap.size w (World.setCell W6 ⟨W4.heap.size, 0, none⟩ a) := hSS.2.2.setCell (p := ⟨W4.heap.size, 0, none⟩) (show _ ≤ W4.heap.size by omega) a
                have hS9 := hS8.setCell (p := ⟨W0.heap.size, 0, none⟩) (show _ ≤ W0.heap.size by omega) b
                have hB6 := (Below.heap_setCell W6 ⟨W4.heap.size, 0, none⟩ a (W0.heap.size) (show W0.heap.size ≠ W4.heap.size by omega)).trans hB
                have hQ8 : BW w (World.setCell W6 ⟨W4.heap.size, 0, none⟩ a) v p u q := ⟨(Below.heap_setCell _ _ _ _ (show w.heap.size ≠ W4.heap.size by omega)).trans hSS.1, (Below.heap_setCell _ _ _ _ (show w.heap.size + 1 ≠ W4.heap.size by omega)).trans hSS.2.1, hS8⟩
                have hQ9 : BW w (World.setCell (World.setCell W6 ⟨W4.heap.size, 0, none⟩ a) ⟨W0.heap.size, 0, none⟩ b) v p u q := ⟨(Below.heap_setCell _ _ _ _ (show w.heap.size ≠ W0.heap.size by omega)).trans hQ8.1, (Below.heap_setCell _ _ _ _ (show w.heap.size + 1 ≠ W0.heap.size by omega)).trans hQ8.2.1, hS9⟩
                refine wpAnyH_ready (rs := [8]) (by kernel_rfl) (by simp) (AllReadyH.cons rfl (fun K7 hK7 => ?_) AllReadyH.nil)
                refine step_set1 (by rfl) _ _ (by rfl) (by rfl) (B := W4.heap.size) (u := a) (by rfl) (by rfl) ha1 hA ?_
                refine hK7.out _ _ hQ8 (fun hSS6 => ?_)
                clear hQ8 hS8 hS9 hK7
                generalize World.setCell W6 ⟨W4.heap.size, 0, none⟩ a = WB at *
                refine wpAnyH_ready (rs := [9]) (by kernel_rfl) (by simp) (AllReadyH.cons rfl (fun K8 hK8 => ?_) AllReadyH.nil)
                refine step_set1 (by rfl) _ _ (by rfl) (by rfl) (B := W0.heap.size) (u := b) (by rfl) (by rfl) hb1 hB6 ?_
                refine hK8.out _ _ hQ9 (fun hSS7 => ?_)
                clear hQ9 hK8
                generalize World.setCell WB ⟨W0.heap.size, 0, none⟩ b = WC at *
                refine wpAnyH_done (by kernel_rfl) ?_ _
                go_wp2_with fail
                go_meet
                exact hTwo
            · refine step_plain (by rfl) ?_
              simp only [List.getElem_toArray, List.getElem_cons_zero, List.getElem_cons_succ]
              go_simp
              have hbn : Below W3.heap.size W3 (W3.alloc (.cells #[.nilIface] 34)) := (Below.refl _ _).alloc (Nat.le_refl _) _
              have hA := heap_alloc_new W3 (.cells #[.nilIface] 34)
              replace rX := rX.stays hbn
              replace hB := (hbn.block _ (Array.getElem?_eq_some_iff.1 hB).1).trans hB
              have hz4 : W3.heap.size < (W3.alloc (.cells #[.nilIface] 34)).heap.size := by simp
              refine hK4.out _ _ (hSS.below hbn) (fun hSS => ?_)
              clear hbn hK4
              generalize W3.alloc (.cells #[.nilIface] 34) = W4 at *
              refine wpAnyH_ready (rs := [4]) (by kernel_rfl) (by simp) (AllReadyH.cons rfl (fun K5 hK5 => ?_) AllReadyH.nil)
              refine step_plain (by rfl) ?_
              simp only [List.getElem_toArray, List.getElem_cons_zero, List.getElem_cons_succ]
              go_simp
              go_at_call 9
              refine (C2.out _ hSS.2.2).mono ?_
              rintro e W5 ⟨yp, rfl, hY, hbn⟩
              replace rX := rX.stays hbn
              replace hA := (hbn.block _ (Array.getElem?_eq_some_iff.1 hA).1).trans hA
              replace hB := (hbn.block _ (Array.getElem?_eq_some_iff.1 hB).1).trans hB
              have hz5 := hbn.size
              go_simp
              refine hK5.out _ _ (hSS.below hbn) (fun hSS => ?_)
              clear hbn hK5
              refine wpAnyH_ready (rs := [5]) (by kernel_rfl) (by simp) (AllReadyH.cons rfl (fun K6 hK6 => ?_) AllReadyH.nil)
              refine step_plain (by rfl) ?_
              simp only [List.getElem_toArray, List.getElem_cons_zero, List.getElem_cons_succ]
              go_simp
              go_at_call 11
              refine (T2.out _ _ _ hY).mono ?_
              rintro e W6 ⟨b, rfl, hb1, rY, hbn⟩
              replace rX := rX.stays hbn
              replace hY := hY.stays hbn
              replace hA := (hbn.block _ (Array.getElem?_eq_some_iff.1 hA).1).trans hA
              replace hB := (hbn.block _ (Array.getElem?_eq_some_iff.1 hB).1).trans hB
              replace rY := rY.mono (ok' := fun b => W5.heap.size ≤ b ∧ b < W6.heap.size) (fun _ h1 h2 => ⟨h1, h2⟩)
              clear hY
              have hz6 := hbn.size
              go_simp
              refine hK6.out _ _ (hSS.below hbn) (fun hSS => ?_)
              clear hbn hK6
              have hTwo := TwoR.mk (A := W3.heap.size) (B := W0.heap.size) hSS.2.2 hA hB rX rY (by omega) (by omega) (by omega) (fun b hb => by omega) (fun b hb => by omega)
              have hS8 : Below w.heap.size w (World.setCell W6 ⟨W3.heap.size, 0, none⟩ a) := hSS.2.2.setCell (p := ⟨W3.heap.size, 0, none⟩) (show _ ≤ W3.heap.size by omega) a
              have hS9 := hS8.setCell (p := ⟨W0.heap.size, 0, none⟩) (show _ ≤ W0.heap.size by omega) b
              have hB6 := (Below.heap_setCell W6 ⟨W3.heap.size, 0, none⟩ a (W0.heap.size) (show W0.heap.size ≠ W3.heap.size by omega)).trans hB
              have hQ8 : BW w (World.setCell W6 ⟨W3.heap.size, 0, none⟩ a) v p u q := ⟨(Below.heap_setCell _ _ _ _ (show w.heap.size ≠ W3.heap.size by omega)).trans hSS.1, (Below.heap_setCell _ _ _ _ (show w.heap.size + 1 ≠ W3.heap.size by omega)).trans hSS.2.1, hS8⟩
              have hQ9 : BW w (World.setCell (World.setCell W6 ⟨W3.heap.size, 0, none⟩ a) ⟨W0.heap.size, 0, none⟩ b) v p u q := ⟨(Below.heap_setCell _ _ _ _ (show w.heap.size ≠ W0.heap.size by omega)).trans hQ8.1, (Below.heap_setCell _ _ _ _ (show w.heap.size + 1 ≠ W0.heap.size by omega)).trans hQ8.2.1, hS9⟩
              refine wpAnyH_ready (rs := [8]) (by kernel_rfl) (by simp) (AllReadyH.cons rfl (fun K7 hK7 => ?_) AllReadyH.nil)
              refine step_set1 (by rfl) _ _ (by rfl) (by rfl) (B := W3.heap.size) (u := a) (by rfl) (by rfl) ha1 hA ?_
              refine hK7.out _ _ hQ8 (fun hSS6 => ?_)
              clear hQ8 hS8 hS9 hK7
              generalize World.setCell W6 ⟨W3.heap.size, 0, none⟩ a = WB at *
              refine wpAnyH_ready (rs := [9]) (by kernel_rfl) (by simp) (AllReadyH.cons rfl (fun K8 hK8 => ?_) AllReadyH.nil)
              refine step_set1 (by rfl) _ _ (by rfl) (by rfl) (B := W0.heap.size) (u := b) (by rfl) (by rfl) hb1 hB6 ?_
              refine hK8.out _ _ hQ9 (fun hSS7 => ?_)
              clear hQ9 hK8
              generalize World.setCell WB ⟨W0.heap.size, 0, none⟩ b = WC at *
              refine wpAnyH_done (by kernel_rfl) ?_ _
              go_wp2_with fail
              go_meet
              exact hTwo
          · refine step_plain (by rfl) ?_
            simp only [List.getElem_toArray, List.getElem_cons_zero, List.getElem_cons_succ]
            go_simp
            have hbn : Below W2.heap.size W2 (W2.alloc (.cells #[.nilIface] 34)) := (Below.refl _ _).alloc (Nat.le_refl _) _
            have hA := heap_alloc_new W2 (.cells #[.nilIface] 34)
            replace hX := hX.stays hbn
            replace hB := (hbn.block _ (Array.getElem?_eq_some_iff.1 hB).1).trans hB
            have hz3 : W2.heap.size < (W2.alloc (.cells #[.nilIface] 34)).heap.size := by simp
            refine hK3.out _ _ (hSS.below hbn) (fun hSS => ?_)
            clear hbn hK3
            generalize W2.alloc (.cells #[.nilIface] 34) = W3 at *
            refine wpAnyH_ready (rs := [2]) (by kernel_rfl) (by simp) (AllReadyH.cons rfl (fun K4 hK4 => ?_) AllReadyH.nil)
            refine step_plain (by rfl) ?_
            simp only [List.getElem_toArray, List.getElem_cons_zero, List.getElem_cons_succ]
            go_simp
            go_at_call 11
            refine (T1.out _ _ _ hX).mono ?_
            rintro e W4 ⟨a, rfl, ha1, rX, hbn⟩
            replace hX := hX.stays hbn
            replace hA := (hbn.block _ (Array.getElem?_eq_some_iff.1 hA).1).trans hA
            replace hB := (hbn.block _ (Array.getElem?_eq_some_iff.1 hB).1).trans hB
            replace rX := rX.mono (ok' := fun b => W3.heap.size ≤ b ∧ b < W4.heap.size) (fun _ h1 h2 => ⟨h1, h2⟩)
            clear hX
            have hz4 := hbn.size
            go_simp
            refine hK4.out _ _ (hSS.below hbn) (fun hSS => ?_)
            clear hbn hK4
            refine wpAnyH_ready (rs := [4]) (by kernel_rfl) (by simp) (AllReadyH.cons rfl (fun K5 hK5 => ?_) AllReadyH.nil)
            refine step_plain (by rfl) ?_
            simp only [List.getElem_toArray, List.getElem_cons_zero, List.getElem_cons_succ]
            go_simp
            go_at_call 9
            refine (C2.out _ hSS.2.2).mono ?_
            rintro e W5 ⟨yp, rfl, hY, hbn⟩
            replace rX := rX.stays hbn
            replace hA := (hbn.block _ (Array.getElem?_eq_some_iff.1 hA).1).trans hA
            replace hB := (hbn.block _ (Array.getElem?_eq_some_iff.1 hB).1).trans hB
            have hz5 := hbn.size
            go_simp
            refine hK5.out _ _ (hSS.below hbn) (fun hSS => ?_)
            clear hbn hK5
            refine wpAnyH_ready (rs := [5]) (by kernel_rfl) (by simp) (AllReadyH.cons rfl (fun K6 hK6 => ?_) AllReadyH.nil)
            refine step_plain (by rfl) ?_
            simp only [List.getElem_toArray, List.getElem_cons_zero, List.getElem_cons_succ]
            go_simp
            go_at_call 11
            refine (T2.out _ _ _ hY).mono ?_
            rintro e W6 ⟨b, rfl, hb1, rY, hbn⟩
            replace rX := rX.stays hbn
            replace hY := hY.stays hbn
            replace hA := (hbn.block _ (Array.getElem?_eq_some_iff.1 hA).1).trans hA
            replace hB := (hbn.block _ (Array.getElem?_eq_some_iff.1 hB).1).trans hB
            replace rY := rY.mono (ok' := fun b => W5.heap.size ≤ b ∧ b < W6.heap.size) (fun _ h1 h2 => ⟨h1, h2⟩)
            clear hY
            have hz6 := hbn.size
            go_simp
            refine hK6.out _ _ (hSS.below hbn) (fun hSS => ?_)
            clear hbn hK6
            have hTwo := TwoR.mk (A := W2.heap.size) (B := W0.heap.size) hSS.2.2 hA hB rX rY (by omega) (by omega) (by omega) (fun b hb => by omega) (fun b hb => by omega)
            have hS8 : Below w.heap.size w (World.setCell W6 ⟨W2.heap.size, 0, none⟩ a) := hSS.2.2.setCell (p := ⟨W2.heap.size, 0, none⟩) (show _ ≤ W2.heap.size by omega) a
            have hS9 := hS8.setCell (p := ⟨W0.heap.size, 0, none⟩) (show _ ≤ W0.heap.size by omega) b
            have hB6 := (Below.heap_setCell W6 ⟨W2.heap.size, 0, none⟩ a (W0.heap.size) (show W0.heap.size ≠ W2.heap.size by omega)).trans hB
            have hQ8 : BW w (World.setCell W6 ⟨W2.heap.size, 0, none⟩ a) v p u q := ⟨(Below.heap_setCell _ _ _ _ (show w.heap.size ≠ W2.heap.size by omega)).trans hSS.1, (Below.heap_setCell _ _ _ _ (show w.heap.size + 1 ≠ W2.heap.size by omega)).trans hSS.2.1, hS8⟩
            have hQ9 : BW w (World.setCell (World.setCell W6 ⟨W2.heap.size, 0, none⟩ a) ⟨W0.heap.size, 0, none⟩ b) v p u q := ⟨(Below.heap_setCell _ _ _ _ (show w.heap.size ≠ W0.heap.size by omega)).trans hQ8.1, (Below.heap_setCell _ _ _ _ (show w.heap.size + 1 ≠ W0.heap.size by omega)).trans hQ8.2.1, hS9⟩
            refine wpAnyH_ready (rs := [8]) (by kernel_rfl) (by simp) (AllReadyH.cons rfl (fun K7 hK7 => ?_) AllReadyH.nil)
            refine step_set1 (by rfl) _ _ (by rfl) (by rfl) (B := W2.heap.size) (u := a) (by rfl) (by rfl) ha1 hA ?_
            refine hK7.out _ _ hQ8 (fun hSS6 => ?_)
            clear hQ8 hS8 hS9 hK7
            generalize World.setCell W6 ⟨W2.heap.size, 0, none⟩ a = WB at *
            refine wpAnyH_ready (rs := [9]) (by kernel_rfl) (by simp) (AllReadyH.cons rfl (fun K8 hK8 => ?_) AllReadyH.nil)
            refine step_set1 (by rfl) _ _ (by rfl) (by rfl) (B := W0.heap.size) (u := b) (by rfl) (by rfl) hb1 hB6 ?_
            refine hK8.out _ _ hQ9 (fun hSS7 => ?_)
            clear hQ9 hK8
            generalize World.setCell WB ⟨W0.heap.size, 0, none⟩ b = WC at *
            refine wpAnyH_done (by kernel_rfl) ?_ _
            go_wp2_with fail
            go_meet
            exact hTwo
        · refine step_plain (by rfl) ?_
          simp only [List.getElem_toArray, List.getElem_cons_zero, List.getElem_cons_succ]
          go_simp
          have hbn : Below W1.heap.size W1 (W1.alloc (.cells #[.nilIface] 34)) := (Below.refl _ _).alloc (Nat.le_refl _) _
          have hA := heap_alloc_new W1 (.cells #[.nilIface] 34)
          replace hB := (hbn.block _ (Array.getElem?_eq_some_iff.1 hB).1).trans hB
          have hz2 : W1.heap.size < (W1.alloc (.cells #[.nilIface] 34)).heap.size := by simp
          refine hK2.out _ _ (hSS.below hbn) (fun hSS => ?_)
          clear hbn hK2
          generalize W1.alloc (.cells #[.nilIface] 34) = W2 at *
          refine wpAnyH_ready (rs := [1]) (by kernel_rfl) (by simp) (AllReadyH.cons rfl (fun K3 hK3 => ?_) AllReadyH.nil)
          refine step_plain (by rfl) ?_
          simp only [List.getElem_toArray, List.getElem_cons_zero, List.getElem_cons_succ]
          go_simp
          go_at_call 9
          refine (C1.out _ hSS.2.2).mono ?_
          rintro e W3 ⟨xp, rfl, hX, hbn⟩
          replace hA := (hbn.block _ (Array.getElem?_eq_some_iff.1 hA).1).trans hA
          replace hB := (hbn.block _ (Array.getElem?_eq_some_iff.1 hB).1).trans hB
          have hz3 := hbn.size
          go_simp
          refine hK3.out _ _ (hSS.below hbn) (fun hSS => ?_)
          clear hbn hK3
          refine wpAnyH_ready (rs := [2]) (by kernel_rfl) (by simp) (AllReadyH.cons rfl (fun K4 hK4 => ?_) AllReadyH.nil)
          refine step_plain (by rfl) ?_
          simp only [List.getElem_toArray, List.getElem_cons_zero, List.getElem_cons_succ]
          go_simp
          go_at_call 11
          refine (T1.out _ _ _ hX).mono ?_
          rintro e W4 ⟨a, rfl, ha1, rX, hbn⟩
          replace hX := hX.stays hbn
          replace hA := (hbn.block _ (Array.getElem?_eq_some_iff.1 hA).1).trans hA
          replace hB := (hbn.block _ (Array.getElem?_eq_some_iff.1 hB).1).trans hB
          replace rX := rX.mono (ok' := fun b => W3.heap.size ≤ b ∧ b < W4.heap.size) (fun _ h1 h2 => ⟨h1, h2⟩)
          clear hX
          have hz4 := hbn.size
          go_simp
          refine hK4.out _ _ (hSS.below hbn) (fun hSS => ?_)
          clear hbn hK4
          refine wpAnyH_ready (rs := [4]) (by kernel_rfl) (by simp) (AllReadyH.cons rfl (fun K5 hK5 => ?_) AllReadyH.nil)
          refine step_plain (by rfl) ?_
          simp only [List.getElem_toArray, List.getElem_cons_zero, List.getElem_cons_succ]
          go_simp
          go_at_call 9
          refine (C2.out _ hSS.2.2).mono ?_
          rintro e W5 ⟨yp, rfl, hY, hbn⟩
          replace rX := rX.stays hbn
          replace hA := (hbn.block _ (Array.getElem?_eq_some_iff.1 hA).1).trans hA
          replace hB := (hbn.block _ (Array.getElem?_eq_some_iff.1 hB).1).trans hB
          have hz5 := hbn.size
          go_simp
          refine hK5.out _ _ (hSS.below hbn) (fun hSS => ?_)
          clear hbn hK5
          refine wpAnyH_ready (rs := [5]) (by kernel_rfl) (by simp) (AllReadyH.cons rfl (fun K6 hK6 => ?_) AllReadyH.nil)
          refine step_plain (by rfl) ?_
          simp only [List.getElem_toArray, List.getElem_cons_zero, List.getElem_cons_succ]
          go_simp
          go_at_call 11
          refine (T2.out _ _ _ hY).mono ?_
          rintro e W6 ⟨b, rfl, hb1, rY, hbn⟩
          replace rX := rX.stays hbn
          replace hY := hY.stays hbn
          replace hA := (hbn.block _ (Array.getElem?_eq_some_iff.1 hA).1).trans hA
          replace hB := (hbn.block _ (Array.getElem?_eq_some_iff.1 hB).1).trans hB
          replace rY := rY.mono (ok' := fun b => W5.heap.size ≤ b ∧ b < W6.heap.size) (fun _ h1 h2 => ⟨h1, h2⟩)
          clear hY
          have hz6 := hbn.size
          go_simp
          refine hK6.out _ _ (hSS.below hbn) (fun hSS => ?_)
          clear hbn hK6
          have hTwo := TwoR.mk (A := W1.heap.size) (B := W0.heap.size) hSS.2.2 hA hB rX rY (by omega) (by omega) (by omega) (fun b hb => by omega) (fun b hb => by omega)
          have hS8 : Below w.heap.size w (World.setCell W6 ⟨W1.heap.size, 0, none⟩ a) := hSS.2.2.setCell (p := ⟨W1.heap.size, 0, none⟩) (show _ ≤ W1.heap.size by omega) a
          have hS9 := hS8.setCell (p := ⟨W0.heap.size, 0, none⟩) (show _ ≤ W0.heap.size by omega) b
          have hB6 := (Below.heap_setCell W6 ⟨W1.heap.size, 0, none⟩ a (W0.heap.size) (show W0.heap.size ≠ W1.heap.size by omega)).trans hB
          have hQ8 : BW w (World.setCell W6 ⟨W1.heap.size, 0, none⟩ a) v p u q := ⟨(Below.heap_setCell _ _ _ _ (show w.heap.size ≠ W1.heap.size by omega)).trans hSS.1, (Below.heap_setCell _ _ _ _ (show w.heap.size + 1 ≠ W1.heap.size by omega)).trans hSS.2.1, hS8⟩
          have hQ9 : BW w (World.setCell (World.setCell W6 ⟨W1.heap.size, 0, none⟩ a) ⟨W0.heap.size, 0, none⟩ b) v p u q := ⟨(Below.heap_setCell _ _ _ _ (show w.heap.size ≠ W0.heap.size by omega)).trans hQ8.1, (Below.heap_setCell _ _ _ _ (show w.heap.size + 1 ≠ W0.heap.size by omega)).trans hQ8.2.1, hS9⟩
          refine wpAnyH_ready (rs := [8]) (by kernel_rfl) (by simp) (AllReadyH.cons rfl (fun K7 hK7 => ?_) AllReadyH.nil)
          refine step_set1 (by rfl) _ _ (by rfl) (by rfl) (B := W1.heap.size) (u := a) (by rfl) (by rfl) ha1 hA ?_
          refine hK7.out _ _ hQ8 (fun hSS6 => ?_)
          clear hQ8 hS8 hS9 hK7
          generalize World.setCell W6 ⟨W1.heap.size, 0, none⟩ a = WB at *
          refine wpAnyH_ready (rs := [9]) (by kernel_rfl) (by simp) (AllReadyH.cons rfl (fun K8 hK8 => ?_) AllReadyH.nil)
          refine step_set1 (by rfl) _ _ (by rfl) (by rfl) (B := W0.heap.size) (u := b) (by rfl) (by rfl) hb1 hB6 ?_
          refine hK8.out _ _ hQ9 (fun hSS7 => ?_)
          clear hQ9 hK8
          generalize World.setCell WB ⟨W0.heap.size, 0, none⟩ b = WC at *
          refine wpAnyH_done (by kernel_rfl) ?_ _
          go_wp2_with fail
          go_meet
          exact hTwo
    case rest =>
      obtain ⟨A, B, a, b, rfl, rfl, hA, hB, rX, rY, hb4⟩ := hcut
      have cA := cell_of_row _ _ 0 _ _ _ hA
      have lA := (Array.getElem?_eq_some_iff.1 hA).1
      have lB := (Array.getElem?_eq_some_iff.1 hB).1
      have nX := rX.nok
      have nY := rY.nok
      clear hB3 HBC C1 C2 T1 T2
      go_wp2_with fail
      refine (pencode_any rX HCX.out.1 nX HCX.out.2.2.1).mono ?_
      rintro e w5 ⟨a5, c5, rfl, hrow5, -, -, -, -, hb5⟩
      have hA5 := (hb5.block _ lA).trans hA
      have hB5 := (hb5.block _ lB).trans hB
      have cB5 := cell_of_row _ _ 0 _ _ _ hB5
      have rX5 := rX.stays hb5
      have rY5 := rY.stays hb5
      have hW5 := hb4.trans (hb5.mono hb4.size)
      clear cA hA hB lA lB rX rY hb4 hb5
      go_wp2_with fail
      refine (pencode_any rY5 HCX.out.2.1 nY HCX.out.2.2.2).mono ?_
      rintro e w6 ⟨a6, c6, rfl, hrow6, -, -, -, -, hb6⟩
      have hA6 := (hb6.block _ (Array.getElem?_eq_some_iff.1 hA5).1).trans hA5
      have hB6 := (hb6.block _ (Array.getElem?_eq_some_iff.1 hB5).1).trans hB5
      have hrow5' := hrow5.below hb6
      have rX6 := rX5.stays hb6
      have rY6 := rY5.stays hb6
      have hW6 := hW5.trans (hb6.mono hW5.size)
      clear cB5 hA5 hB5 hrow5 rX5 rY5 hW5 hb6
      obtain ⟨zs, hzs⟩ : ∃ zs, x.enc.1 = zs := ⟨_, rfl⟩
      obtain ⟨zs', hzs'⟩ : ∃ zs, y.enc.1 = zs := ⟨_, rfl⟩
      obtain ⟨e1, he1⟩ : ∃ e, x.enc.2 = e := ⟨_, rfl⟩
      obtain ⟨e2, he2⟩ : ∃ e, y.enc.2 = e := ⟨_, rfl⟩
      rw [hzs] at hrow5'
      rw [hzs'] at hrow6
      have HX := hide (show x.enc = (zs, e1) by rw [← hzs, ← he1])
      have HY := hide (show y.enc = (zs', e2) by rw [← hzs', ← he2])
      rw [hzs, hzs', he1, he2]
      clear hzs hzs' he1 he2
      by_cases h1 : e1 = 0
      · subst h1
        by_cases h2 : e2 = 0
        · subst h2
          have hinj := enc_inj HX.out HY.out HCX.out.1 HCX.out.2.1 nX nY
          have CS := hide (fun W (hW : Below w6.heap.size w6 W) => same_any (rX6.stays hW) (rY6.stays hW) HCX.out.2.2.1)
          have hsb := str_beq zs zs' hrow5'.byte hrow6.byte
          have HF : Hid (∀ W, Below w6.heap.size w6 W → (convert 29 9 (.slice a5 zs.length c5)).run Tryz.prog W = .ok (.string (strOfNums zs)) W ∧ (convert 29 9 (.slice a6 zs'.length c6)).run Tryz.prog W = .ok (.string (strOfNums zs')) W ∧ W.cell? ⟨A, 0, none⟩ = some a ∧ W.cell? ⟨B, 0, none⟩ = some b) := fun W hW =>
            ⟨(hrow5'.below hW).text _ _ rfl, (hrow6.below hW).text _ _ rfl, cell_of_row _ _ 0 _ _ _ ((hW.block _ (Array.getElem?_eq_some_iff.1 hA6).1).trans hA6), cell_of_row _ _ 0 _ _ _ ((hW.block _ (Array.getElem?_eq_some_iff.1 hB6).1).trans hB6)⟩
          obtain ⟨r1, hr1⟩ : ∃ r1 : Bool, decide (zs = zs') = r1 := ⟨_, rfl⟩
          have HI : Hid (r1 = true ↔ x = y) := by show _ ↔ _; rw [← hr1, ← hinj, decide_eq_true_iff]
          rw [hr1] at hsb
          clear hinj hr1 hrow5' hrow6 hA6 hB6 rX6 rY6 nX nY HX HY
          generalize strOfNums zs = s1 at *
          generalize strOfNums zs' = s2 at *
          generalize zs.length = n1 at *
          generalize zs'.length = n2 at *
          go_wp2_with fail
          refine wp_region_held_drew (S := fun W => Below w6.heap.size w6 W) (by kernel_rfl) (Below.refl _ _).drew (fun hSS => ?_)
          refine wpAnyH_take (i := 0) (v := ?_) rfl (by kernel_rfl) (by kernel_rfl) (by kernel_rfl) (fun _ _ _ h => h) (Or.inl ⟨by rfl, ?_⟩) hSS ?_
          rotate_left
          · intro wz hSz
            go_simp
            try with_reducible rfl
          simp only [List.getElem_toArray, List.getElem_cons_zero, Act.put, List.setIfInBounds_toArray, List.set_cons_zero, List.set_cons_succ]
          refine wpAnyH_take (i := 1) (v := ?_) rfl (by kernel_rfl) (by kernel_rfl) (by kernel_rfl) (fun _ _ _ h => h) (Or.inl ⟨by rfl, ?_⟩) hSS ?_
          rotate_left
          · intro wz hSz
            obtain ⟨hcv1, hcv2, p1, p2⟩ := HF.out _ hSz
            go_simp
            try with_reducible rfl
          simp only [List.getElem_toArray, List.getElem_cons_zero, List.getElem_cons_succ, Act.put, List.setIfInBounds_toArray, List.set_cons_zero, List.set_cons_succ]
          refine wpAnyH_take (i := 2) (v := ?_) rfl (by kernel_rfl) (by kernel_rfl) (by kernel_rfl) (fun _ _ _ h => h) (Or.inl ⟨by rfl, ?_⟩) hSS ?_
          rotate_left
          · intro wz hSz
            go_simp
            try with_reducible rfl
          simp only [List.getElem_toArray, List.getElem_cons_zero, List.getElem_cons_succ, Act.put, List.setIfInBounds_toArray, List.set_cons_zero, List.set_cons_succ]
          refine wpAnyH_take (i := 3) (v := ?_) rfl (by kernel_rfl) (by kernel_rfl) (by kernel_rfl) (fun _ _ _ h => h) (Or.inl ⟨by rfl, ?_⟩) hSS ?_
          rotate_left
          · intro wz hSz
            obtain ⟨hcv1, hcv2, p1, p2⟩ := HF.out _ hSz
            go_simp
            try with_reducible rfl
          simp only [List.getElem_toArray, List.getElem_cons_zero, List.getElem_cons_succ, Act.put, List.setIfInBounds_toArray, List.set_cons_zero, List.set_cons_succ]
          refine wpAnyH_take (i := 4) (v := ?_) rfl (by kernel_rfl) (by kernel_rfl) (by kernel_rfl) (fun _ _ _ h => h) (Or.inl ⟨by rfl, ?_⟩) hSS ?_
          rotate_left
          · intro wz hSz
            go_simp
            try with_reducible rfl
          simp only [List.getElem_toArray, List.getElem_cons_zero, List.getElem_cons_succ, Act.put, List.setIfInBounds_toArray, List.set_cons_zero, List.set_cons_succ]
          refine wpAnyH_take (i := 5) (v := ?_) rfl (by kernel_rfl) (by kernel_rfl) (by kernel_rfl) (fun _ _ _ h => h) (Or.inl ⟨by rfl, ?_⟩) hSS ?_
          rotate_left
          · intro wz hSz
            obtain ⟨hcv1, hcv2, p1, p2⟩ := HF.out _ hSz
            go_simp
            try with_reducible rfl
          simp only [List.getElem_toArray, List.getElem_cons_zero, List.getElem_cons_succ, Act.put, List.setIfInBounds_toArray, List.set_cons_zero, List.set_cons_succ]
          refine wpAnyH_take (i := 6) (v := ?_) rfl (by kernel_rfl) (by kernel_rfl) (by kernel_rfl) (fun _ _ _ h => h) (Or.inl ⟨by rfl, ?_⟩) hSS ?_
          rotate_left
          · intro wz hSz
            obtain ⟨hcv1, hcv2, p1, p2⟩ := HF.out _ hSz
            go_simp
            try with_reducible rfl
          simp only [List.getElem_toArray, List.getElem_cons_zero, List.getElem_cons_succ, Act.put, List.setIfInBounds_toArray, List.set_cons_zero, List.set_cons_succ]
          refine wpAnyH_ready (rs := [7]) (by kernel_rfl) (by simp) (AllReadyH.cons rfl (fun K1 hK1 => ?_) AllReadyH.nil)
          refine step_plain (by rfl) ?_
          simp only [List.getElem_toArray, List.getElem_cons_zero, List.getElem_cons_succ]
          go_simp
          go_at_call 20
          refine (CS.out _ hSS).mono ?_
          rintro e w7 ⟨⟨r2, rfl, hr2⟩, hb7⟩
          obtain rfl : r2 = r1 := by rw [Bool.eq_iff_iff, hr2, HI.out]
          clear hr2 HI
          go_simp
          refine hK1.out _ _ (hSS.trans (hb7.mono hSS.size)) (fun hSS => ?_)
          clear hK1 hb7
          refine wpAnyH_take (i := 8) (v := ?_) rfl (by kernel_rfl) (by kernel_rfl) (by kernel_rfl) (fun _ _ _ h => h) (Or.inl ⟨by rfl, ?_⟩) hSS ?_
          rotate_left
          · intro wz hSz
            go_simp
            try with_reducible rfl
          simp only [List.getElem_toArray, List.getElem_cons_zero, List.getElem_cons_succ, Act.put, List.setIfInBounds_toArray, List.set_cons_zero, List.set_cons_succ]
          refine wpAnyH_take (i := 9) (v := ?_) rfl (by kernel_rfl) (by kernel_rfl) (by kernel_rfl) (fun _ _ _ h => h) (Or.inl ⟨by rfl, ?_⟩) hSS ?_
          rotate_left
          · intro wz hSz
            go_simp
            try with_reducible rfl
          simp only [List.getElem_toArray, List.getElem_cons_zero, List.getElem_cons_succ, Act.put, List.setIfInBounds_toArray, List.set_cons_zero, List.set_cons_succ]
          refine wpAnyH_done (by kernel_rfl) ?_ _
          go_wp2_with fail
          go_ret
          exact ⟨by simp, hW6.trans (hSS.mono hW6.size)⟩
        · have h2' : (e2 != 0) = true := by simpa using h2
          clear HX HY hrow5' hrow6 rX6 rY6 hA6 hB6 h2
          go_wp2_with fail
          go_ret
          exact ⟨rfl, hW6⟩
      · have h1' : (e1 != 0) = true := by simpa using h1
        clear HX HY hrow5' hrow6 rX6 rY6 hA6 hB6 h1
        go_wp2_with fail
        go_ret
        exact ⟨rfl, hW6⟩
end Go.Proofs.YtepohbcpepkboaaGreat

