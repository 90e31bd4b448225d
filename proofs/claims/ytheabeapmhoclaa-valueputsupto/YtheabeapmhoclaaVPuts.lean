/- ValuePuts, walked: of any two values, and any two ways, it answers true. Condition: values and steps of at most 1048576 values and letters together. -/
import Derived.Test.YtheabeapmhoclaaVWith
import Derived.Test.YtheabeapmhoclaaVClean
import Derived.Test.YtheabeapmhoclaaVGreat
import Derived.Test.YtheabeapmhoclaaVAwake
import Derived.Test.YtheabeapmhoclaaVSame
import Derived.Test.YtheabeapmhoclaaVTo
import Derived.Test.YtheabeapmhoclaaVTwo
import Derived.Test.YtheabeapmhoclaaVPutsP
import Derived.Test.YtheabeapmhoclaaVStepEq
import Derived.Deep.CutRange
namespace Go.Proofs.Ytheabeapmhoclaa
open Go.RowKit Go.Maps Go.WideMaps

/-- The blocks of the law's own that it reads again: the value, the one that is put in, the answer. -/
def PX (w W : World) (A B D : Nat) (a b g : Value) (x y z : V) : Prop := W.heap[A]? = some (.cells #[a] 30 (0, 0)) ∧ W.heap[B]? = some (.cells #[b] 30 (0, 0)) ∧ W.heap[D]? = some (.cells #[g] 30 (0, 0)) ∧ Rep W (fun _ => True) a x ∧ Rep W (fun _ => True) b y ∧ Rep W (fun _ => True) g z ∧ Below w.heap.size w W
set_option maxRecDepth 100000 in
theorem PX.below {w W W' : World} {A B D : Nat} {a b g : Value} {x y z : V} (h : PX w W A B D a b g x y z) (hb : Below W.heap.size W W') : PX w W' A B D a b g x y z := by
  obtain ⟨h1, h2, h3, h4, h5, h6, h7⟩ := h
  have l1 := (Array.getElem?_eq_some_iff.1 h1).1
  have l2 := (Array.getElem?_eq_some_iff.1 h2).1
  have l3 := (Array.getElem?_eq_some_iff.1 h3).1
  exact ⟨(hb.block _ l1).trans h1, (hb.block _ l2).trans h2, (hb.block _ l3).trans h3, h4.stays hb, h5.stays hb, h6.stays hb, h7.trans (hb.mono h7.size)⟩
set_option maxRecDepth 100000 in
theorem PX.cells {w W : World} {A B D : Nat} {a b g : Value} {x y z : V} (h : PX w W A B D a b g x y z) : W.cell? ⟨A, 0, none⟩ = some a ∧ W.cell? ⟨B, 0, none⟩ = some b ∧ W.cell? ⟨D, 0, none⟩ = some g :=
  ⟨cell_of_row _ _ 0 _ _ _ h.1, cell_of_row _ _ 0 _ _ _ h.2.1, cell_of_row _ _ 0 _ _ _ h.2.2.1⟩
set_option maxRecDepth 100000 in
set_option maxHeartbeats 25600000 in
theorem puts_law {w : World} {v u : V} {p q : VP} {l m : List St} {la ma : Option Addr} {lc mc : Nat} (hv : VIn w (fun _ => True) v p) (hu : VIn w (fun _ => True) u q) (hl : StRow w la l ∧ SliceOk la l.length lc) (hm : StRow w ma m ∧ SliceOk ma m.length mc) (hbk : v.bulk + u.bulk + sumSt l + sumSt m ≤ 1048576) :
    Calls Try.prog 5 #[v.val p, u.val q, .slice la l.length lc, .slice ma m.length mc] w fun e w' => e = .returned (.bool true) ∧ Below w.heap.size w w' := by
  have hvb : v.bulk ≤ 1048576 := by omega
  have hub : u.bulk ≤ 1048576 := by omega
  have hln : l.length ≤ 1048575 := by have := sumSt_len l; have := v.bulk_pos; omega
  have hmn : m.length ≤ 1048575 := by have := sumSt_len m; have := v.bulk_pos; omega
  have G1 : Hid (∀ W, Below w.heap.size w W → Calls Try.prog 8 #[v.val p] W fun e w' => (∃ g : Int, e = .returned (.int .i64 g)) ∧ Below W.heap.size W w') := fun W hW => great_v hv W hW hvb
  have G2 : Hid (∀ W, Below w.heap.size w W → Calls Try.prog 8 #[u.val q] W fun e w' => (∃ g : Int, e = .returned (.int .i64 g)) ∧ Below W.heap.size W w') := fun W hW => great_v hu W hW hub
  have CA : Hid (∀ W, Calls Try.prog 9 #[] W fun e w' => e = .returned (.bool true) ∧ Below W.heap.size W w') := awake4_any
  have C1 : Hid (∀ W, Below w.heap.size w W → Calls Try.prog 10 #[v.val p] W fun e w' => ∃ p', e = .returned (v.clean.val p') ∧ VIn w' (fun b => W.heap.size ≤ b) v.clean p' ∧ Below W.heap.size W w') := fun W hW => clean_any hv W hW hvb
  have C2 : Hid (∀ W, Below w.heap.size w W → Calls Try.prog 10 #[u.val q] W fun e w' => ∃ p', e = .returned (u.clean.val p') ∧ VIn w' (fun b => W.heap.size ≤ b) u.clean p' ∧ Below W.heap.size W w') := fun W hW => clean_any hu W hW hub
  have hx := clean_cl v
  have hy := clean_cl u
  have hxy : v.clean.bulk + u.clean.bulk + sumSt l ≤ 1048576 := by have := clean_bulk v; have := clean_bulk u; omega
  have hK : ∀ s ∈ l, 1 + s.key.size ≤ sumSt l := sumSt_mem l
  have T1 : Hid (∀ W xp (ok : Nat → Prop), VIn W ok v.clean xp → Calls Try.prog 11 #[v.clean.val xp] W fun e w' => ∃ a, e = .returned (.agg #[a]) ∧ a.oneCell' = true ∧ Rep w' (fun b => W.heap.size ≤ b) a v.clean ∧ Below W.heap.size W w') := fun W xp ok h => by
    refine (to_any h W (Below.refl _ _) (by omega) hx).mono ?_
    rintro e w' ⟨a, rfl, h1, h2⟩
    exact ⟨a, rfl, h1.one, h1, h2⟩
  have T2 : Hid (∀ W xp (ok : Nat → Prop), VIn W ok u.clean xp → Calls Try.prog 11 #[u.clean.val xp] W fun e w' => ∃ a, e = .returned (.agg #[a]) ∧ a.oneCell' = true ∧ Rep w' (fun b => W.heap.size ≤ b) a u.clean ∧ Below W.heap.size W w') := fun W xp ok h => by
    refine (to_any h W (Below.refl _ _) (by omega) hy).mono ?_
    rintro e w' ⟨a, rfl, h1, h2⟩
    exact ⟨a, rfl, h1.one, h1, h2⟩
  have CWI : Hid (∀ W a b, Below w.heap.size w W → Rep W (fun _ => True) a v.clean → Rep W (fun _ => True) b u.clean → Calls Try.prog 24 #[.agg #[a], .agg #[b], .slice la l.length lc] W fun e w' => ∃ g, e = .returned (.tuple #[.agg #[g], .int .i64 (v.clean.withR u.clean l).2]) ∧ g.oneCell' = true ∧ Rep w' (fun _ => True) g (v.clean.withR u.clean l).1 ∧ Below W.heap.size W w') := fun W a b hW ha hb => by
    refine (with_any (ok := fun _ => True) (fun _ _ => trivial) ha hx hb la l lc (hl.1.below hW) hl.2 hln hK (by omega)).mono ?_
    rintro e w' ⟨g, rfl, h1, h2⟩
    exact ⟨g, rfl, h1.one, h1, h2⟩
  have CGL : Hid (∀ W a (z : V), Below w.heap.size w W → Rep W (fun _ => True) a z → Calls Try.prog 23 #[.agg #[a], .slice la l.length lc] W fun e w' => ∃ g, e = .returned (.tuple #[.agg #[g], .int .i64 (z.goTo l).2]) ∧ g.oneCell' = true ∧ Rep w' (fun _ => True) g (z.goTo l).1 ∧ Below W.heap.size W w') := fun W a z hW ha => by
    refine (go_any ha la l lc (hl.1.below hW) (by omega)).mono ?_
    rintro e w' ⟨g, rfl, h1, h2⟩
    exact ⟨g, rfl, h1.one, h1.stays h2, h2⟩
  have CGM : Hid (∀ W a (z : V), Below w.heap.size w W → Rep W (fun _ => True) a z → Calls Try.prog 23 #[.agg #[a], .slice ma m.length mc] W fun e w' => ∃ g, e = .returned (.tuple #[.agg #[g], .int .i64 (z.goTo m).2]) ∧ g.oneCell' = true ∧ Rep w' (fun _ => True) g (z.goTo m).1 ∧ Below W.heap.size W w') := fun W a z hW ha => by
    refine (go_any ha ma m mc (hm.1.below hW) (by omega)).mono ?_
    rintro e w' ⟨g, rfl, h1, h2⟩
    exact ⟨g, rfl, h1.one, h1.stays h2, h2⟩
  have HSL : Hid (∀ W j, Below w.heap.size w W → ∀ hj : j < l.length, ∃ b off, la = some ⟨b, off, none⟩ ∧ W.cell? ⟨b, off + j * 2, none⟩ = some (.string l[j].key) ∧ W.cell? ⟨b, off + j * 2 + 1, none⟩ = some (.int .i64 l[j].at_)) := fun W j hW hj => by
    obtain ⟨b, off, e, hc⟩ := (hl.1.below hW).2 (by intro e; subst e; simp at hj)
    exact ⟨b, off, e, (hc j hj).1, (hc j hj).2⟩
  have HSM : Hid (∀ W j, Below w.heap.size w W → ∀ hj : j < m.length, ∃ b off, ma = some ⟨b, off, none⟩ ∧ W.cell? ⟨b, off + j * 2, none⟩ = some (.string m[j].key) ∧ W.cell? ⟨b, off + j * 2 + 1, none⟩ = some (.int .i64 m[j].at_)) := fun W j hW hj => by
    obtain ⟨b, off, e, hc⟩ := (hm.1.below hW).2 (by intro e; subst e; simp at hj)
    exact ⟨b, off, e, (hc j hj).1, (hc j hj).2⟩
  have HPA : Hid (∀ k (h1 : k < l.length) (h2 : k < m.length), l.take k = m.take k → l[k] ≠ m[k] → leadB l[k] m[k] = true → (v.clean.withR u.clean l).2 = 0 → (v.clean.goTo m).2 = 0 → (v.clean.withR u.clean l).1.goTo m = v.clean.goTo m) := fun k h1 h2 h3 h4 h5 h6 h7 => puts_part hx hy k h1 h2 h3 h4 h5 h6 h7
  have HGO : Hid ((v.clean.withR u.clean l).2 = 0 → (v.clean.withR u.clean l).1.goTo l = (u.clean, 0)) := fun h => withR_goTo l hx hy h
  have HNU : Hid ((v.clean.withR u.clean l).2 ≠ 0 → (v.clean.withR u.clean l).1 = V.null) := fun h => withR_null l h
  have HSA : Hid (∀ W a b, Rep W (fun _ => True) a u.clean → Rep W (fun _ => True) b u.clean → Calls Try.prog 28 #[.agg #[a], .agg #[b]] W fun e w' => e = .returned (.bool true) ∧ Below W.heap.size W w') := fun W a b ha hb => same_self ha hb (by omega)
  have HSG : Hid (∀ W a b, Rep W (fun _ => True) a (v.clean.goTo m).1 → Rep W (fun _ => True) b (v.clean.goTo m).1 → Calls Try.prog 28 #[.agg #[a], .agg #[b]] W fun e w' => e = .returned (.bool true) ∧ Below W.heap.size W w') := fun W a b ha hb => same_self ha hb (by have := goTo_bulk hx m; omega)
  have hB0 := BW.start w v p u q
  have HBC : Hid (∀ W, BW w W v p u q → (W.cell? ⟨w.heap.size, 0, none⟩ = some (.int .i64 v.k) ∧ W.cell? ⟨w.heap.size, 1, none⟩ = some (.bool v.b) ∧ W.cell? ⟨w.heap.size, 2, none⟩ = some (.int .i64 v.n) ∧ W.cell? ⟨w.heap.size, 3, none⟩ = some (.int .i64 v.m) ∧ W.cell? ⟨w.heap.size, 4, none⟩ = some (.string v.s) ∧ W.cell? ⟨w.heap.size, 5, none⟩ = some (.slice p.la v.l.length p.lc) ∧ W.cell? ⟨w.heap.size, 6, none⟩ = some (.slice p.ka v.keys.length p.kc)) ∧ (W.cell? ⟨w.heap.size + 1, 0, none⟩ = some (.int .i64 u.k) ∧ W.cell? ⟨w.heap.size + 1, 1, none⟩ = some (.bool u.b) ∧ W.cell? ⟨w.heap.size + 1, 2, none⟩ = some (.int .i64 u.n) ∧ W.cell? ⟨w.heap.size + 1, 3, none⟩ = some (.int .i64 u.m) ∧ W.cell? ⟨w.heap.size + 1, 4, none⟩ = some (.string u.s) ∧ W.cell? ⟨w.heap.size + 1, 5, none⟩ = some (.slice q.la u.l.length q.lc) ∧ W.cell? ⟨w.heap.size + 1, 6, none⟩ = some (.slice q.ka u.keys.length q.kc))) := fun W hB => ⟨box_cells hB.1, box_cells hB.2.1⟩
  clear hv hu hbk hvb hub hl hm hx hy hxy hK
  generalize v.clean = x at *
  generalize u.clean = y at *
  generalize x.withR y l = R at *
  obtain ⟨z, er⟩ := R
  dsimp only at *
  unfold V.val at G1 G2 C1 C2 T1 T2 ⊢
  obtain ⟨⟨k0, k1, k2, k3, k4, k5, k6⟩, ⟨l0, l1, l2, l3, l4, l5, l6⟩⟩ := HBC.out _ hB0
  unfold V.box at hB0 k0 k1 k2 k3 k4 k5 k6 l0 l1 l2 l3 l4 l5 l6
  go_enter Try.func5, Try.ntmps5
  go_wp2_with fail
  refine (G1.out _ hB0.2.2).mono ?_
  rintro e w1 ⟨⟨g1, rfl⟩, hb1⟩
  have hB1 := BW.below hB0 hb1
  clear k0 k1 k2 k3 k4 k5 k6 l0 l1 l2 l3 l4 l5 l6 G1 hb1 hB0
  obtain ⟨⟨k0, k1, k2, k3, k4, k5, k6⟩, ⟨l0, l1, l2, l3, l4, l5, l6⟩⟩ := HBC.out _ hB1
  by_cases hg1 : 0 < g1
  · clear C1 C2 T1 T2 CWI CGL CGM HSL HSM HPA HGO HNU HSA HSG HBC G2
    go_wp2_with fail
    refine (CA.out _).mono ?_
    rintro e w3 ⟨rfl, hb3⟩
    go_wp2_with fail
    go_ret
    exact ⟨rfl, (hB1.below hb3).2.2⟩
  · go_wp2_with fail
    refine (G2.out _ hB1.2.2).mono ?_
    rintro e w2 ⟨⟨g2, rfl⟩, hb2⟩
    have hB2 := BW.below hB1 hb2
    clear k0 k1 k2 k3 k4 k5 k6 l0 l1 l2 l3 l4 l5 l6 G2 hb2 hB1
    obtain ⟨⟨k0, k1, k2, k3, k4, k5, k6⟩, ⟨l0, l1, l2, l3, l4, l5, l6⟩⟩ := HBC.out _ hB2
    by_cases hg2 : 0 < g2
    · clear C1 C2 T1 T2 CWI CGL CGM HSL HSM HPA HGO HNU HSA HSG HBC
      go_wp2_with fail
      refine (CA.out _).mono ?_
      rintro e w3 ⟨rfl, hb3⟩
      go_wp2_with fail
      go_ret
      exact ⟨rfl, (hB2.below hb3).2.2⟩
    by_cases h20 : 20 < l.length
    · clear C1 C2 T1 T2 CWI CGL CGM HSL HSM HPA HGO HNU HSA HSG HBC
      go_wp2_with fail
      refine (CA.out _).mono ?_
      rintro e w3 ⟨rfl, hb3⟩
      go_wp2_with fail
      go_ret
      exact ⟨rfl, (hB2.below hb3).2.2⟩
    by_cases h21 : 20 < m.length
    · clear C1 C2 T1 T2 CWI CGL CGM HSL HSM HPA HGO HNU HSA HSG HBC
      go_wp2_with fail
      refine (CA.out _).mono ?_
      rintro e w3 ⟨rfl, hb3⟩
      go_wp2_with fail
      go_ret
      exact ⟨rfl, (hB2.below hb3).2.2⟩
    go_wp2_with fail
    refine (CA.out _).mono ?_
    rintro e w3 ⟨rfl, hb3⟩
    have hB3 := BW.below hB2 hb3
    clear k0 k1 k2 k3 k4 k5 k6 l0 l1 l2 l3 l4 l5 l6 hb3 hB2 CA
    go_wp2_with fail
    go_cut [9, 10] from 44 to 49 (fun s9 s10 wx => TwoR w wx x y s9 s10)
    case first =>
      refine wp_region_held_drew (S := fun w' => BW w w' v p u q) (by kernel_rfl) hB3.drew (fun hSS => ?_)
      refine wpAnyH_take (i := 0) (v := ?_) rfl (by kernel_rfl) (by kernel_rfl) (by kernel_rfl) (fun _ _ _ h => h) (Or.inl ⟨by rfl, ?_⟩) hSS ?_
      rotate_left
      · intro wz hSz
        obtain ⟨⟨k0, k1, k2, k3, k4, k5, k6⟩, ⟨l0, l1, l2, l3, l4, l5, l6⟩⟩ := HBC.out _ hSz
        go_simp
        try with_reducible rfl
      simp only [List.getElem_toArray, List.getElem_cons_zero, Act.put, List.setIfInBounds_toArray, List.set_cons_zero, List.set_cons_succ]
      refine wpAnyH_take (i := 3) (v := ?_) rfl (by kernel_rfl) (by kernel_rfl) (by kernel_rfl) (fun _ _ _ h => h) (Or.inl ⟨by rfl, ?_⟩) hSS ?_
      rotate_left
      · intro wz hSz
        obtain ⟨⟨k0, k1, k2, k3, k4, k5, k6⟩, ⟨l0, l1, l2, l3, l4, l5, l6⟩⟩ := HBC.out _ hSz
        go_simp
        try with_reducible rfl
      simp only [List.getElem_toArray, List.getElem_cons_zero, List.getElem_cons_succ, Act.put, List.setIfInBounds_toArray, List.set_cons_zero, List.set_cons_succ]
      generalize w3.drew = W0 at *
      have hz0 := hSS.lt
      clear hB3 HBC CWI CGL CGM HSL HSM HPA HGO HNU HSA HSG
      refine wpAnyH_ready (rs := [1, 6, 7]) (by kernel_rfl) (by simp) (AllReadyH.cons rfl (fun K1 hK1 => ?_) (AllReadyH.cons rfl (fun K1 hK1 => ?_) (AllReadyH.cons rfl (fun K1 hK1 => ?_) AllReadyH.nil)))
      · refine step_plain (by rfl) ?_
        simp only [List.getElem_toArray, List.getElem_cons_zero, List.getElem_cons_succ]
        go_simp
        go_at_call 10
        refine (C1.out _ hSS.2.2).mono ?_
        rintro e W1 ⟨xp, rfl, hX, hbn⟩
        have hz1 := hbn.size
        go_simp
        refine hK1.out _ _ (hSS.below hbn) (fun hSS => ?_)
        clear hbn hK1
        refine wpAnyH_ready (rs := [2, 6, 7]) (by kernel_rfl) (by simp) (AllReadyH.cons rfl (fun K2 hK2 => ?_) (AllReadyH.cons rfl (fun K2 hK2 => ?_) (AllReadyH.cons rfl (fun K2 hK2 => ?_) AllReadyH.nil)))
        · refine step_plain (by rfl) ?_
          simp only [List.getElem_toArray, List.getElem_cons_zero, List.getElem_cons_succ]
          go_simp
          go_at_call 11
          refine (T1.out _ _ _ hX).mono ?_
          rintro e W2 ⟨a, rfl, ha1, rX, hbn⟩
          replace hX := hX.stays hbn
          replace rX := rX.mono (ok' := fun b => W1.heap.size ≤ b ∧ b < W2.heap.size) (fun _ h1 h2 => ⟨h1, h2⟩)
          clear hX
          have hz2 := hbn.size
          go_simp
          refine hK2.out _ _ (hSS.below hbn) (fun hSS => ?_)
          clear hbn hK2
          refine wpAnyH_ready (rs := [4, 6, 7]) (by kernel_rfl) (by simp) (AllReadyH.cons rfl (fun K3 hK3 => ?_) (AllReadyH.cons rfl (fun K3 hK3 => ?_) (AllReadyH.cons rfl (fun K3 hK3 => ?_) AllReadyH.nil)))
          · refine step_plain (by rfl) ?_
            simp only [List.getElem_toArray, List.getElem_cons_zero, List.getElem_cons_succ]
            go_simp
            go_at_call 10
            refine (C2.out _ hSS.2.2).mono ?_
            rintro e W3 ⟨yp, rfl, hY, hbn⟩
            replace rX := rX.stays hbn
            have hz3 := hbn.size
            go_simp
            refine hK3.out _ _ (hSS.below hbn) (fun hSS => ?_)
            clear hbn hK3
            refine wpAnyH_ready (rs := [5, 6, 7]) (by kernel_rfl) (by simp) (AllReadyH.cons rfl (fun K4 hK4 => ?_) (AllReadyH.cons rfl (fun K4 hK4 => ?_) (AllReadyH.cons rfl (fun K4 hK4 => ?_) AllReadyH.nil)))
            · refine step_plain (by rfl) ?_
              simp only [List.getElem_toArray, List.getElem_cons_zero, List.getElem_cons_succ]
              go_simp
              go_at_call 11
              refine (T2.out _ _ _ hY).mono ?_
              rintro e W4 ⟨b, rfl, hb1, rY, hbn⟩
              replace rX := rX.stays hbn
              replace hY := hY.stays hbn
              replace rY := rY.mono (ok' := fun b => W3.heap.size ≤ b ∧ b < W4.heap.size) (fun _ h1 h2 => ⟨h1, h2⟩)
              clear hY
              have hz4 := hbn.size
              go_simp
              refine hK4.out _ _ (hSS.below hbn) (fun hSS => ?_)
              clear hbn hK4
              refine wpAnyH_ready (rs := [6, 7]) (by kernel_rfl) (by simp) (AllReadyH.cons rfl (fun K5 hK5 => ?_) (AllReadyH.cons rfl (fun K5 hK5 => ?_) AllReadyH.nil))
              · refine step_plain (by rfl) ?_
                simp only [List.getElem_toArray, List.getElem_cons_zero, List.getElem_cons_succ]
                go_simp
                have hbn : Below W4.heap.size W4 (W4.alloc (.cells #[.nilIface] 30)) := (Below.refl _ _).alloc (Nat.le_refl _) _
                have hA := heap_alloc_new W4 (.cells #[.nilIface] 30)
                replace rX := rX.stays hbn
                replace rY := rY.stays hbn
                have hz5 : W4.heap.size < (W4.alloc (.cells #[.nilIface] 30)).heap.size := by simp
                refine hK5.out _ _ (hSS.below hbn) (fun hSS => ?_)
                clear hbn hK5
                generalize W4.alloc (.cells #[.nilIface] 30) = W5 at *
                refine wpAnyH_ready (rs := [7]) (by kernel_rfl) (by simp) (AllReadyH.cons rfl (fun K6 hK6 => ?_) AllReadyH.nil)
                refine step_plain (by rfl) ?_
                simp only [List.getElem_toArray, List.getElem_cons_zero, List.getElem_cons_succ]
                go_simp
                have hbn : Below W5.heap.size W5 (W5.alloc (.cells #[.nilIface] 30)) := (Below.refl _ _).alloc (Nat.le_refl _) _
                have hB := heap_alloc_new W5 (.cells #[.nilIface] 30)
                replace rX := rX.stays hbn
                replace rY := rY.stays hbn
                replace hA := (hbn.block _ (Array.getElem?_eq_some_iff.1 hA).1).trans hA
                have hz6 : W5.heap.size < (W5.alloc (.cells #[.nilIface] 30)).heap.size := by simp
                refine hK6.out _ _ (hSS.below hbn) (fun hSS => ?_)
                clear hbn hK6
                generalize W5.alloc (.cells #[.nilIface] 30) = W6 at *
                have hTwo := TwoR.mk (A := W4.heap.size) (B := W5.heap.size) hSS.2.2 hA hB rX rY (by omega) (by omega) (by omega) (fun b hb => by omega) (fun b hb => by omega)
                have hS8 : Below w.heap.size w (World.setCell W6 ⟨W4.heap.size, 0, none⟩ a) := hSS.2.2.setCell (p := ⟨W4.heap.size, 0, none⟩) (show _ ≤ W4.heap.size by omega) a
                have hS9 := hS8.setCell (p := ⟨W5.heap.size, 0, none⟩) (show _ ≤ W5.heap.size by omega) b
                have hB6 := (Below.heap_setCell W6 ⟨W4.heap.size, 0, none⟩ a (W5.heap.size) (show W5.heap.size ≠ W4.heap.size by omega)).trans hB
                have hQ8 : BW w (World.setCell W6 ⟨W4.heap.size, 0, none⟩ a) v p u q := ⟨(Below.heap_setCell _ _ _ _ (show w.heap.size ≠ W4.heap.size by omega)).trans hSS.1, (Below.heap_setCell _ _ _ _ (show w.heap.size + 1 ≠ W4.heap.size by omega)).trans hSS.2.1, hS8⟩
                have hQ9 : BW w (World.setCell (World.setCell W6 ⟨W4.heap.size, 0, none⟩ a) ⟨W5.heap.size, 0, none⟩ b) v p u q := ⟨(Below.heap_setCell _ _ _ _ (show w.heap.size ≠ W5.heap.size by omega)).trans hQ8.1, (Below.heap_setCell _ _ _ _ (show w.heap.size + 1 ≠ W5.heap.size by omega)).trans hQ8.2.1, hS9⟩
                refine wpAnyH_ready (rs := [8]) (by kernel_rfl) (by simp) (AllReadyH.cons rfl (fun K7 hK7 => ?_) AllReadyH.nil)
                refine step_set1 (by rfl) _ _ (by rfl) (by rfl) (B := W4.heap.size) (u := a) (by rfl) (by rfl) ha1 hA ?_
                refine hK7.out _ _ hQ8 (fun hSS6 => ?_)
                clear hQ8 hS8 hS9 hK7
                generalize World.setCell W6 ⟨W4.heap.size, 0, none⟩ a = WB at *
                refine wpAnyH_ready (rs := [9]) (by kernel_rfl) (by simp) (AllReadyH.cons rfl (fun K8 hK8 => ?_) AllReadyH.nil)
                refine step_set1 (by rfl) _ _ (by rfl) (by rfl) (B := W5.heap.size) (u := b) (by rfl) (by rfl) hb1 hB6 ?_
                refine hK8.out _ _ hQ9 (fun hSS7 => ?_)
                clear hQ9 hK8
                generalize World.setCell WB ⟨W5.heap.size, 0, none⟩ b = WC at *
                refine wpAnyH_done (by kernel_rfl) ?_ _
                go_wp2_with fail
                go_meet
                exact hTwo
              · refine step_plain (by rfl) ?_
                simp only [List.getElem_toArray, List.getElem_cons_zero, List.getElem_cons_succ]
                go_simp
                have hbn : Below W4.heap.size W4 (W4.alloc (.cells #[.nilIface] 30)) := (Below.refl _ _).alloc (Nat.le_refl _) _
                have hB := heap_alloc_new W4 (.cells #[.nilIface] 30)
                replace rX := rX.stays hbn
                replace rY := rY.stays hbn
                have hz5 : W4.heap.size < (W4.alloc (.cells #[.nilIface] 30)).heap.size := by simp
                refine hK5.out _ _ (hSS.below hbn) (fun hSS => ?_)
                clear hbn hK5
                generalize W4.alloc (.cells #[.nilIface] 30) = W5 at *
                refine wpAnyH_ready (rs := [6]) (by kernel_rfl) (by simp) (AllReadyH.cons rfl (fun K6 hK6 => ?_) AllReadyH.nil)
                refine step_plain (by rfl) ?_
                simp only [List.getElem_toArray, List.getElem_cons_zero, List.getElem_cons_succ]
                go_simp
                have hbn : Below W5.heap.size W5 (W5.alloc (.cells #[.nilIface] 30)) := (Below.refl _ _).alloc (Nat.le_refl _) _
                have hA := heap_alloc_new W5 (.cells #[.nilIface] 30)
                replace rX := rX.stays hbn
                replace rY := rY.stays hbn
                replace hB := (hbn.block _ (Array.getElem?_eq_some_iff.1 hB).1).trans hB
                have hz6 : W5.heap.size < (W5.alloc (.cells #[.nilIface] 30)).heap.size := by simp
                refine hK6.out _ _ (hSS.below hbn) (fun hSS => ?_)
                clear hbn hK6
                generalize W5.alloc (.cells #[.nilIface] 30) = W6 at *
                have hTwo := TwoR.mk (A := W5.heap.size) (B := W4.heap.size) hSS.2.2 hA hB rX rY (by omega) (by omega) (by omega) (fun b hb => by omega) (fun b hb => by omega)
                have hS8 : Below w.heap.size w (World.setCell W6 ⟨W5.heap.size, 0, none⟩ a) := hSS.2.2.setCell (p := ⟨W5.heap.size, 0, none⟩) (show _ ≤ W5.heap.size by omega) a
                have hS9 := hS8.setCell (p := ⟨W4.heap.size, 0, none⟩) (show _ ≤ W4.heap.size by omega) b
                have hB6 := (Below.heap_setCell W6 ⟨W5.heap.size, 0, none⟩ a (W4.heap.size) (show W4.heap.size ≠ W5.heap.size by omega)).trans hB
                have hQ8 : BW w (World.setCell W6 ⟨W5.heap.size, 0, none⟩ a) v p u q := ⟨(Below.heap_setCell _ _ _ _ (show w.heap.size ≠ W5.heap.size by omega)).trans hSS.1, (Below.heap_setCell _ _ _ _ (show w.heap.size + 1 ≠ W5.heap.size by omega)).trans hSS.2.1, hS8⟩
                have hQ9 : BW w (World.setCell (World.setCell W6 ⟨W5.heap.size, 0, none⟩ a) ⟨W4.heap.size, 0, none⟩ b) v p u q := ⟨(Below.heap_setCell _ _ _ _ (show w.heap.size ≠ W4.heap.size by omega)).trans hQ8.1, (Below.heap_setCell _ _ _ _ (show w.heap.size + 1 ≠ W4.heap.size by omega)).trans hQ8.2.1, hS9⟩
                refine wpAnyH_ready (rs := [8]) (by kernel_rfl) (by simp) (AllReadyH.cons rfl (fun K7 hK7 => ?_) AllReadyH.nil)
                refine step_set1 (by rfl) _ _ (by rfl) (by rfl) (B := W5.heap.size) (u := a) (by rfl) (by rfl) ha1 hA ?_
                refine hK7.out _ _ hQ8 (fun hSS6 => ?_)
                clear hQ8 hS8 hS9 hK7
                generalize World.setCell W6 ⟨W5.heap.size, 0, none⟩ a = WB at *
                refine wpAnyH_ready (rs := [9]) (by kernel_rfl) (by simp) (AllReadyH.cons rfl (fun K8 hK8 => ?_) AllReadyH.nil)
                refine step_set1 (by rfl) _ _ (by rfl) (by rfl) (B := W4.heap.size) (u := b) (by rfl) (by rfl) hb1 hB6 ?_
                refine hK8.out _ _ hQ9 (fun hSS7 => ?_)
                clear hQ9 hK8
                generalize World.setCell WB ⟨W4.heap.size, 0, none⟩ b = WC at *
                refine wpAnyH_done (by kernel_rfl) ?_ _
                go_wp2_with fail
                go_meet
                exact hTwo
            · refine step_plain (by rfl) ?_
              simp only [List.getElem_toArray, List.getElem_cons_zero, List.getElem_cons_succ]
              go_simp
              have hbn : Below W3.heap.size W3 (W3.alloc (.cells #[.nilIface] 30)) := (Below.refl _ _).alloc (Nat.le_refl _) _
              have hA := heap_alloc_new W3 (.cells #[.nilIface] 30)
              replace rX := rX.stays hbn
              replace hY := hY.stays hbn
              have hz4 : W3.heap.size < (W3.alloc (.cells #[.nilIface] 30)).heap.size := by simp
              refine hK4.out _ _ (hSS.below hbn) (fun hSS => ?_)
              clear hbn hK4
              generalize W3.alloc (.cells #[.nilIface] 30) = W4 at *
              refine wpAnyH_ready (rs := [5, 7]) (by kernel_rfl) (by simp) (AllReadyH.cons rfl (fun K5 hK5 => ?_) (AllReadyH.cons rfl (fun K5 hK5 => ?_) AllReadyH.nil))
              · refine step_plain (by rfl) ?_
                simp only [List.getElem_toArray, List.getElem_cons_zero, List.getElem_cons_succ]
                go_simp
                go_at_call 11
                refine (T2.out _ _ _ hY).mono ?_
                rintro e W5 ⟨b, rfl, hb1, rY, hbn⟩
                replace rX := rX.stays hbn
                replace hY := hY.stays hbn
                replace hA := (hbn.block _ (Array.getElem?_eq_some_iff.1 hA).1).trans hA
                replace rY := rY.mono (ok' := fun b => W4.heap.size ≤ b ∧ b < W5.heap.size) (fun _ h1 h2 => ⟨h1, h2⟩)
                clear hY
                have hz5 := hbn.size
                go_simp
                refine hK5.out _ _ (hSS.below hbn) (fun hSS => ?_)
                clear hbn hK5
                refine wpAnyH_ready (rs := [7]) (by kernel_rfl) (by simp) (AllReadyH.cons rfl (fun K6 hK6 => ?_) AllReadyH.nil)
                refine step_plain (by rfl) ?_
                simp only [List.getElem_toArray, List.getElem_cons_zero, List.getElem_cons_succ]
                go_simp
                have hbn : Below W5.heap.size W5 (W5.alloc (.cells #[.nilIface] 30)) := (Below.refl _ _).alloc (Nat.le_refl _) _
                have hB := heap_alloc_new W5 (.cells #[.nilIface] 30)
                replace rX := rX.stays hbn
                replace rY := rY.stays hbn
                replace hA := (hbn.block _ (Array.getElem?_eq_some_iff.1 hA).1).trans hA
                have hz6 : W5.heap.size < (W5.alloc (.cells #[.nilIface] 30)).heap.size := by simp
                refine hK6.out _ _ (hSS.below hbn) (fun hSS => ?_)
                clear hbn hK6
                generalize W5.alloc (.cells #[.nilIface] 30) = W6 at *
                have hTwo := TwoR.mk (A := W3.heap.size) (B := W5.heap.size) hSS.2.2 hA hB rX rY (by omega) (by omega) (by omega) (fun b hb => by omega) (fun b hb => by omega)
                have hS8 : Below w.heap.size w (World.setCell W6 ⟨W3.heap.size, 0, none⟩ a) := hSS.2.2.setCell (p := ⟨W3.heap.size, 0, none⟩) (show _ ≤ W3.heap.size by omega) a
                have hS9 := hS8.setCell (p := ⟨W5.heap.size, 0, none⟩) (show _ ≤ W5.heap.size by omega) b
                have hB6 := (Below.heap_setCell W6 ⟨W3.heap.size, 0, none⟩ a (W5.heap.size) (show W5.heap.size ≠ W3.heap.size by omega)).trans hB
                have hQ8 : BW w (World.setCell W6 ⟨W3.heap.size, 0, none⟩ a) v p u q := ⟨(Below.heap_setCell _ _ _ _ (show w.heap.size ≠ W3.heap.size by omega)).trans hSS.1, (Below.heap_setCell _ _ _ _ (show w.heap.size + 1 ≠ W3.heap.size by omega)).trans hSS.2.1, hS8⟩
                have hQ9 : BW w (World.setCell (World.setCell W6 ⟨W3.heap.size, 0, none⟩ a) ⟨W5.heap.size, 0, none⟩ b) v p u q := ⟨(Below.heap_setCell _ _ _ _ (show w.heap.size ≠ W5.heap.size by omega)).trans hQ8.1, (Below.heap_setCell _ _ _ _ (show w.heap.size + 1 ≠ W5.heap.size by omega)).trans hQ8.2.1, hS9⟩
                refine wpAnyH_ready (rs := [8]) (by kernel_rfl) (by simp) (AllReadyH.cons rfl (fun K7 hK7 => ?_) AllReadyH.nil)
                refine step_set1 (by rfl) _ _ (by rfl) (by rfl) (B := W3.heap.size) (u := a) (by rfl) (by rfl) ha1 hA ?_
                refine hK7.out _ _ hQ8 (fun hSS6 => ?_)
                clear hQ8 hS8 hS9 hK7
                generalize World.setCell W6 ⟨W3.heap.size, 0, none⟩ a = WB at *
                refine wpAnyH_ready (rs := [9]) (by kernel_rfl) (by simp) (AllReadyH.cons rfl (fun K8 hK8 => ?_) AllReadyH.nil)
                refine step_set1 (by rfl) _ _ (by rfl) (by rfl) (B := W5.heap.size) (u := b) (by rfl) (by rfl) hb1 hB6 ?_
                refine hK8.out _ _ hQ9 (fun hSS7 => ?_)
                clear hQ9 hK8
                generalize World.setCell WB ⟨W5.heap.size, 0, none⟩ b = WC at *
                refine wpAnyH_done (by kernel_rfl) ?_ _
                go_wp2_with fail
                go_meet
                exact hTwo
              · refine step_plain (by rfl) ?_
                simp only [List.getElem_toArray, List.getElem_cons_zero, List.getElem_cons_succ]
                go_simp
                have hbn : Below W4.heap.size W4 (W4.alloc (.cells #[.nilIface] 30)) := (Below.refl _ _).alloc (Nat.le_refl _) _
                have hB := heap_alloc_new W4 (.cells #[.nilIface] 30)
                replace rX := rX.stays hbn
                replace hY := hY.stays hbn
                replace hA := (hbn.block _ (Array.getElem?_eq_some_iff.1 hA).1).trans hA
                have hz5 : W4.heap.size < (W4.alloc (.cells #[.nilIface] 30)).heap.size := by simp
                refine hK5.out _ _ (hSS.below hbn) (fun hSS => ?_)
                clear hbn hK5
                generalize W4.alloc (.cells #[.nilIface] 30) = W5 at *
                refine wpAnyH_ready (rs := [5]) (by kernel_rfl) (by simp) (AllReadyH.cons rfl (fun K6 hK6 => ?_) AllReadyH.nil)
                refine step_plain (by rfl) ?_
                simp only [List.getElem_toArray, List.getElem_cons_zero, List.getElem_cons_succ]
                go_simp
                go_at_call 11
                refine (T2.out _ _ _ hY).mono ?_
                rintro e W6 ⟨b, rfl, hb1, rY, hbn⟩
                replace rX := rX.stays hbn
                replace hY := hY.stays hbn
                replace hA := (hbn.block _ (Array.getElem?_eq_some_iff.1 hA).1).trans hA
                replace hB := (hbn.block _ (Array.getElem?_eq_some_iff.1 hB).1).trans hB
                replace rY := rY.mono (ok' := fun b => W5.heap.size ≤ b ∧ b < W6.heap.size) (fun _ h1 h2 => ⟨h1, h2⟩)
                clear hY
                have hz6 := hbn.size
                go_simp
                refine hK6.out _ _ (hSS.below hbn) (fun hSS => ?_)
                clear hbn hK6
                have hTwo := TwoR.mk (A := W3.heap.size) (B := W4.heap.size) hSS.2.2 hA hB rX rY (by omega) (by omega) (by omega) (fun b hb => by omega) (fun b hb => by omega)
                have hS8 : Below w.heap.size w (World.setCell W6 ⟨W3.heap.size, 0, none⟩ a) := hSS.2.2.setCell (p := ⟨W3.heap.size, 0, none⟩) (show _ ≤ W3.heap.size by omega) a
                have hS9 := hS8.setCell (p := ⟨W4.heap.size, 0, none⟩) (show _ ≤ W4.heap.size by omega) b
                have hB6 := (Below.heap_setCell W6 ⟨W3.heap.size, 0, none⟩ a (W4.heap.size) (show W4.heap.size ≠ W3.heap.size by omega)).trans hB
                have hQ8 : BW w (World.setCell W6 ⟨W3.heap.size, 0, none⟩ a) v p u q := ⟨(Below.heap_setCell _ _ _ _ (show w.heap.size ≠ W3.heap.size by omega)).trans hSS.1, (Below.heap_setCell _ _ _ _ (show w.heap.size + 1 ≠ W3.heap.size by omega)).trans hSS.2.1, hS8⟩
                have hQ9 : BW w (World.setCell (World.setCell W6 ⟨W3.heap.size, 0, none⟩ a) ⟨W4.heap.size, 0, none⟩ b) v p u q := ⟨(Below.heap_setCell _ _ _ _ (show w.heap.size ≠ W4.heap.size by omega)).trans hQ8.1, (Below.heap_setCell _ _ _ _ (show w.heap.size + 1 ≠ W4.heap.size by omega)).trans hQ8.2.1, hS9⟩
                refine wpAnyH_ready (rs := [8]) (by kernel_rfl) (by simp) (AllReadyH.cons rfl (fun K7 hK7 => ?_) AllReadyH.nil)
                refine step_set1 (by rfl) _ _ (by rfl) (by rfl) (B := W3.heap.size) (u := a) (by rfl) (by rfl) ha1 hA ?_
                refine hK7.out _ _ hQ8 (fun hSS6 => ?_)
                clear hQ8 hS8 hS9 hK7
                generalize World.setCell W6 ⟨W3.heap.size, 0, none⟩ a = WB at *
                refine wpAnyH_ready (rs := [9]) (by kernel_rfl) (by simp) (AllReadyH.cons rfl (fun K8 hK8 => ?_) AllReadyH.nil)
                refine step_set1 (by rfl) _ _ (by rfl) (by rfl) (B := W4.heap.size) (u := b) (by rfl) (by rfl) hb1 hB6 ?_
                refine hK8.out _ _ hQ9 (fun hSS7 => ?_)
                clear hQ9 hK8
                generalize World.setCell WB ⟨W4.heap.size, 0, none⟩ b = WC at *
                refine wpAnyH_done (by kernel_rfl) ?_ _
                go_wp2_with fail
                go_meet
                exact hTwo
            · refine step_plain (by rfl) ?_
              simp only [List.getElem_toArray, List.getElem_cons_zero, List.getElem_cons_succ]
              go_simp
              have hbn : Below W3.heap.size W3 (W3.alloc (.cells #[.nilIface] 30)) := (Below.refl _ _).alloc (Nat.le_refl _) _
              have hB := heap_alloc_new W3 (.cells #[.nilIface] 30)
              replace rX := rX.stays hbn
              replace hY := hY.stays hbn
              have hz4 : W3.heap.size < (W3.alloc (.cells #[.nilIface] 30)).heap.size := by simp
              refine hK4.out _ _ (hSS.below hbn) (fun hSS => ?_)
              clear hbn hK4
              generalize W3.alloc (.cells #[.nilIface] 30) = W4 at *
              refine wpAnyH_ready (rs := [5, 6]) (by kernel_rfl) (by simp) (AllReadyH.cons rfl (fun K5 hK5 => ?_) (AllReadyH.cons rfl (fun K5 hK5 => ?_) AllReadyH.nil))
              · refine step_plain (by rfl) ?_
                simp only [List.getElem_toArray, List.getElem_cons_zero, List.getElem_cons_succ]
                go_simp
                go_at_call 11
                refine (T2.out _ _ _ hY).mono ?_
                rintro e W5 ⟨b, rfl, hb1, rY, hbn⟩
                replace rX := rX.stays hbn
                replace hY := hY.stays hbn
                replace hB := (hbn.block _ (Array.getElem?_eq_some_iff.1 hB).1).trans hB
                replace rY := rY.mono (ok' := fun b => W4.heap.size ≤ b ∧ b < W5.heap.size) (fun _ h1 h2 => ⟨h1, h2⟩)
                clear hY
                have hz5 := hbn.size
                go_simp
                refine hK5.out _ _ (hSS.below hbn) (fun hSS => ?_)
                clear hbn hK5
                refine wpAnyH_ready (rs := [6]) (by kernel_rfl) (by simp) (AllReadyH.cons rfl (fun K6 hK6 => ?_) AllReadyH.nil)
                refine step_plain (by rfl) ?_
                simp only [List.getElem_toArray, List.getElem_cons_zero, List.getElem_cons_succ]
                go_simp
                have hbn : Below W5.heap.size W5 (W5.alloc (.cells #[.nilIface] 30)) := (Below.refl _ _).alloc (Nat.le_refl _) _
                have hA := heap_alloc_new W5 (.cells #[.nilIface] 30)
                replace rX := rX.stays hbn
                replace rY := rY.stays hbn
                replace hB := (hbn.block _ (Array.getElem?_eq_some_iff.1 hB).1).trans hB
                have hz6 : W5.heap.size < (W5.alloc (.cells #[.nilIface] 30)).heap.size := by simp
                refine hK6.out _ _ (hSS.below hbn) (fun hSS => ?_)
                clear hbn hK6
                generalize W5.alloc (.cells #[.nilIface] 30) = W6 at *
                have hTwo := TwoR.mk (A := W5.heap.size) (B := W3.heap.size) hSS.2.2 hA hB rX rY (by omega) (by omega) (by omega) (fun b hb => by omega) (fun b hb => by omega)
                have hS8 : Below w.heap.size w (World.setCell W6 ⟨W5.heap.size, 0, none⟩ a) := hSS.2.2.setCell (p := ⟨W5.heap.size, 0, none⟩) (show _ ≤ W5.heap.size by omega) a
                have hS9 := hS8.setCell (p := ⟨W3.heap.size, 0, none⟩) (show _ ≤ W3.heap.size by omega) b
                have hB6 := (Below.heap_setCell W6 ⟨W5.heap.size, 0, none⟩ a (W3.heap.size) (show W3.heap.size ≠ W5.heap.size by omega)).trans hB
                have hQ8 : BW w (World.setCell W6 ⟨W5.heap.size, 0, none⟩ a) v p u q := ⟨(Below.heap_setCell _ _ _ _ (show w.heap.size ≠ W5.heap.size by omega)).trans hSS.1, (Below.heap_setCell _ _ _ _ (show w.heap.size + 1 ≠ W5.heap.size by omega)).trans hSS.2.1, hS8⟩
                have hQ9 : BW w (World.setCell (World.setCell W6 ⟨W5.heap.size, 0, none⟩ a) ⟨W3.heap.size, 0, none⟩ b) v p u q := ⟨(Below.heap_setCell _ _ _ _ (show w.heap.size ≠ W3.heap.size by omega)).trans hQ8.1, (Below.heap_setCell _ _ _ _ (show w.heap.size + 1 ≠ W3.heap.size by omega)).trans hQ8.2.1, hS9⟩
                refine wpAnyH_ready (rs := [8]) (by kernel_rfl) (by simp) (AllReadyH.cons rfl (fun K7 hK7 => ?_) AllReadyH.nil)
                refine step_set1 (by rfl) _ _ (by rfl) (by rfl) (B := W5.heap.size) (u := a) (by rfl) (by rfl) ha1 hA ?_
                refine hK7.out _ _ hQ8 (fun hSS6 => ?_)
                clear hQ8 hS8 hS9 hK7
                generalize World.setCell W6 ⟨W5.heap.size, 0, none⟩ a = WB at *
                refine wpAnyH_ready (rs := [9]) (by kernel_rfl) (by simp) (AllReadyH.cons rfl (fun K8 hK8 => ?_) AllReadyH.nil)
                refine step_set1 (by rfl) _ _ (by rfl) (by rfl) (B := W3.heap.size) (u := b) (by rfl) (by rfl) hb1 hB6 ?_
                refine hK8.out _ _ hQ9 (fun hSS7 => ?_)
                clear hQ9 hK8
                generalize World.setCell WB ⟨W3.heap.size, 0, none⟩ b = WC at *
                refine wpAnyH_done (by kernel_rfl) ?_ _
                go_wp2_with fail
                go_meet
                exact hTwo
              · refine step_plain (by rfl) ?_
                simp only [List.getElem_toArray, List.getElem_cons_zero, List.getElem_cons_succ]
                go_simp
                have hbn : Below W4.heap.size W4 (W4.alloc (.cells #[.nilIface] 30)) := (Below.refl _ _).alloc (Nat.le_refl _) _
                have hA := heap_alloc_new W4 (.cells #[.nilIface] 30)
                replace rX := rX.stays hbn
                replace hY := hY.stays hbn
                replace hB := (hbn.block _ (Array.getElem?_eq_some_iff.1 hB).1).trans hB
                have hz5 : W4.heap.size < (W4.alloc (.cells #[.nilIface] 30)).heap.size := by simp
                refine hK5.out _ _ (hSS.below hbn) (fun hSS => ?_)
                clear hbn hK5
                generalize W4.alloc (.cells #[.nilIface] 30) = W5 at *
                refine wpAnyH_ready (rs := [5]) (by kernel_rfl) (by simp) (AllReadyH.cons rfl (fun K6 hK6 => ?_) AllReadyH.nil)
                refine step_plain (by rfl) ?_
                simp only [List.getElem_toArray, List.getElem_cons_zero, List.getElem_cons_succ]
                go_simp
                go_at_call 11
                refine (T2.out _ _ _ hY).mono ?_
                rintro e W6 ⟨b, rfl, hb1, rY, hbn⟩
                replace rX := rX.stays hbn
                replace hY := hY.stays hbn
                replace hA := (hbn.block _ (Array.getElem?_eq_some_iff.1 hA).1).trans hA
                replace hB := (hbn.block _ (Array.getElem?_eq_some_iff.1 hB).1).trans hB
                replace rY := rY.mono (ok' := fun b => W5.heap.size ≤ b ∧ b < W6.heap.size) (fun _ h1 h2 => ⟨h1, h2⟩)
                clear hY
                have hz6 := hbn.size
                go_simp
                refine hK6.out _ _ (hSS.below hbn) (fun hSS => ?_)
                clear hbn hK6
                have hTwo := TwoR.mk (A := W4.heap.size) (B := W3.heap.size) hSS.2.2 hA hB rX rY (by omega) (by omega) (by omega) (fun b hb => by omega) (fun b hb => by omega)
                have hS8 : Below w.heap.size w (World.setCell W6 ⟨W4.heap.size, 0, none⟩ a) := hSS.2.2.setCell (p := ⟨W4.heap.size, 0, none⟩) (show _ ≤ W4.heap.size by omega) a
                have hS9 := hS8.setCell (p := ⟨W3.heap.size, 0, none⟩) (show _ ≤ W3.heap.size by omega) b
                have hB6 := (Below.heap_setCell W6 ⟨W4.heap.size, 0, none⟩ a (W3.heap.size) (show W3.heap.size ≠ W4.heap.size by omega)).trans hB
                have hQ8 : BW w (World.setCell W6 ⟨W4.heap.size, 0, none⟩ a) v p u q := ⟨(Below.heap_setCell _ _ _ _ (show w.heap.size ≠ W4.heap.size by omega)).trans hSS.1, (Below.heap_setCell _ _ _ _ (show w.heap.size + 1 ≠ W4.heap.size by omega)).trans hSS.2.1, hS8⟩
                have hQ9 : BW w (World.setCell (World.setCell W6 ⟨W4.heap.size, 0, none⟩ a) ⟨W3.heap.size, 0, none⟩ b) v p u q := ⟨(Below.heap_setCell _ _ _ _ (show w.heap.size ≠ W3.heap.size by omega)).trans hQ8.1, (Below.heap_setCell _ _ _ _ (show w.heap.size + 1 ≠ W3.heap.size by omega)).trans hQ8.2.1, hS9⟩
                refine wpAnyH_ready (rs := [8]) (by kernel_rfl) (by simp) (AllReadyH.cons rfl (fun K7 hK7 => ?_) AllReadyH.nil)
                refine step_set1 (by rfl) _ _ (by rfl) (by rfl) (B := W4.heap.size) (u := a) (by rfl) (by rfl) ha1 hA ?_
                refine hK7.out _ _ hQ8 (fun hSS6 => ?_)
                clear hQ8 hS8 hS9 hK7
                generalize World.setCell W6 ⟨W4.heap.size, 0, none⟩ a = WB at *
                refine wpAnyH_ready (rs := [9]) (by kernel_rfl) (by simp) (AllReadyH.cons rfl (fun K8 hK8 => ?_) AllReadyH.nil)
                refine step_set1 (by rfl) _ _ (by rfl) (by rfl) (B := W3.heap.size) (u := b) (by rfl) (by rfl) hb1 hB6 ?_
                refine hK8.out _ _ hQ9 (fun hSS7 => ?_)
                clear hQ9 hK8
                generalize World.setCell WB ⟨W3.heap.size, 0, none⟩ b = WC at *
                refine wpAnyH_done (by kernel_rfl) ?_ _
                go_wp2_with fail
                go_meet
                exact hTwo
          · refine step_plain (by rfl) ?_
            simp only [List.getElem_toArray, List.getElem_cons_zero, List.getElem_cons_succ]
            go_simp
            have hbn : Below W2.heap.size W2 (W2.alloc (.cells #[.nilIface] 30)) := (Below.refl _ _).alloc (Nat.le_refl _) _
            have hA := heap_alloc_new W2 (.cells #[.nilIface] 30)
            replace rX := rX.stays hbn
            have hz3 : W2.heap.size < (W2.alloc (.cells #[.nilIface] 30)).heap.size := by simp
            refine hK3.out _ _ (hSS.below hbn) (fun hSS => ?_)
            clear hbn hK3
            generalize W2.alloc (.cells #[.nilIface] 30) = W3 at *
            refine wpAnyH_ready (rs := [4, 7]) (by kernel_rfl) (by simp) (AllReadyH.cons rfl (fun K4 hK4 => ?_) (AllReadyH.cons rfl (fun K4 hK4 => ?_) AllReadyH.nil))
            · refine step_plain (by rfl) ?_
              simp only [List.getElem_toArray, List.getElem_cons_zero, List.getElem_cons_succ]
              go_simp
              go_at_call 10
              refine (C2.out _ hSS.2.2).mono ?_
              rintro e W4 ⟨yp, rfl, hY, hbn⟩
              replace rX := rX.stays hbn
              replace hA := (hbn.block _ (Array.getElem?_eq_some_iff.1 hA).1).trans hA
              have hz4 := hbn.size
              go_simp
              refine hK4.out _ _ (hSS.below hbn) (fun hSS => ?_)
              clear hbn hK4
              refine wpAnyH_ready (rs := [5, 7]) (by kernel_rfl) (by simp) (AllReadyH.cons rfl (fun K5 hK5 => ?_) (AllReadyH.cons rfl (fun K5 hK5 => ?_) AllReadyH.nil))
              · refine step_plain (by rfl) ?_
                simp only [List.getElem_toArray, List.getElem_cons_zero, List.getElem_cons_succ]
                go_simp
                go_at_call 11
                refine (T2.out _ _ _ hY).mono ?_
                rintro e W5 ⟨b, rfl, hb1, rY, hbn⟩
                replace rX := rX.stays hbn
                replace hY := hY.stays hbn
                replace hA := (hbn.block _ (Array.getElem?_eq_some_iff.1 hA).1).trans hA
                replace rY := rY.mono (ok' := fun b => W4.heap.size ≤ b ∧ b < W5.heap.size) (fun _ h1 h2 => ⟨h1, h2⟩)
                clear hY
                have hz5 := hbn.size
                go_simp
                refine hK5.out _ _ (hSS.below hbn) (fun hSS => ?_)
                clear hbn hK5
                refine wpAnyH_ready (rs := [7]) (by kernel_rfl) (by simp) (AllReadyH.cons rfl (fun K6 hK6 => ?_) AllReadyH.nil)
                refine step_plain (by rfl) ?_
                simp only [List.getElem_toArray, List.getElem_cons_zero, List.getElem_cons_succ]
                go_simp
                have hbn : Below W5.heap.size W5 (W5.alloc (.cells #[.nilIface] 30)) := (Below.refl _ _).alloc (Nat.le_refl _) _
                have hB := heap_alloc_new W5 (.cells #[.nilIface] 30)
                replace rX := rX.stays hbn
                replace rY := rY.stays hbn
                replace hA := (hbn.block _ (Array.getElem?_eq_some_iff.1 hA).1).trans hA
                have hz6 : W5.heap.size < (W5.alloc (.cells #[.nilIface] 30)).heap.size := by simp
                refine hK6.out _ _ (hSS.below hbn) (fun hSS => ?_)
                clear hbn hK6
                generalize W5.alloc (.cells #[.nilIface] 30) = W6 at *
                have hTwo := TwoR.mk (A := W2.heap.size) (B := W5.heap.size) hSS.2.2 hA hB rX rY (by omega) (by omega) (by omega) (fun b hb => by omega) (fun b hb => by omega)
                have hS8 : Below w.heap.size w (World.setCell W6 ⟨W2.heap.size, 0, none⟩ a) := hSS.2.2.setCell (p := ⟨W2.heap.size, 0, none⟩) (show _ ≤ W2.heap.size by omega) a
                have hS9 := hS8.setCell (p := ⟨W5.heap.size, 0, none⟩) (show _ ≤ W5.heap.size by omega) b
                have hB6 := (Below.heap_setCell W6 ⟨W2.heap.size, 0, none⟩ a (W5.heap.size) (show W5.heap.size ≠ W2.heap.size by omega)).trans hB
                have hQ8 : BW w (World.setCell W6 ⟨W2.heap.size, 0, none⟩ a) v p u q := ⟨(Below.heap_setCell _ _ _ _ (show w.heap.size ≠ W2.heap.size by omega)).trans hSS.1, (Below.heap_setCell _ _ _ _ (show w.heap.size + 1 ≠ W2.heap.size by omega)).trans hSS.2.1, hS8⟩
                have hQ9 : BW w (World.setCell (World.setCell W6 ⟨W2.heap.size, 0, none⟩ a) ⟨W5.heap.size, 0, none⟩ b) v p u q := ⟨(Below.heap_setCell _ _ _ _ (show w.heap.size ≠ W5.heap.size by omega)).trans hQ8.1, (Below.heap_setCell _ _ _ _ (show w.heap.size + 1 ≠ W5.heap.size by omega)).trans hQ8.2.1, hS9⟩
                refine wpAnyH_ready (rs := [8]) (by kernel_rfl) (by simp) (AllReadyH.cons rfl (fun K7 hK7 => ?_) AllReadyH.nil)
                refine step_set1 (by rfl) _ _ (by rfl) (by rfl) (B := W2.heap.size) (u := a) (by rfl) (by rfl) ha1 hA ?_
                refine hK7.out _ _ hQ8 (fun hSS6 => ?_)
                clear hQ8 hS8 hS9 hK7
                generalize World.setCell W6 ⟨W2.heap.size, 0, none⟩ a = WB at *
                refine wpAnyH_ready (rs := [9]) (by kernel_rfl) (by simp) (AllReadyH.cons rfl (fun K8 hK8 => ?_) AllReadyH.nil)
                refine step_set1 (by rfl) _ _ (by rfl) (by rfl) (B := W5.heap.size) (u := b) (by rfl) (by rfl) hb1 hB6 ?_
                refine hK8.out _ _ hQ9 (fun hSS7 => ?_)
                clear hQ9 hK8
                generalize World.setCell WB ⟨W5.heap.size, 0, none⟩ b = WC at *
                refine wpAnyH_done (by kernel_rfl) ?_ _
                go_wp2_with fail
                go_meet
                exact hTwo
              · refine step_plain (by rfl) ?_
                simp only [List.getElem_toArray, List.getElem_cons_zero, List.getElem_cons_succ]
                go_simp
                have hbn : Below W4.heap.size W4 (W4.alloc (.cells #[.nilIface] 30)) := (Below.refl _ _).alloc (Nat.le_refl _) _
                have hB := heap_alloc_new W4 (.cells #[.nilIface] 30)
                replace rX := rX.stays hbn
                replace hY := hY.stays hbn
                replace hA := (hbn.block _ (Array.getElem?_eq_some_iff.1 hA).1).trans hA
                have hz5 : W4.heap.size < (W4.alloc (.cells #[.nilIface] 30)).heap.size := by simp
                refine hK5.out _ _ (hSS.below hbn) (fun hSS => ?_)
                clear hbn hK5
                generalize W4.alloc (.cells #[.nilIface] 30) = W5 at *
                refine wpAnyH_ready (rs := [5]) (by kernel_rfl) (by simp) (AllReadyH.cons rfl (fun K6 hK6 => ?_) AllReadyH.nil)
                refine step_plain (by rfl) ?_
                simp only [List.getElem_toArray, List.getElem_cons_zero, List.getElem_cons_succ]
                go_simp
                go_at_call 11
                refine (T2.out _ _ _ hY).mono ?_
                rintro e W6 ⟨b, rfl, hb1, rY, hbn⟩
                replace rX := rX.stays hbn
                replace hY := hY.stays hbn
                replace hA := (hbn.block _ (Array.getElem?_eq_some_iff.1 hA).1).trans hA
                replace hB := (hbn.block _ (Array.getElem?_eq_some_iff.1 hB).1).trans hB
                replace rY := rY.mono (ok' := fun b => W5.heap.size ≤ b ∧ b < W6.heap.size) (fun _ h1 h2 => ⟨h1, h2⟩)
                clear hY
                have hz6 := hbn.size
                go_simp
                refine hK6.out _ _ (hSS.below hbn) (fun hSS => ?_)
                clear hbn hK6
                have hTwo := TwoR.mk (A := W2.heap.size) (B := W4.heap.size) hSS.2.2 hA hB rX rY (by omega) (by omega) (by omega) (fun b hb => by omega) (fun b hb => by omega)
                have hS8 : Below w.heap.size w (World.setCell W6 ⟨W2.heap.size, 0, none⟩ a) := hSS.2.2.setCell (p := ⟨W2.heap.size, 0, none⟩) (show _ ≤ W2.heap.size by omega) a
                have hS9 := hS8.setCell (p := ⟨W4.heap.size, 0, none⟩) (show _ ≤ W4.heap.size by omega) b
                have hB6 := (Below.heap_setCell W6 ⟨W2.heap.size, 0, none⟩ a (W4.heap.size) (show W4.heap.size ≠ W2.heap.size by omega)).trans hB
                have hQ8 : BW w (World.setCell W6 ⟨W2.heap.size, 0, none⟩ a) v p u q := ⟨(Below.heap_setCell _ _ _ _ (show w.heap.size ≠ W2.heap.size by omega)).trans hSS.1, (Below.heap_setCell _ _ _ _ (show w.heap.size + 1 ≠ W2.heap.size by omega)).trans hSS.2.1, hS8⟩
                have hQ9 : BW w (World.setCell (World.setCell W6 ⟨W2.heap.size, 0, none⟩ a) ⟨W4.heap.size, 0, none⟩ b) v p u q := ⟨(Below.heap_setCell _ _ _ _ (show w.heap.size ≠ W4.heap.size by omega)).trans hQ8.1, (Below.heap_setCell _ _ _ _ (show w.heap.size + 1 ≠ W4.heap.size by omega)).trans hQ8.2.1, hS9⟩
                refine wpAnyH_ready (rs := [8]) (by kernel_rfl) (by simp) (AllReadyH.cons rfl (fun K7 hK7 => ?_) AllReadyH.nil)
                refine step_set1 (by rfl) _ _ (by rfl) (by rfl) (B := W2.heap.size) (u := a) (by rfl) (by rfl) ha1 hA ?_
                refine hK7.out _ _ hQ8 (fun hSS6 => ?_)
                clear hQ8 hS8 hS9 hK7
                generalize World.setCell W6 ⟨W2.heap.size, 0, none⟩ a = WB at *
                refine wpAnyH_ready (rs := [9]) (by kernel_rfl) (by simp) (AllReadyH.cons rfl (fun K8 hK8 => ?_) AllReadyH.nil)
                refine step_set1 (by rfl) _ _ (by rfl) (by rfl) (B := W4.heap.size) (u := b) (by rfl) (by rfl) hb1 hB6 ?_
                refine hK8.out _ _ hQ9 (fun hSS7 => ?_)
                clear hQ9 hK8
                generalize World.setCell WB ⟨W4.heap.size, 0, none⟩ b = WC at *
                refine wpAnyH_done (by kernel_rfl) ?_ _
                go_wp2_with fail
                go_meet
                exact hTwo
            · refine step_plain (by rfl) ?_
              simp only [List.getElem_toArray, List.getElem_cons_zero, List.getElem_cons_succ]
              go_simp
              have hbn : Below W3.heap.size W3 (W3.alloc (.cells #[.nilIface] 30)) := (Below.refl _ _).alloc (Nat.le_refl _) _
              have hB := heap_alloc_new W3 (.cells #[.nilIface] 30)
              replace rX := rX.stays hbn
              replace hA := (hbn.block _ (Array.getElem?_eq_some_iff.1 hA).1).trans hA
              have hz4 : W3.heap.size < (W3.alloc (.cells #[.nilIface] 30)).heap.size := by simp
              refine hK4.out _ _ (hSS.below hbn) (fun hSS => ?_)
              clear hbn hK4
              generalize W3.alloc (.cells #[.nilIface] 30) = W4 at *
              refine wpAnyH_ready (rs := [4]) (by kernel_rfl) (by simp) (AllReadyH.cons rfl (fun K5 hK5 => ?_) AllReadyH.nil)
              refine step_plain (by rfl) ?_
              simp only [List.getElem_toArray, List.getElem_cons_zero, List.getElem_cons_succ]
              go_simp
              go_at_call 10
              refine (C2.out _ hSS.2.2).mono ?_
              rintro e W5 ⟨yp, rfl, hY, hbn⟩
              replace rX := rX.stays hbn
              replace hA := (hbn.block _ (Array.getElem?_eq_some_iff.1 hA).1).trans hA
              replace hB := (hbn.block _ (Array.getElem?_eq_some_iff.1 hB).1).trans hB
              have hz5 := hbn.size
              go_simp
              refine hK5.out _ _ (hSS.below hbn) (fun hSS => ?_)
              clear hbn hK5
              refine wpAnyH_ready (rs := [5]) (by kernel_rfl) (by simp) (AllReadyH.cons rfl (fun K6 hK6 => ?_) AllReadyH.nil)
              refine step_plain (by rfl) ?_
              simp only [List.getElem_toArray, List.getElem_cons_zero, List.getElem_cons_succ]
              go_simp
              go_at_call 11
              refine (T2.out _ _ _ hY).mono ?_
              rintro e W6 ⟨b, rfl, hb1, rY, hbn⟩
              replace rX := rX.stays hbn
              replace hY := hY.stays hbn
              replace hA := (hbn.block _ (Array.getElem?_eq_some_iff.1 hA).1).trans hA
              replace hB := (hbn.block _ (Array.getElem?_eq_some_iff.1 hB).1).trans hB
              replace rY := rY.mono (ok' := fun b => W5.heap.size ≤ b ∧ b < W6.heap.size) (fun _ h1 h2 => ⟨h1, h2⟩)
              clear hY
              have hz6 := hbn.size
              go_simp
              refine hK6.out _ _ (hSS.below hbn) (fun hSS => ?_)
              clear hbn hK6
              have hTwo := TwoR.mk (A := W2.heap.size) (B := W3.heap.size) hSS.2.2 hA hB rX rY (by omega) (by omega) (by omega) (fun b hb => by omega) (fun b hb => by omega)
              have hS8 : Below w.heap.size w (World.setCell W6 ⟨W2.heap.size, 0, none⟩ a) := hSS.2.2.setCell (p := ⟨W2.heap.size, 0, none⟩) (show _ ≤ W2.heap.size by omega) a
              have hS9 := hS8.setCell (p := ⟨W3.heap.size, 0, none⟩) (show _ ≤ W3.heap.size by omega) b
              have hB6 := (Below.heap_setCell W6 ⟨W2.heap.size, 0, none⟩ a (W3.heap.size) (show W3.heap.size ≠ W2.heap.size by omega)).trans hB
              have hQ8 : BW w (World.setCell W6 ⟨W2.heap.size, 0, none⟩ a) v p u q := ⟨(Below.heap_setCell _ _ _ _ (show w.heap.size ≠ W2.heap.size by omega)).trans hSS.1, (Below.heap_setCell _ _ _ _ (show w.heap.size + 1 ≠ W2.heap.size by omega)).trans hSS.2.1, hS8⟩
              have hQ9 : BW w (World.setCell (World.setCell W6 ⟨W2.heap.size, 0, none⟩ a) ⟨W3.heap.size, 0, none⟩ b) v p u q := ⟨(Below.heap_setCell _ _ _ _ (show w.heap.size ≠ W3.heap.size by omega)).trans hQ8.1, (Below.heap_setCell _ _ _ _ (show w.heap.size + 1 ≠ W3.heap.size by omega)).trans hQ8.2.1, hS9⟩
              refine wpAnyH_ready (rs := [8]) (by kernel_rfl) (by simp) (AllReadyH.cons rfl (fun K7 hK7 => ?_) AllReadyH.nil)
              refine step_set1 (by rfl) _ _ (by rfl) (by rfl) (B := W2.heap.size) (u := a) (by rfl) (by rfl) ha1 hA ?_
              refine hK7.out _ _ hQ8 (fun hSS6 => ?_)
              clear hQ8 hS8 hS9 hK7
              generalize World.setCell W6 ⟨W2.heap.size, 0, none⟩ a = WB at *
              refine wpAnyH_ready (rs := [9]) (by kernel_rfl) (by simp) (AllReadyH.cons rfl (fun K8 hK8 => ?_) AllReadyH.nil)
              refine step_set1 (by rfl) _ _ (by rfl) (by rfl) (B := W3.heap.size) (u := b) (by rfl) (by rfl) hb1 hB6 ?_
              refine hK8.out _ _ hQ9 (fun hSS7 => ?_)
              clear hQ9 hK8
              generalize World.setCell WB ⟨W3.heap.size, 0, none⟩ b = WC at *
              refine wpAnyH_done (by kernel_rfl) ?_ _
              go_wp2_with fail
              go_meet
              exact hTwo
          · refine step_plain (by rfl) ?_
            simp only [List.getElem_toArray, List.getElem_cons_zero, List.getElem_cons_succ]
            go_simp
            have hbn : Below W2.heap.size W2 (W2.alloc (.cells #[.nilIface] 30)) := (Below.refl _ _).alloc (Nat.le_refl _) _
            have hB := heap_alloc_new W2 (.cells #[.nilIface] 30)
            replace rX := rX.stays hbn
            have hz3 : W2.heap.size < (W2.alloc (.cells #[.nilIface] 30)).heap.size := by simp
            refine hK3.out _ _ (hSS.below hbn) (fun hSS => ?_)
            clear hbn hK3
            generalize W2.alloc (.cells #[.nilIface] 30) = W3 at *
            refine wpAnyH_ready (rs := [4, 6]) (by kernel_rfl) (by simp) (AllReadyH.cons rfl (fun K4 hK4 => ?_) (AllReadyH.cons rfl (fun K4 hK4 => ?_) AllReadyH.nil))
            · refine step_plain (by rfl) ?_
              simp only [List.getElem_toArray, List.getElem_cons_zero, List.getElem_cons_succ]
              go_simp
              go_at_call 10
              refine (C2.out _ hSS.2.2).mono ?_
              rintro e W4 ⟨yp, rfl, hY, hbn⟩
              replace rX := rX.stays hbn
              replace hB := (hbn.block _ (Array.getElem?_eq_some_iff.1 hB).1).trans hB
              have hz4 := hbn.size
              go_simp
              refine hK4.out _ _ (hSS.below hbn) (fun hSS => ?_)
              clear hbn hK4
              refine wpAnyH_ready (rs := [5, 6]) (by kernel_rfl) (by simp) (AllReadyH.cons rfl (fun K5 hK5 => ?_) (AllReadyH.cons rfl (fun K5 hK5 => ?_) AllReadyH.nil))
              · refine step_plain (by rfl) ?_
                simp only [List.getElem_toArray, List.getElem_cons_zero, List.getElem_cons_succ]
                go_simp
                go_at_call 11
                refine (T2.out _ _ _ hY).mono ?_
                rintro e W5 ⟨b, rfl, hb1, rY, hbn⟩
                replace rX := rX.stays hbn
                replace hY := hY.stays hbn
                replace hB := (hbn.block _ (Array.getElem?_eq_some_iff.1 hB).1).trans hB
                replace rY := rY.mono (ok' := fun b => W4.heap.size ≤ b ∧ b < W5.heap.size) (fun _ h1 h2 => ⟨h1, h2⟩)
                clear hY
                have hz5 := hbn.size
                go_simp
                refine hK5.out _ _ (hSS.below hbn) (fun hSS => ?_)
                clear hbn hK5
                refine wpAnyH_ready (rs := [6]) (by kernel_rfl) (by simp) (AllReadyH.cons rfl (fun K6 hK6 => ?_) AllReadyH.nil)
                refine step_plain (by rfl) ?_
                simp only [List.getElem_toArray, List.getElem_cons_zero, List.getElem_cons_succ]
                go_simp
                have hbn : Below W5.heap.size W5 (W5.alloc (.cells #[.nilIface] 30)) := (Below.refl _ _).alloc (Nat.le_refl _) _
                have hA := heap_alloc_new W5 (.cells #[.nilIface] 30)
                replace rX := rX.stays hbn
                replace rY := rY.stays hbn
                replace hB := (hbn.block _ (Array.getElem?_eq_some_iff.1 hB).1).trans hB
                have hz6 : W5.heap.size < (W5.alloc (.cells #[.nilIface] 30)).heap.size := by simp
                refine hK6.out _ _ (hSS.below hbn) (fun hSS => ?_)
                clear hbn hK6
                generalize W5.alloc (.cells #[.nilIface] 30) = W6 at *
                have hTwo := TwoR.mk (A := W5.heap.size) (B := W2.heap.size) hSS.2.2 hA hB rX rY (by omega) (by omega) (by omega) (fun b hb => by omega) (fun b hb => by omega)
                have hS8 : Below w.heap.size w (World.setCell W6 ⟨W5.heap.size, 0, none⟩ a) := hSS.2.2.setCell (p := ⟨W5.heap.size, 0, none⟩) (show _ ≤ W5.heap.size by omega) a
                have hS9 := hS8.setCell (p := ⟨W2.heap.size, 0, none⟩) (show _ ≤ W2.heap.size by omega) b
                have hB6 := (Below.heap_setCell W6 ⟨W5.heap.size, 0, none⟩ a (W2.heap.size) (show W2.heap.size ≠ W5.heap.size by omega)).trans hB
                have hQ8 : BW w (World.setCell W6 ⟨W5.heap.size, 0, none⟩ a) v p u q := ⟨(Below.heap_setCell _ _ _ _ (show w.heap.size ≠ W5.heap.size by omega)).trans hSS.1, (Below.heap_setCell _ _ _ _ (show w.heap.size + 1 ≠ W5.heap.size by omega)).trans hSS.2.1, hS8⟩
                have hQ9 : BW w (World.setCell (World.setCell W6 ⟨W5.heap.size, 0, none⟩ a) ⟨W2.heap.size, 0, none⟩ b) v p u q := ⟨(Below.heap_setCell _ _ _ _ (show w.heap.size ≠ W2.heap.size by omega)).trans hQ8.1, (Below.heap_setCell _ _ _ _ (show w.heap.size + 1 ≠ W2.heap.size by omega)).trans hQ8.2.1, hS9⟩
                refine wpAnyH_ready (rs := [8]) (by kernel_rfl) (by simp) (AllReadyH.cons rfl (fun K7 hK7 => ?_) AllReadyH.nil)
                refine step_set1 (by rfl) _ _ (by rfl) (by rfl) (B := W5.heap.size) (u := a) (by rfl) (by rfl) ha1 hA ?_
                refine hK7.out _ _ hQ8 (fun hSS6 => ?_)
                clear hQ8 hS8 hS9 hK7
                generalize World.setCell W6 ⟨W5.heap.size, 0, none⟩ a = WB at *
                refine wpAnyH_ready (rs := [9]) (by kernel_rfl) (by simp) (AllReadyH.cons rfl (fun K8 hK8 => ?_) AllReadyH.nil)
                refine step_set1 (by rfl) _ _ (by rfl) (by rfl) (B := W2.heap.size) (u := b) (by rfl) (by rfl) hb1 hB6 ?_
                refine hK8.out _ _ hQ9 (fun hSS7 => ?_)
                clear hQ9 hK8
                generalize World.setCell WB ⟨W2.heap.size, 0, none⟩ b = WC at *
                refine wpAnyH_done (by kernel_rfl) ?_ _
                go_wp2_with fail
                go_meet
                exact hTwo
              · refine step_plain (by rfl) ?_
                simp only [List.getElem_toArray, List.getElem_cons_zero, List.getElem_cons_succ]
                go_simp
                have hbn : Below W4.heap.size W4 (W4.alloc (.cells #[.nilIface] 30)) := (Below.refl _ _).alloc (Nat.le_refl _) _
                have hA := heap_alloc_new W4 (.cells #[.nilIface] 30)
                replace rX := rX.stays hbn
                replace hY := hY.stays hbn
                replace hB := (hbn.block _ (Array.getElem?_eq_some_iff.1 hB).1).trans hB
                have hz5 : W4.heap.size < (W4.alloc (.cells #[.nilIface] 30)).heap.size := by simp
                refine hK5.out _ _ (hSS.below hbn) (fun hSS => ?_)
                clear hbn hK5
                generalize W4.alloc (.cells #[.nilIface] 30) = W5 at *
                refine wpAnyH_ready (rs := [5]) (by kernel_rfl) (by simp) (AllReadyH.cons rfl (fun K6 hK6 => ?_) AllReadyH.nil)
                refine step_plain (by rfl) ?_
                simp only [List.getElem_toArray, List.getElem_cons_zero, List.getElem_cons_succ]
                go_simp
                go_at_call 11
                refine (T2.out _ _ _ hY).mono ?_
                rintro e W6 ⟨b, rfl, hb1, rY, hbn⟩
                replace rX := rX.stays hbn
                replace hY := hY.stays hbn
                replace hA := (hbn.block _ (Array.getElem?_eq_some_iff.1 hA).1).trans hA
                replace hB := (hbn.block _ (Array.getElem?_eq_some_iff.1 hB).1).trans hB
                replace rY := rY.mono (ok' := fun b => W5.heap.size ≤ b ∧ b < W6.heap.size) (fun _ h1 h2 => ⟨h1, h2⟩)
                clear hY
                have hz6 := hbn.size
                go_simp
                refine hK6.out _ _ (hSS.below hbn) (fun hSS => ?_)
                clear hbn hK6
                have hTwo := TwoR.mk (A := W4.heap.size) (B := W2.heap.size) hSS.2.2 hA hB rX rY (by omega) (by omega) (by omega) (fun b hb => by omega) (fun b hb => by omega)
                have hS8 : Below w.heap.size w (World.setCell W6 ⟨W4.heap.size, 0, none⟩ a) := hSS.2.2.setCell (p := ⟨W4.heap.size, 0, none⟩) (show _ ≤ W4.heap.size by omega) a
                have hS9 := hS8.setCell (p := ⟨W2.heap.size, 0, none⟩) (show _ ≤ W2.heap.size by omega) b
                have hB6 := (Below.heap_setCell W6 ⟨W4.heap.size, 0, none⟩ a (W2.heap.size) (show W2.heap.size ≠ W4.heap.size by omega)).trans hB
                have hQ8 : BW w (World.setCell W6 ⟨W4.heap.size, 0, none⟩ a) v p u q := ⟨(Below.heap_setCell _ _ _ _ (show w.heap.size ≠ W4.heap.size by omega)).trans hSS.1, (Below.heap_setCell _ _ _ _ (show w.heap.size + 1 ≠ W4.heap.size by omega)).trans hSS.2.1, hS8⟩
                have hQ9 : BW w (World.setCell (World.setCell W6 ⟨W4.heap.size, 0, none⟩ a) ⟨W2.heap.size, 0, none⟩ b) v p u q := ⟨(Below.heap_setCell _ _ _ _ (show w.heap.size ≠ W2.heap.size by omega)).trans hQ8.1, (Below.heap_setCell _ _ _ _ (show w.heap.size + 1 ≠ W2.heap.size by omega)).trans hQ8.2.1, hS9⟩
                refine wpAnyH_ready (rs := [8]) (by kernel_rfl) (by simp) (AllReadyH.cons rfl (fun K7 hK7 => ?_) AllReadyH.nil)
                refine step_set1 (by rfl) _ _ (by rfl) (by rfl) (B := W4.heap.size) (u := a) (by rfl) (by rfl) ha1 hA ?_
                refine hK7.out _ _ hQ8 (fun hSS6 => ?_)
                clear hQ8 hS8 hS9 hK7
                generalize World.setCell W6 ⟨W4.heap.size, 0, none⟩ a = WB at *
                refine wpAnyH_ready (rs := [9]) (by kernel_rfl) (by simp) (AllReadyH.cons rfl (fun K8 hK8 => ?_) AllReadyH.nil)
                refine step_set1 (by rfl) _ _ (by rfl) (by rfl) (B := W2.heap.size) (u := b) (by rfl) (by rfl) hb1 hB6 ?_
                refine hK8.out _ _ hQ9 (fun hSS7 => ?_)
                clear hQ9 hK8
                generalize World.setCell WB ⟨W2.heap.size, 0, none⟩ b = WC at *
                refine wpAnyH_done (by kernel_rfl) ?_ _
                go_wp2_with fail
                go_meet
                exact hTwo
            · refine step_plain (by rfl) ?_
              simp only [List.getElem_toArray, List.getElem_cons_zero, List.getElem_cons_succ]
              go_simp
              have hbn : Below W3.heap.size W3 (W3.alloc (.cells #[.nilIface] 30)) := (Below.refl _ _).alloc (Nat.le_refl _) _
              have hA := heap_alloc_new W3 (.cells #[.nilIface] 30)
              replace rX := rX.stays hbn
              replace hB := (hbn.block _ (Array.getElem?_eq_some_iff.1 hB).1).trans hB
              have hz4 : W3.heap.size < (W3.alloc (.cells #[.nilIface] 30)).heap.size := by simp
              refine hK4.out _ _ (hSS.below hbn) (fun hSS => ?_)
              clear hbn hK4
              generalize W3.alloc (.cells #[.nilIface] 30) = W4 at *
              refine wpAnyH_ready (rs := [4]) (by kernel_rfl) (by simp) (AllReadyH.cons rfl (fun K5 hK5 => ?_) AllReadyH.nil)
              refine step_plain (by rfl) ?_
              simp only [List.getElem_toArray, List.getElem_cons_zero, List.getElem_cons_succ]
              go_simp
              go_at_call 10
              refine (C2.out _ hSS.2.2).mono ?_
              rintro e W5 ⟨yp, rfl, hY, hbn⟩
              replace rX := rX.stays hbn
              replace hA := (hbn.block _ (Array.getElem?_eq_some_iff.1 hA).1).trans hA
              replace hB := (hbn.block _ (Array.getElem?_eq_some_iff.1 hB).1).trans hB
              have hz5 := hbn.size
              go_simp
              refine hK5.out _ _ (hSS.below hbn) (fun hSS => ?_)
              clear hbn hK5
              refine wpAnyH_ready (rs := [5]) (by kernel_rfl) (by simp) (AllReadyH.cons rfl (fun K6 hK6 => ?_) AllReadyH.nil)
              refine step_plain (by rfl) ?_
              simp only [List.getElem_toArray, List.getElem_cons_zero, List.getElem_cons_succ]
              go_simp
              go_at_call 11
              refine (T2.out _ _ _ hY).mono ?_
              rintro e W6 ⟨b, rfl, hb1, rY, hbn⟩
              replace rX := rX.stays hbn
              replace hY := hY.stays hbn
              replace hA := (hbn.block _ (Array.getElem?_eq_some_iff.1 hA).1).trans hA
              replace hB := (hbn.block _ (Array.getElem?_eq_some_iff.1 hB).1).trans hB
              replace rY := rY.mono (ok' := fun b => W5.heap.size ≤ b ∧ b < W6.heap.size) (fun _ h1 h2 => ⟨h1, h2⟩)
              clear hY
              have hz6 := hbn.size
              go_simp
              refine hK6.out _ _ (hSS.below hbn) (fun hSS => ?_)
              clear hbn hK6
              have hTwo := TwoR.mk (A := W3.heap.size) (B := W2.heap.size) hSS.2.2 hA hB rX rY (by omega) (by omega) (by omega) (fun b hb => by omega) (fun b hb => by omega)
              have hS8 : Below w.heap.size w (World.setCell W6 ⟨W3.heap.size, 0, none⟩ a) := hSS.2.2.setCell (p := ⟨W3.heap.size, 0, none⟩) (show _ ≤ W3.heap.size by omega) a
              have hS9 := hS8.setCell (p := ⟨W2.heap.size, 0, none⟩) (show _ ≤ W2.heap.size by omega) b
              have hB6 := (Below.heap_setCell W6 ⟨W3.heap.size, 0, none⟩ a (W2.heap.size) (show W2.heap.size ≠ W3.heap.size by omega)).trans hB
              have hQ8 : BW w (World.setCell W6 ⟨W3.heap.size, 0, none⟩ a) v p u q := ⟨(Below.heap_setCell _ _ _ _ (show w.heap.size ≠ W3.heap.size by omega)).trans hSS.1, (Below.heap_setCell _ _ _ _ (show w.heap.size + 1 ≠ W3.heap.size by omega)).trans hSS.2.1, hS8⟩
              have hQ9 : BW w (World.setCell (World.setCell W6 ⟨W3.heap.size, 0, none⟩ a) ⟨W2.heap.size, 0, none⟩ b) v p u q := ⟨(Below.heap_setCell _ _ _ _ (show w.heap.size ≠ W2.heap.size by omega)).trans hQ8.1, (Below.heap_setCell _ _ _ _ (show w.heap.size + 1 ≠ W2.heap.size by omega)).trans hQ8.2.1, hS9⟩
              refine wpAnyH_ready (rs := [8]) (by kernel_rfl) (by simp) (AllReadyH.cons rfl (fun K7 hK7 => ?_) AllReadyH.nil)
              refine step_set1 (by rfl) _ _ (by rfl) (by rfl) (B := W3.heap.size) (u := a) (by rfl) (by rfl) ha1 hA ?_
              refine hK7.out _ _ hQ8 (fun hSS6 => ?_)
              clear hQ8 hS8 hS9 hK7
              generalize World.setCell W6 ⟨W3.heap.size, 0, none⟩ a = WB at *
              refine wpAnyH_ready (rs := [9]) (by kernel_rfl) (by simp) (AllReadyH.cons rfl (fun K8 hK8 => ?_) AllReadyH.nil)
              refine step_set1 (by rfl) _ _ (by rfl) (by rfl) (B := W2.heap.size) (u := b) (by rfl) (by rfl) hb1 hB6 ?_
              refine hK8.out _ _ hQ9 (fun hSS7 => ?_)
              clear hQ9 hK8
              generalize World.setCell WB ⟨W2.heap.size, 0, none⟩ b = WC at *
              refine wpAnyH_done (by kernel_rfl) ?_ _
              go_wp2_with fail
              go_meet
              exact hTwo
        · refine step_plain (by rfl) ?_
          simp only [List.getElem_toArray, List.getElem_cons_zero, List.getElem_cons_succ]
          go_simp
          have hbn : Below W1.heap.size W1 (W1.alloc (.cells #[.nilIface] 30)) := (Below.refl _ _).alloc (Nat.le_refl _) _
          have hA := heap_alloc_new W1 (.cells #[.nilIface] 30)
          replace hX := hX.stays hbn
          have hz2 : W1.heap.size < (W1.alloc (.cells #[.nilIface] 30)).heap.size := by simp
          refine hK2.out _ _ (hSS.below hbn) (fun hSS => ?_)
          clear hbn hK2
          generalize W1.alloc (.cells #[.nilIface] 30) = W2 at *
          refine wpAnyH_ready (rs := [2, 7]) (by kernel_rfl) (by simp) (AllReadyH.cons rfl (fun K3 hK3 => ?_) (AllReadyH.cons rfl (fun K3 hK3 => ?_) AllReadyH.nil))
          · refine step_plain (by rfl) ?_
            simp only [List.getElem_toArray, List.getElem_cons_zero, List.getElem_cons_succ]
            go_simp
            go_at_call 11
            refine (T1.out _ _ _ hX).mono ?_
            rintro e W3 ⟨a, rfl, ha1, rX, hbn⟩
            replace hX := hX.stays hbn
            replace hA := (hbn.block _ (Array.getElem?_eq_some_iff.1 hA).1).trans hA
            replace rX := rX.mono (ok' := fun b => W2.heap.size ≤ b ∧ b < W3.heap.size) (fun _ h1 h2 => ⟨h1, h2⟩)
            clear hX
            have hz3 := hbn.size
            go_simp
            refine hK3.out _ _ (hSS.below hbn) (fun hSS => ?_)
            clear hbn hK3
            refine wpAnyH_ready (rs := [4, 7]) (by kernel_rfl) (by simp) (AllReadyH.cons rfl (fun K4 hK4 => ?_) (AllReadyH.cons rfl (fun K4 hK4 => ?_) AllReadyH.nil))
            · refine step_plain (by rfl) ?_
              simp only [List.getElem_toArray, List.getElem_cons_zero, List.getElem_cons_succ]
              go_simp
              go_at_call 10
              refine (C2.out _ hSS.2.2).mono ?_
              rintro e W4 ⟨yp, rfl, hY, hbn⟩
              replace rX := rX.stays hbn
              replace hA := (hbn.block _ (Array.getElem?_eq_some_iff.1 hA).1).trans hA
              have hz4 := hbn.size
              go_simp
              refine hK4.out _ _ (hSS.below hbn) (fun hSS => ?_)
              clear hbn hK4
              refine wpAnyH_ready (rs := [5, 7]) (by kernel_rfl) (by simp) (AllReadyH.cons rfl (fun K5 hK5 => ?_) (AllReadyH.cons rfl (fun K5 hK5 => ?_) AllReadyH.nil))
              · refine step_plain (by rfl) ?_
                simp only [List.getElem_toArray, List.getElem_cons_zero, List.getElem_cons_succ]
                go_simp
                go_at_call 11
                refine (T2.out _ _ _ hY).mono ?_
                rintro e W5 ⟨b, rfl, hb1, rY, hbn⟩
                replace rX := rX.stays hbn
                replace hY := hY.stays hbn
                replace hA := (hbn.block _ (Array.getElem?_eq_some_iff.1 hA).1).trans hA
                replace rY := rY.mono (ok' := fun b => W4.heap.size ≤ b ∧ b < W5.heap.size) (fun _ h1 h2 => ⟨h1, h2⟩)
                clear hY
                have hz5 := hbn.size
                go_simp
                refine hK5.out _ _ (hSS.below hbn) (fun hSS => ?_)
                clear hbn hK5
                refine wpAnyH_ready (rs := [7]) (by kernel_rfl) (by simp) (AllReadyH.cons rfl (fun K6 hK6 => ?_) AllReadyH.nil)
                refine step_plain (by rfl) ?_
                simp only [List.getElem_toArray, List.getElem_cons_zero, List.getElem_cons_succ]
                go_simp
                have hbn : Below W5.heap.size W5 (W5.alloc (.cells #[.nilIface] 30)) := (Below.refl _ _).alloc (Nat.le_refl _) _
                have hB := heap_alloc_new W5 (.cells #[.nilIface] 30)
                replace rX := rX.stays hbn
                replace rY := rY.stays hbn
                replace hA := (hbn.block _ (Array.getElem?_eq_some_iff.1 hA).1).trans hA
                have hz6 : W5.heap.size < (W5.alloc (.cells #[.nilIface] 30)).heap.size := by simp
                refine hK6.out _ _ (hSS.below hbn) (fun hSS => ?_)
                clear hbn hK6
                generalize W5.alloc (.cells #[.nilIface] 30) = W6 at *
                have hTwo := TwoR.mk (A := W1.heap.size) (B := W5.heap.size) hSS.2.2 hA hB rX rY (by omega) (by omega) (by omega) (fun b hb => by omega) (fun b hb => by omega)
                have hS8 : Below w.heap.size w (World.setCell W6 ⟨W1.heap.size, 0, none⟩ a) := hSS.2.2.setCell (p := ⟨W1.heap.size, 0, none⟩) (show _ ≤ W1.heap.size by omega) a
                have hS9 := hS8.setCell (p := ⟨W5.heap.size, 0, none⟩) (show _ ≤ W5.heap.size by omega) b
                have hB6 := (Below.heap_setCell W6 ⟨W1.heap.size, 0, none⟩ a (W5.heap.size) (show W5.heap.size ≠ W1.heap.size by omega)).trans hB
                have hQ8 : BW w (World.setCell W6 ⟨W1.heap.size, 0, none⟩ a) v p u q := ⟨(Below.heap_setCell _ _ _ _ (show w.heap.size ≠ W1.heap.size by omega)).trans hSS.1, (Below.heap_setCell _ _ _ _ (show w.heap.size + 1 ≠ W1.heap.size by omega)).trans hSS.2.1, hS8⟩
                have hQ9 : BW w (World.setCell (World.setCell W6 ⟨W1.heap.size, 0, none⟩ a) ⟨W5.heap.size, 0, none⟩ b) v p u q := ⟨(Below.heap_setCell _ _ _ _ (show w.heap.size ≠ W5.heap.size by omega)).trans hQ8.1, (Below.heap_setCell _ _ _ _ (show w.heap.size + 1 ≠ W5.heap.size by omega)).trans hQ8.2.1, hS9⟩
                refine wpAnyH_ready (rs := [8]) (by kernel_rfl) (by simp) (AllReadyH.cons rfl (fun K7 hK7 => ?_) AllReadyH.nil)
                refine step_set1 (by rfl) _ _ (by rfl) (by rfl) (B := W1.heap.size) (u := a) (by rfl) (by rfl) ha1 hA ?_
                refine hK7.out _ _ hQ8 (fun hSS6 => ?_)
                clear hQ8 hS8 hS9 hK7
                generalize World.setCell W6 ⟨W1.heap.size, 0, none⟩ a = WB at *
                refine wpAnyH_ready (rs := [9]) (by kernel_rfl) (by simp) (AllReadyH.cons rfl (fun K8 hK8 => ?_) AllReadyH.nil)
                refine step_set1 (by rfl) _ _ (by rfl) (by rfl) (B := W5.heap.size) (u := b) (by rfl) (by rfl) hb1 hB6 ?_
                refine hK8.out _ _ hQ9 (fun hSS7 => ?_)
                clear hQ9 hK8
                generalize World.setCell WB ⟨W5.heap.size, 0, none⟩ b = WC at *
                refine wpAnyH_done (by kernel_rfl) ?_ _
                go_wp2_with fail
                go_meet
                exact hTwo
              · refine step_plain (by rfl) ?_
                simp only [List.getElem_toArray, List.getElem_cons_zero, List.getElem_cons_succ]
                go_simp
                have hbn : Below W4.heap.size W4 (W4.alloc (.cells #[.nilIface] 30)) := (Below.refl _ _).alloc (Nat.le_refl _) _
                have hB := heap_alloc_new W4 (.cells #[.nilIface] 30)
                replace rX := rX.stays hbn
                replace hY := hY.stays hbn
                replace hA := (hbn.block _ (Array.getElem?_eq_some_iff.1 hA).1).trans hA
                have hz5 : W4.heap.size < (W4.alloc (.cells #[.nilIface] 30)).heap.size := by simp
                refine hK5.out _ _ (hSS.below hbn) (fun hSS => ?_)
                clear hbn hK5
                generalize W4.alloc (.cells #[.nilIface] 30) = W5 at *
                refine wpAnyH_ready (rs := [5]) (by kernel_rfl) (by simp) (AllReadyH.cons rfl (fun K6 hK6 => ?_) AllReadyH.nil)
                refine step_plain (by rfl) ?_
                simp only [List.getElem_toArray, List.getElem_cons_zero, List.getElem_cons_succ]
                go_simp
                go_at_call 11
                refine (T2.out _ _ _ hY).mono ?_
                rintro e W6 ⟨b, rfl, hb1, rY, hbn⟩
                replace rX := rX.stays hbn
                replace hY := hY.stays hbn
                replace hA := (hbn.block _ (Array.getElem?_eq_some_iff.1 hA).1).trans hA
                replace hB := (hbn.block _ (Array.getElem?_eq_some_iff.1 hB).1).trans hB
                replace rY := rY.mono (ok' := fun b => W5.heap.size ≤ b ∧ b < W6.heap.size) (fun _ h1 h2 => ⟨h1, h2⟩)
                clear hY
                have hz6 := hbn.size
                go_simp
                refine hK6.out _ _ (hSS.below hbn) (fun hSS => ?_)
                clear hbn hK6
                have hTwo := TwoR.mk (A := W1.heap.size) (B := W4.heap.size) hSS.2.2 hA hB rX rY (by omega) (by omega) (by omega) (fun b hb => by omega) (fun b hb => by omega)
                have hS8 : Below w.heap.size w (World.setCell W6 ⟨W1.heap.size, 0, none⟩ a) := hSS.2.2.setCell (p := ⟨W1.heap.size, 0, none⟩) (show _ ≤ W1.heap.size by omega) a
                have hS9 := hS8.setCell (p := ⟨W4.heap.size, 0, none⟩) (show _ ≤ W4.heap.size by omega) b
                have hB6 := (Below.heap_setCell W6 ⟨W1.heap.size, 0, none⟩ a (W4.heap.size) (show W4.heap.size ≠ W1.heap.size by omega)).trans hB
                have hQ8 : BW w (World.setCell W6 ⟨W1.heap.size, 0, none⟩ a) v p u q := ⟨(Below.heap_setCell _ _ _ _ (show w.heap.size ≠ W1.heap.size by omega)).trans hSS.1, (Below.heap_setCell _ _ _ _ (show w.heap.size + 1 ≠ W1.heap.size by omega)).trans hSS.2.1, hS8⟩
                have hQ9 : BW w (World.setCell (World.setCell W6 ⟨W1.heap.size, 0, none⟩ a) ⟨W4.heap.size, 0, none⟩ b) v p u q := ⟨(Below.heap_setCell _ _ _ _ (show w.heap.size ≠ W4.heap.size by omega)).trans hQ8.1, (Below.heap_setCell _ _ _ _ (show w.heap.size + 1 ≠ W4.heap.size by omega)).trans hQ8.2.1, hS9⟩
                refine wpAnyH_ready (rs := [8]) (by kernel_rfl) (by simp) (AllReadyH.cons rfl (fun K7 hK7 => ?_) AllReadyH.nil)
                refine step_set1 (by rfl) _ _ (by rfl) (by rfl) (B := W1.heap.size) (u := a) (by rfl) (by rfl) ha1 hA ?_
                refine hK7.out _ _ hQ8 (fun hSS6 => ?_)
                clear hQ8 hS8 hS9 hK7
                generalize World.setCell W6 ⟨W1.heap.size, 0, none⟩ a = WB at *
                refine wpAnyH_ready (rs := [9]) (by kernel_rfl) (by simp) (AllReadyH.cons rfl (fun K8 hK8 => ?_) AllReadyH.nil)
                refine step_set1 (by rfl) _ _ (by rfl) (by rfl) (B := W4.heap.size) (u := b) (by rfl) (by rfl) hb1 hB6 ?_
                refine hK8.out _ _ hQ9 (fun hSS7 => ?_)
                clear hQ9 hK8
                generalize World.setCell WB ⟨W4.heap.size, 0, none⟩ b = WC at *
                refine wpAnyH_done (by kernel_rfl) ?_ _
                go_wp2_with fail
                go_meet
                exact hTwo
            · refine step_plain (by rfl) ?_
              simp only [List.getElem_toArray, List.getElem_cons_zero, List.getElem_cons_succ]
              go_simp
              have hbn : Below W3.heap.size W3 (W3.alloc (.cells #[.nilIface] 30)) := (Below.refl _ _).alloc (Nat.le_refl _) _
              have hB := heap_alloc_new W3 (.cells #[.nilIface] 30)
              replace rX := rX.stays hbn
              replace hA := (hbn.block _ (Array.getElem?_eq_some_iff.1 hA).1).trans hA
              have hz4 : W3.heap.size < (W3.alloc (.cells #[.nilIface] 30)).heap.size := by simp
              refine hK4.out _ _ (hSS.below hbn) (fun hSS => ?_)
              clear hbn hK4
              generalize W3.alloc (.cells #[.nilIface] 30) = W4 at *
              refine wpAnyH_ready (rs := [4]) (by kernel_rfl) (by simp) (AllReadyH.cons rfl (fun K5 hK5 => ?_) AllReadyH.nil)
              refine step_plain (by rfl) ?_
              simp only [List.getElem_toArray, List.getElem_cons_zero, List.getElem_cons_succ]
              go_simp
              go_at_call 10
              refine (C2.out _ hSS.2.2).mono ?_
              rintro e W5 ⟨yp, rfl, hY, hbn⟩
              replace rX := rX.stays hbn
              replace hA := (hbn.block _ (Array.getElem?_eq_some_iff.1 hA).1).trans hA
              replace hB := (hbn.block _ (Array.getElem?_eq_some_iff.1 hB).1).trans hB
              have hz5 := hbn.size
              go_simp
              refine hK5.out _ _ (hSS.below hbn) (fun hSS => ?_)
              clear hbn hK5
              refine wpAnyH_ready (rs := [5]) (by kernel_rfl) (by simp) (AllReadyH.cons rfl (fun K6 hK6 => ?_) AllReadyH.nil)
              refine step_plain (by rfl) ?_
              simp only [List.getElem_toArray, List.getElem_cons_zero, List.getElem_cons_succ]
              go_simp
              go_at_call 11
              refine (T2.out _ _ _ hY).mono ?_
              rintro e W6 ⟨b, rfl, hb1, rY, hbn⟩
              replace rX := rX.stays hbn
              replace hY := hY.stays hbn
              replace hA := (hbn.block _ (Array.getElem?_eq_some_iff.1 hA).1).trans hA
              replace hB := (hbn.block _ (Array.getElem?_eq_some_iff.1 hB).1).trans hB
              replace rY := rY.mono (ok' := fun b => W5.heap.size ≤ b ∧ b < W6.heap.size) (fun _ h1 h2 => ⟨h1, h2⟩)
              clear hY
              have hz6 := hbn.size
              go_simp
              refine hK6.out _ _ (hSS.below hbn) (fun hSS => ?_)
              clear hbn hK6
              have hTwo := TwoR.mk (A := W1.heap.size) (B := W3.heap.size) hSS.2.2 hA hB rX rY (by omega) (by omega) (by omega) (fun b hb => by omega) (fun b hb => by omega)
              have hS8 : Below w.heap.size w (World.setCell W6 ⟨W1.heap.size, 0, none⟩ a) := hSS.2.2.setCell (p := ⟨W1.heap.size, 0, none⟩) (show _ ≤ W1.heap.size by omega) a
              have hS9 := hS8.setCell (p := ⟨W3.heap.size, 0, none⟩) (show _ ≤ W3.heap.size by omega) b
              have hB6 := (Below.heap_setCell W6 ⟨W1.heap.size, 0, none⟩ a (W3.heap.size) (show W3.heap.size ≠ W1.heap.size by omega)).trans hB
              have hQ8 : BW w (World.setCell W6 ⟨W1.heap.size, 0, none⟩ a) v p u q := ⟨(Below.heap_setCell _ _ _ _ (show w.heap.size ≠ W1.heap.size by omega)).trans hSS.1, (Below.heap_setCell _ _ _ _ (show w.heap.size + 1 ≠ W1.heap.size by omega)).trans hSS.2.1, hS8⟩
              have hQ9 : BW w (World.setCell (World.setCell W6 ⟨W1.heap.size, 0, none⟩ a) ⟨W3.heap.size, 0, none⟩ b) v p u q := ⟨(Below.heap_setCell _ _ _ _ (show w.heap.size ≠ W3.heap.size by omega)).trans hQ8.1, (Below.heap_setCell _ _ _ _ (show w.heap.size + 1 ≠ W3.heap.size by omega)).trans hQ8.2.1, hS9⟩
              refine wpAnyH_ready (rs := [8]) (by kernel_rfl) (by simp) (AllReadyH.cons rfl (fun K7 hK7 => ?_) AllReadyH.nil)
              refine step_set1 (by rfl) _ _ (by rfl) (by rfl) (B := W1.heap.size) (u := a) (by rfl) (by rfl) ha1 hA ?_
              refine hK7.out _ _ hQ8 (fun hSS6 => ?_)
              clear hQ8 hS8 hS9 hK7
              generalize World.setCell W6 ⟨W1.heap.size, 0, none⟩ a = WB at *
              refine wpAnyH_ready (rs := [9]) (by kernel_rfl) (by simp) (AllReadyH.cons rfl (fun K8 hK8 => ?_) AllReadyH.nil)
              refine step_set1 (by rfl) _ _ (by rfl) (by rfl) (B := W3.heap.size) (u := b) (by rfl) (by rfl) hb1 hB6 ?_
              refine hK8.out _ _ hQ9 (fun hSS7 => ?_)
              clear hQ9 hK8
              generalize World.setCell WB ⟨W3.heap.size, 0, none⟩ b = WC at *
              refine wpAnyH_done (by kernel_rfl) ?_ _
              go_wp2_with fail
              go_meet
              exact hTwo
          · refine step_plain (by rfl) ?_
            simp only [List.getElem_toArray, List.getElem_cons_zero, List.getElem_cons_succ]
            go_simp
            have hbn : Below W2.heap.size W2 (W2.alloc (.cells #[.nilIface] 30)) := (Below.refl _ _).alloc (Nat.le_refl _) _
            have hB := heap_alloc_new W2 (.cells #[.nilIface] 30)
            replace hX := hX.stays hbn
            replace hA := (hbn.block _ (Array.getElem?_eq_some_iff.1 hA).1).trans hA
            have hz3 : W2.heap.size < (W2.alloc (.cells #[.nilIface] 30)).heap.size := by simp
            refine hK3.out _ _ (hSS.below hbn) (fun hSS => ?_)
            clear hbn hK3
            generalize W2.alloc (.cells #[.nilIface] 30) = W3 at *
            refine wpAnyH_ready (rs := [2]) (by kernel_rfl) (by simp) (AllReadyH.cons rfl (fun K4 hK4 => ?_) AllReadyH.nil)
            refine step_plain (by rfl) ?_
            simp only [List.getElem_toArray, List.getElem_cons_zero, List.getElem_cons_succ]
            go_simp
            go_at_call 11
            refine (T1.out _ _ _ hX).mono ?_
            rintro e W4 ⟨a, rfl, ha1, rX, hbn⟩
            replace hX := hX.stays hbn
            replace hA := (hbn.block _ (Array.getElem?_eq_some_iff.1 hA).1).trans hA
            replace hB := (hbn.block _ (Array.getElem?_eq_some_iff.1 hB).1).trans hB
            replace rX := rX.mono (ok' := fun b => W3.heap.size ≤ b ∧ b < W4.heap.size) (fun _ h1 h2 => ⟨h1, h2⟩)
            clear hX
            have hz4 := hbn.size
            go_simp
            refine hK4.out _ _ (hSS.below hbn) (fun hSS => ?_)
            clear hbn hK4
            refine wpAnyH_ready (rs := [4]) (by kernel_rfl) (by simp) (AllReadyH.cons rfl (fun K5 hK5 => ?_) AllReadyH.nil)
            refine step_plain (by rfl) ?_
            simp only [List.getElem_toArray, List.getElem_cons_zero, List.getElem_cons_succ]
            go_simp
            go_at_call 10
            refine (C2.out _ hSS.2.2).mono ?_
            rintro e W5 ⟨yp, rfl, hY, hbn⟩
            replace rX := rX.stays hbn
            replace hA := (hbn.block _ (Array.getElem?_eq_some_iff.1 hA).1).trans hA
            replace hB := (hbn.block _ (Array.getElem?_eq_some_iff.1 hB).1).trans hB
            have hz5 := hbn.size
            go_simp
            refine hK5.out _ _ (hSS.below hbn) (fun hSS => ?_)
            clear hbn hK5
            refine wpAnyH_ready (rs := [5]) (by kernel_rfl) (by simp) (AllReadyH.cons rfl (fun K6 hK6 => ?_) AllReadyH.nil)
            refine step_plain (by rfl) ?_
            simp only [List.getElem_toArray, List.getElem_cons_zero, List.getElem_cons_succ]
            go_simp
            go_at_call 11
            refine (T2.out _ _ _ hY).mono ?_
            rintro e W6 ⟨b, rfl, hb1, rY, hbn⟩
            replace rX := rX.stays hbn
            replace hY := hY.stays hbn
            replace hA := (hbn.block _ (Array.getElem?_eq_some_iff.1 hA).1).trans hA
            replace hB := (hbn.block _ (Array.getElem?_eq_some_iff.1 hB).1).trans hB
            replace rY := rY.mono (ok' := fun b => W5.heap.size ≤ b ∧ b < W6.heap.size) (fun _ h1 h2 => ⟨h1, h2⟩)
            clear hY
            have hz6 := hbn.size
            go_simp
            refine hK6.out _ _ (hSS.below hbn) (fun hSS => ?_)
            clear hbn hK6
            have hTwo := TwoR.mk (A := W1.heap.size) (B := W2.heap.size) hSS.2.2 hA hB rX rY (by omega) (by omega) (by omega) (fun b hb => by omega) (fun b hb => by omega)
            have hS8 : Below w.heap.size w (World.setCell W6 ⟨W1.heap.size, 0, none⟩ a) := hSS.2.2.setCell (p := ⟨W1.heap.size, 0, none⟩) (show _ ≤ W1.heap.size by omega) a
            have hS9 := hS8.setCell (p := ⟨W2.heap.size, 0, none⟩) (show _ ≤ W2.heap.size by omega) b
            have hB6 := (Below.heap_setCell W6 ⟨W1.heap.size, 0, none⟩ a (W2.heap.size) (show W2.heap.size ≠ W1.heap.size by omega)).trans hB
            have hQ8 : BW w (World.setCell W6 ⟨W1.heap.size, 0, none⟩ a) v p u q := ⟨(Below.heap_setCell _ _ _ _ (show w.heap.size ≠ W1.heap.size by omega)).trans hSS.1, (Below.heap_setCell _ _ _ _ (show w.heap.size + 1 ≠ W1.heap.size by omega)).trans hSS.2.1, hS8⟩
            have hQ9 : BW w (World.setCell (World.setCell W6 ⟨W1.heap.size, 0, none⟩ a) ⟨W2.heap.size, 0, none⟩ b) v p u q := ⟨(Below.heap_setCell _ _ _ _ (show w.heap.size ≠ W2.heap.size by omega)).trans hQ8.1, (Below.heap_setCell _ _ _ _ (show w.heap.size + 1 ≠ W2.heap.size by omega)).trans hQ8.2.1, hS9⟩
            refine wpAnyH_ready (rs := [8]) (by kernel_rfl) (by simp) (AllReadyH.cons rfl (fun K7 hK7 => ?_) AllReadyH.nil)
            refine step_set1 (by rfl) _ _ (by rfl) (by rfl) (B := W1.heap.size) (u := a) (by rfl) (by rfl) ha1 hA ?_
            refine hK7.out _ _ hQ8 (fun hSS6 => ?_)
            clear hQ8 hS8 hS9 hK7
            generalize World.setCell W6 ⟨W1.heap.size, 0, none⟩ a = WB at *
            refine wpAnyH_ready (rs := [9]) (by kernel_rfl) (by simp) (AllReadyH.cons rfl (fun K8 hK8 => ?_) AllReadyH.nil)
            refine step_set1 (by rfl) _ _ (by rfl) (by rfl) (B := W2.heap.size) (u := b) (by rfl) (by rfl) hb1 hB6 ?_
            refine hK8.out _ _ hQ9 (fun hSS7 => ?_)
            clear hQ9 hK8
            generalize World.setCell WB ⟨W2.heap.size, 0, none⟩ b = WC at *
            refine wpAnyH_done (by kernel_rfl) ?_ _
            go_wp2_with fail
            go_meet
            exact hTwo
        · refine step_plain (by rfl) ?_
          simp only [List.getElem_toArray, List.getElem_cons_zero, List.getElem_cons_succ]
          go_simp
          have hbn : Below W1.heap.size W1 (W1.alloc (.cells #[.nilIface] 30)) := (Below.refl _ _).alloc (Nat.le_refl _) _
          have hB := heap_alloc_new W1 (.cells #[.nilIface] 30)
          replace hX := hX.stays hbn
          have hz2 : W1.heap.size < (W1.alloc (.cells #[.nilIface] 30)).heap.size := by simp
          refine hK2.out _ _ (hSS.below hbn) (fun hSS => ?_)
          clear hbn hK2
          generalize W1.alloc (.cells #[.nilIface] 30) = W2 at *
          refine wpAnyH_ready (rs := [2, 6]) (by kernel_rfl) (by simp) (AllReadyH.cons rfl (fun K3 hK3 => ?_) (AllReadyH.cons rfl (fun K3 hK3 => ?_) AllReadyH.nil))
          · refine step_plain (by rfl) ?_
            simp only [List.getElem_toArray, List.getElem_cons_zero, List.getElem_cons_succ]
            go_simp
            go_at_call 11
            refine (T1.out _ _ _ hX).mono ?_
            rintro e W3 ⟨a, rfl, ha1, rX, hbn⟩
            replace hX := hX.stays hbn
            replace hB := (hbn.block _ (Array.getElem?_eq_some_iff.1 hB).1).trans hB
            replace rX := rX.mono (ok' := fun b => W2.heap.size ≤ b ∧ b < W3.heap.size) (fun _ h1 h2 => ⟨h1, h2⟩)
            clear hX
            have hz3 := hbn.size
            go_simp
            refine hK3.out _ _ (hSS.below hbn) (fun hSS => ?_)
            clear hbn hK3
            refine wpAnyH_ready (rs := [4, 6]) (by kernel_rfl) (by simp) (AllReadyH.cons rfl (fun K4 hK4 => ?_) (AllReadyH.cons rfl (fun K4 hK4 => ?_) AllReadyH.nil))
            · refine step_plain (by rfl) ?_
              simp only [List.getElem_toArray, List.getElem_cons_zero, List.getElem_cons_succ]
              go_simp
              go_at_call 10
              refine (C2.out _ hSS.2.2).mono ?_
              rintro e W4 ⟨yp, rfl, hY, hbn⟩
              replace rX := rX.stays hbn
              replace hB := (hbn.block _ (Array.getElem?_eq_some_iff.1 hB).1).trans hB
              have hz4 := hbn.size
              go_simp
              refine hK4.out _ _ (hSS.below hbn) (fun hSS => ?_)
              clear hbn hK4
              refine wpAnyH_ready (rs := [5, 6]) (by kernel_rfl) (by simp) (AllReadyH.cons rfl (fun K5 hK5 => ?_) (AllReadyH.cons rfl (fun K5 hK5 => ?_) AllReadyH.nil))
              · refine step_plain (by rfl) ?_
                simp only [List.getElem_toArray, List.getElem_cons_zero, List.getElem_cons_succ]
                go_simp
                go_at_call 11
                refine (T2.out _ _ _ hY).mono ?_
                rintro e W5 ⟨b, rfl, hb1, rY, hbn⟩
                replace rX := rX.stays hbn
                replace hY := hY.stays hbn
                replace hB := (hbn.block _ (Array.getElem?_eq_some_iff.1 hB).1).trans hB
                replace rY := rY.mono (ok' := fun b => W4.heap.size ≤ b ∧ b < W5.heap.size) (fun _ h1 h2 => ⟨h1, h2⟩)
                clear hY
                have hz5 := hbn.size
                go_simp
                refine hK5.out _ _ (hSS.below hbn) (fun hSS => ?_)
                clear hbn hK5
                refine wpAnyH_ready (rs := [6]) (by kernel_rfl) (by simp) (AllReadyH.cons rfl (fun K6 hK6 => ?_) AllReadyH.nil)
                refine step_plain (by rfl) ?_
                simp only [List.getElem_toArray, List.getElem_cons_zero, List.getElem_cons_succ]
                go_simp
                have hbn : Below W5.heap.size W5 (W5.alloc (.cells #[.nilIface] 30)) := (Below.refl _ _).alloc (Nat.le_refl _) _
                have hA := heap_alloc_new W5 (.cells #[.nilIface] 30)
                replace rX := rX.stays hbn
                replace rY := rY.stays hbn
                replace hB := (hbn.block _ (Array.getElem?_eq_some_iff.1 hB).1).trans hB
                have hz6 : W5.heap.size < (W5.alloc (.cells #[.nilIface] 30)).heap.size := by simp
                refine hK6.out _ _ (hSS.below hbn) (fun hSS => ?_)
                clear hbn hK6
                generalize W5.alloc (.cells #[.nilIface] 30) = W6 at *
                have hTwo := TwoR.mk (A := W5.heap.size) (B := W1.heap.size) hSS.2.2 hA hB rX rY (by omega) (by omega) (by omega) (fun b hb => by omega) (fun b hb => by omega)
                have hS8 : Below w.heap.size w (World.setCell W6 ⟨W5.heap.size, 0, none⟩ a) := hSS.2.2.setCell (p := ⟨W5.heap.size, 0, none⟩) (show _ ≤ W5.heap.size by omega) a
                have hS9 := hS8.setCell (p := ⟨W1.heap.size, 0, none⟩) (show _ ≤ W1.heap.size by omega) b
                have hB6 := (Below.heap_setCell W6 ⟨W5.heap.size, 0, none⟩ a (W1.heap.size) (show W1.heap.size ≠ W5.heap.size by omega)).trans hB
                have hQ8 : BW w (World.setCell W6 ⟨W5.heap.size, 0, none⟩ a) v p u q := ⟨(Below.heap_setCell _ _ _ _ (show w.heap.size ≠ W5.heap.size by omega)).trans hSS.1, (Below.heap_setCell _ _ _ _ (show w.heap.size + 1 ≠ W5.heap.size by omega)).trans hSS.2.1, hS8⟩
                have hQ9 : BW w (World.setCell (World.setCell W6 ⟨W5.heap.size, 0, none⟩ a) ⟨W1.heap.size, 0, none⟩ b) v p u q := ⟨(Below.heap_setCell _ _ _ _ (show w.heap.size ≠ W1.heap.size by omega)).trans hQ8.1, (Below.heap_setCell _ _ _ _ (show w.heap.size + 1 ≠ W1.heap.size by omega)).trans hQ8.2.1, hS9⟩
                refine wpAnyH_ready (rs := [8]) (by kernel_rfl) (by simp) (AllReadyH.cons rfl (fun K7 hK7 => ?_) AllReadyH.nil)
                refine step_set1 (by rfl) _ _ (by rfl) (by rfl) (B := W5.heap.size) (u := a) (by rfl) (by rfl) ha1 hA ?_
                refine hK7.out _ _ hQ8 (fun hSS6 => ?_)
                clear hQ8 hS8 hS9 hK7
                generalize World.setCell W6 ⟨W5.heap.size, 0, none⟩ a = WB at *
                refine wpAnyH_ready (rs := [9]) (by kernel_rfl) (by simp) (AllReadyH.cons rfl (fun K8 hK8 => ?_) AllReadyH.nil)
                refine step_set1 (by rfl) _ _ (by rfl) (by rfl) (B := W1.heap.size) (u := b) (by rfl) (by rfl) hb1 hB6 ?_
                refine hK8.out _ _ hQ9 (fun hSS7 => ?_)
                clear hQ9 hK8
                generalize World.setCell WB ⟨W1.heap.size, 0, none⟩ b = WC at *
                refine wpAnyH_done (by kernel_rfl) ?_ _
                go_wp2_with fail
                go_meet
                exact hTwo
              · refine step_plain (by rfl) ?_
                simp only [List.getElem_toArray, List.getElem_cons_zero, List.getElem_cons_succ]
                go_simp
                have hbn : Below W4.heap.size W4 (W4.alloc (.cells #[.nilIface] 30)) := (Below.refl _ _).alloc (Nat.le_refl _) _
                have hA := heap_alloc_new W4 (.cells #[.nilIface] 30)
                replace rX := rX.stays hbn
                replace hY := hY.stays hbn
                replace hB := (hbn.block _ (Array.getElem?_eq_some_iff.1 hB).1).trans hB
                have hz5 : W4.heap.size < (W4.alloc (.cells #[.nilIface] 30)).heap.size := by simp
                refine hK5.out _ _ (hSS.below hbn) (fun hSS => ?_)
                clear hbn hK5
                generalize W4.alloc (.cells #[.nilIface] 30) = W5 at *
                refine wpAnyH_ready (rs := [5]) (by kernel_rfl) (by simp) (AllReadyH.cons rfl (fun K6 hK6 => ?_) AllReadyH.nil)
                refine step_plain (by rfl) ?_
                simp only [List.getElem_toArray, List.getElem_cons_zero, List.getElem_cons_succ]
                go_simp
                go_at_call 11
                refine (T2.out _ _ _ hY).mono ?_
                rintro e W6 ⟨b, rfl, hb1, rY, hbn⟩
                replace rX := rX.stays hbn
                replace hY := hY.stays hbn
                replace hA := (hbn.block _ (Array.getElem?_eq_some_iff.1 hA).1).trans hA
                replace hB := (hbn.block _ (Array.getElem?_eq_some_iff.1 hB).1).trans hB
                replace rY := rY.mono (ok' := fun b => W5.heap.size ≤ b ∧ b < W6.heap.size) (fun _ h1 h2 => ⟨h1, h2⟩)
                clear hY
                have hz6 := hbn.size
                go_simp
                refine hK6.out _ _ (hSS.below hbn) (fun hSS => ?_)
                clear hbn hK6
                have hTwo := TwoR.mk (A := W4.heap.size) (B := W1.heap.size) hSS.2.2 hA hB rX rY (by omega) (by omega) (by omega) (fun b hb => by omega) (fun b hb => by omega)
                have hS8 : Below w.heap.size w (World.setCell W6 ⟨W4.heap.size, 0, none⟩ a) := hSS.2.2.setCell (p := ⟨W4.heap.size, 0, none⟩) (show _ ≤ W4.heap.size by omega) a
                have hS9 := hS8.setCell (p := ⟨W1.heap.size, 0, none⟩) (show _ ≤ W1.heap.size by omega) b
                have hB6 := (Below.heap_setCell W6 ⟨W4.heap.size, 0, none⟩ a (W1.heap.size) (show W1.heap.size ≠ W4.heap.size by omega)).trans hB
                have hQ8 : BW w (World.setCell W6 ⟨W4.heap.size, 0, none⟩ a) v p u q := ⟨(Below.heap_setCell _ _ _ _ (show w.heap.size ≠ W4.heap.size by omega)).trans hSS.1, (Below.heap_setCell _ _ _ _ (show w.heap.size + 1 ≠ W4.heap.size by omega)).trans hSS.2.1, hS8⟩
                have hQ9 : BW w (World.setCell (World.setCell W6 ⟨W4.heap.size, 0, none⟩ a) ⟨W1.heap.size, 0, none⟩ b) v p u q := ⟨(Below.heap_setCell _ _ _ _ (show w.heap.size ≠ W1.heap.size by omega)).trans hQ8.1, (Below.heap_setCell _ _ _ _ (show w.heap.size + 1 ≠ W1.heap.size by omega)).trans hQ8.2.1, hS9⟩
                refine wpAnyH_ready (rs := [8]) (by kernel_rfl) (by simp) (AllReadyH.cons rfl (fun K7 hK7 => ?_) AllReadyH.nil)
                refine step_set1 (by rfl) _ _ (by rfl) (by rfl) (B := W4.heap.size) (u := a) (by rfl) (by rfl) ha1 hA ?_
                refine hK7.out _ _ hQ8 (fun hSS6 => ?_)
                clear hQ8 hS8 hS9 hK7
                generalize World.setCell W6 ⟨W4.heap.size, 0, none⟩ a = WB at *
                refine wpAnyH_ready (rs := [9]) (by kernel_rfl) (by simp) (AllReadyH.cons rfl (fun K8 hK8 => ?_) AllReadyH.nil)
                refine step_set1 (by rfl) _ _ (by rfl) (by rfl) (B := W1.heap.size) (u := b) (by rfl) (by rfl) hb1 hB6 ?_
                refine hK8.out _ _ hQ9 (fun hSS7 => ?_)
                clear hQ9 hK8
                generalize World.setCell WB ⟨W1.heap.size, 0, none⟩ b = WC at *
                refine wpAnyH_done (by kernel_rfl) ?_ _
                go_wp2_with fail
                go_meet
                exact hTwo
            · refine step_plain (by rfl) ?_
              simp only [List.getElem_toArray, List.getElem_cons_zero, List.getElem_cons_succ]
              go_simp
              have hbn : Below W3.heap.size W3 (W3.alloc (.cells #[.nilIface] 30)) := (Below.refl _ _).alloc (Nat.le_refl _) _
              have hA := heap_alloc_new W3 (.cells #[.nilIface] 30)
              replace rX := rX.stays hbn
              replace hB := (hbn.block _ (Array.getElem?_eq_some_iff.1 hB).1).trans hB
              have hz4 : W3.heap.size < (W3.alloc (.cells #[.nilIface] 30)).heap.size := by simp
              refine hK4.out _ _ (hSS.below hbn) (fun hSS => ?_)
              clear hbn hK4
              generalize W3.alloc (.cells #[.nilIface] 30) = W4 at *
              refine wpAnyH_ready (rs := [4]) (by kernel_rfl) (by simp) (AllReadyH.cons rfl (fun K5 hK5 => ?_) AllReadyH.nil)
              refine step_plain (by rfl) ?_
              simp only [List.getElem_toArray, List.getElem_cons_zero, List.getElem_cons_succ]
              go_simp
              go_at_call 10
              refine (C2.out _ hSS.2.2).mono ?_
              rintro e W5 ⟨yp, rfl, hY, hbn⟩
              replace rX := rX.stays hbn
              replace hA := (hbn.block _ (Array.getElem?_eq_some_iff.1 hA).1).trans hA
              replace hB := (hbn.block _ (Array.getElem?_eq_some_iff.1 hB).1).trans hB
              have hz5 := hbn.size
              go_simp
              refine hK5.out _ _ (hSS.below hbn) (fun hSS => ?_)
              clear hbn hK5
              refine wpAnyH_ready (rs := [5]) (by kernel_rfl) (by simp) (AllReadyH.cons rfl (fun K6 hK6 => ?_) AllReadyH.nil)
              refine step_plain (by rfl) ?_
              simp only [List.getElem_toArray, List.getElem_cons_zero, List.getElem_cons_succ]
              go_simp
              go_at_call 11
              refine (T2.out _ _ _ hY).mono ?_
              rintro e W6 ⟨b, rfl, hb1, rY, hbn⟩
              replace rX := rX.stays hbn
              replace hY := hY.stays hbn
              replace hA := (hbn.block _ (Array.getElem?_eq_some_iff.1 hA).1).trans hA
              replace hB := (hbn.block _ (Array.getElem?_eq_some_iff.1 hB).1).trans hB
              replace rY := rY.mono (ok' := fun b => W5.heap.size ≤ b ∧ b < W6.heap.size) (fun _ h1 h2 => ⟨h1, h2⟩)
              clear hY
              have hz6 := hbn.size
              go_simp
              refine hK6.out _ _ (hSS.below hbn) (fun hSS => ?_)
              clear hbn hK6
              have hTwo := TwoR.mk (A := W3.heap.size) (B := W1.heap.size) hSS.2.2 hA hB rX rY (by omega) (by omega) (by omega) (fun b hb => by omega) (fun b hb => by omega)
              have hS8 : Below w.heap.size w (World.setCell W6 ⟨W3.heap.size, 0, none⟩ a) := hSS.2.2.setCell (p := ⟨W3.heap.size, 0, none⟩) (show _ ≤ W3.heap.size by omega) a
              have hS9 := hS8.setCell (p := ⟨W1.heap.size, 0, none⟩) (show _ ≤ W1.heap.size by omega) b
              have hB6 := (Below.heap_setCell W6 ⟨W3.heap.size, 0, none⟩ a (W1.heap.size) (show W1.heap.size ≠ W3.heap.size by omega)).trans hB
              have hQ8 : BW w (World.setCell W6 ⟨W3.heap.size, 0, none⟩ a) v p u q := ⟨(Below.heap_setCell _ _ _ _ (show w.heap.size ≠ W3.heap.size by omega)).trans hSS.1, (Below.heap_setCell _ _ _ _ (show w.heap.size + 1 ≠ W3.heap.size by omega)).trans hSS.2.1, hS8⟩
              have hQ9 : BW w (World.setCell (World.setCell W6 ⟨W3.heap.size, 0, none⟩ a) ⟨W1.heap.size, 0, none⟩ b) v p u q := ⟨(Below.heap_setCell _ _ _ _ (show w.heap.size ≠ W1.heap.size by omega)).trans hQ8.1, (Below.heap_setCell _ _ _ _ (show w.heap.size + 1 ≠ W1.heap.size by omega)).trans hQ8.2.1, hS9⟩
              refine wpAnyH_ready (rs := [8]) (by kernel_rfl) (by simp) (AllReadyH.cons rfl (fun K7 hK7 => ?_) AllReadyH.nil)
              refine step_set1 (by rfl) _ _ (by rfl) (by rfl) (B := W3.heap.size) (u := a) (by rfl) (by rfl) ha1 hA ?_
              refine hK7.out _ _ hQ8 (fun hSS6 => ?_)
              clear hQ8 hS8 hS9 hK7
              generalize World.setCell W6 ⟨W3.heap.size, 0, none⟩ a = WB at *
              refine wpAnyH_ready (rs := [9]) (by kernel_rfl) (by simp) (AllReadyH.cons rfl (fun K8 hK8 => ?_) AllReadyH.nil)
              refine step_set1 (by rfl) _ _ (by rfl) (by rfl) (B := W1.heap.size) (u := b) (by rfl) (by rfl) hb1 hB6 ?_
              refine hK8.out _ _ hQ9 (fun hSS7 => ?_)
              clear hQ9 hK8
              generalize World.setCell WB ⟨W1.heap.size, 0, none⟩ b = WC at *
              refine wpAnyH_done (by kernel_rfl) ?_ _
              go_wp2_with fail
              go_meet
              exact hTwo
          · refine step_plain (by rfl) ?_
            simp only [List.getElem_toArray, List.getElem_cons_zero, List.getElem_cons_succ]
            go_simp
            have hbn : Below W2.heap.size W2 (W2.alloc (.cells #[.nilIface] 30)) := (Below.refl _ _).alloc (Nat.le_refl _) _
            have hA := heap_alloc_new W2 (.cells #[.nilIface] 30)
            replace hX := hX.stays hbn
            replace hB := (hbn.block _ (Array.getElem?_eq_some_iff.1 hB).1).trans hB
            have hz3 : W2.heap.size < (W2.alloc (.cells #[.nilIface] 30)).heap.size := by simp
            refine hK3.out _ _ (hSS.below hbn) (fun hSS => ?_)
            clear hbn hK3
            generalize W2.alloc (.cells #[.nilIface] 30) = W3 at *
            refine wpAnyH_ready (rs := [2]) (by kernel_rfl) (by simp) (AllReadyH.cons rfl (fun K4 hK4 => ?_) AllReadyH.nil)
            refine step_plain (by rfl) ?_
            simp only [List.getElem_toArray, List.getElem_cons_zero, List.getElem_cons_succ]
            go_simp
            go_at_call 11
            refine (T1.out _ _ _ hX).mono ?_
            rintro e W4 ⟨a, rfl, ha1, rX, hbn⟩
            replace hX := hX.stays hbn
            replace hA := (hbn.block _ (Array.getElem?_eq_some_iff.1 hA).1).trans hA
            replace hB := (hbn.block _ (Array.getElem?_eq_some_iff.1 hB).1).trans hB
            replace rX := rX.mono (ok' := fun b => W3.heap.size ≤ b ∧ b < W4.heap.size) (fun _ h1 h2 => ⟨h1, h2⟩)
            clear hX
            have hz4 := hbn.size
            go_simp
            refine hK4.out _ _ (hSS.below hbn) (fun hSS => ?_)
            clear hbn hK4
            refine wpAnyH_ready (rs := [4]) (by kernel_rfl) (by simp) (AllReadyH.cons rfl (fun K5 hK5 => ?_) AllReadyH.nil)
            refine step_plain (by rfl) ?_
            simp only [List.getElem_toArray, List.getElem_cons_zero, List.getElem_cons_succ]
            go_simp
            go_at_call 10
            refine (C2.out _ hSS.2.2).mono ?_
            rintro e W5 ⟨yp, rfl, hY, hbn⟩
            replace rX := rX.stays hbn
            replace hA := (hbn.block _ (Array.getElem?_eq_some_iff.1 hA).1).trans hA
            replace hB := (hbn.block _ (Array.getElem?_eq_some_iff.1 hB).1).trans hB
            have hz5 := hbn.size
            go_simp
            refine hK5.out _ _ (hSS.below hbn) (fun hSS => ?_)
            clear hbn hK5
            refine wpAnyH_ready (rs := [5]) (by kernel_rfl) (by simp) (AllReadyH.cons rfl (fun K6 hK6 => ?_) AllReadyH.nil)
            refine step_plain (by rfl) ?_
            simp only [List.getElem_toArray, List.getElem_cons_zero, List.getElem_cons_succ]
            go_simp
            go_at_call 11
            refine (T2.out _ _ _ hY).mono ?_
            rintro e W6 ⟨b, rfl, hb1, rY, hbn⟩
            replace rX := rX.stays hbn
            replace hY := hY.stays hbn
            replace hA := (hbn.block _ (Array.getElem?_eq_some_iff.1 hA).1).trans hA
            replace hB := (hbn.block _ (Array.getElem?_eq_some_iff.1 hB).1).trans hB
            replace rY := rY.mono (ok' := fun b => W5.heap.size ≤ b ∧ b < W6.heap.size) (fun _ h1 h2 => ⟨h1, h2⟩)
            clear hY
            have hz6 := hbn.size
            go_simp
            refine hK6.out _ _ (hSS.below hbn) (fun hSS => ?_)
            clear hbn hK6
            have hTwo := TwoR.mk (A := W2.heap.size) (B := W1.heap.size) hSS.2.2 hA hB rX rY (by omega) (by omega) (by omega) (fun b hb => by omega) (fun b hb => by omega)
            have hS8 : Below w.heap.size w (World.setCell W6 ⟨W2.heap.size, 0, none⟩ a) := hSS.2.2.setCell (p := ⟨W2.heap.size, 0, none⟩) (show _ ≤ W2.heap.size by omega) a
            have hS9 := hS8.setCell (p := ⟨W1.heap.size, 0, none⟩) (show _ ≤ W1.heap.size by omega) b
            have hB6 := (Below.heap_setCell W6 ⟨W2.heap.size, 0, none⟩ a (W1.heap.size) (show W1.heap.size ≠ W2.heap.size by omega)).trans hB
            have hQ8 : BW w (World.setCell W6 ⟨W2.heap.size, 0, none⟩ a) v p u q := ⟨(Below.heap_setCell _ _ _ _ (show w.heap.size ≠ W2.heap.size by omega)).trans hSS.1, (Below.heap_setCell _ _ _ _ (show w.heap.size + 1 ≠ W2.heap.size by omega)).trans hSS.2.1, hS8⟩
            have hQ9 : BW w (World.setCell (World.setCell W6 ⟨W2.heap.size, 0, none⟩ a) ⟨W1.heap.size, 0, none⟩ b) v p u q := ⟨(Below.heap_setCell _ _ _ _ (show w.heap.size ≠ W1.heap.size by omega)).trans hQ8.1, (Below.heap_setCell _ _ _ _ (show w.heap.size + 1 ≠ W1.heap.size by omega)).trans hQ8.2.1, hS9⟩
            refine wpAnyH_ready (rs := [8]) (by kernel_rfl) (by simp) (AllReadyH.cons rfl (fun K7 hK7 => ?_) AllReadyH.nil)
            refine step_set1 (by rfl) _ _ (by rfl) (by rfl) (B := W2.heap.size) (u := a) (by rfl) (by rfl) ha1 hA ?_
            refine hK7.out _ _ hQ8 (fun hSS6 => ?_)
            clear hQ8 hS8 hS9 hK7
            generalize World.setCell W6 ⟨W2.heap.size, 0, none⟩ a = WB at *
            refine wpAnyH_ready (rs := [9]) (by kernel_rfl) (by simp) (AllReadyH.cons rfl (fun K8 hK8 => ?_) AllReadyH.nil)
            refine step_set1 (by rfl) _ _ (by rfl) (by rfl) (B := W1.heap.size) (u := b) (by rfl) (by rfl) hb1 hB6 ?_
            refine hK8.out _ _ hQ9 (fun hSS7 => ?_)
            clear hQ9 hK8
            generalize World.setCell WB ⟨W1.heap.size, 0, none⟩ b = WC at *
            refine wpAnyH_done (by kernel_rfl) ?_ _
            go_wp2_with fail
            go_meet
            exact hTwo
      · refine step_plain (by rfl) ?_
        simp only [List.getElem_toArray, List.getElem_cons_zero, List.getElem_cons_succ]
        go_simp
        have hbn : Below W0.heap.size W0 (W0.alloc (.cells #[.nilIface] 30)) := (Below.refl _ _).alloc (Nat.le_refl _) _
        have hA := heap_alloc_new W0 (.cells #[.nilIface] 30)
        have hz1 : W0.heap.size < (W0.alloc (.cells #[.nilIface] 30)).heap.size := by simp
        refine hK1.out _ _ (hSS.below hbn) (fun hSS => ?_)
        clear hbn hK1
        generalize W0.alloc (.cells #[.nilIface] 30) = W1 at *
        refine wpAnyH_ready (rs := [1, 7]) (by kernel_rfl) (by simp) (AllReadyH.cons rfl (fun K2 hK2 => ?_) (AllReadyH.cons rfl (fun K2 hK2 => ?_) AllReadyH.nil))
        · refine step_plain (by rfl) ?_
          simp only [List.getElem_toArray, List.getElem_cons_zero, List.getElem_cons_succ]
          go_simp
          go_at_call 10
          refine (C1.out _ hSS.2.2).mono ?_
          rintro e W2 ⟨xp, rfl, hX, hbn⟩
          replace hA := (hbn.block _ (Array.getElem?_eq_some_iff.1 hA).1).trans hA
          have hz2 := hbn.size
          go_simp
          refine hK2.out _ _ (hSS.below hbn) (fun hSS => ?_)
          clear hbn hK2
          refine wpAnyH_ready (rs := [2, 7]) (by kernel_rfl) (by simp) (AllReadyH.cons rfl (fun K3 hK3 => ?_) (AllReadyH.cons rfl (fun K3 hK3 => ?_) AllReadyH.nil))
          · refine step_plain (by rfl) ?_
            simp only [List.getElem_toArray, List.getElem_cons_zero, List.getElem_cons_succ]
            go_simp
            go_at_call 11
            refine (T1.out _ _ _ hX).mono ?_
            rintro e W3 ⟨a, rfl, ha1, rX, hbn⟩
            replace hX := hX.stays hbn
            replace hA := (hbn.block _ (Array.getElem?_eq_some_iff.1 hA).1).trans hA
            replace rX := rX.mono (ok' := fun b => W2.heap.size ≤ b ∧ b < W3.heap.size) (fun _ h1 h2 => ⟨h1, h2⟩)
            clear hX
            have hz3 := hbn.size
            go_simp
            refine hK3.out _ _ (hSS.below hbn) (fun hSS => ?_)
            clear hbn hK3
            refine wpAnyH_ready (rs := [4, 7]) (by kernel_rfl) (by simp) (AllReadyH.cons rfl (fun K4 hK4 => ?_) (AllReadyH.cons rfl (fun K4 hK4 => ?_) AllReadyH.nil))
            · refine step_plain (by rfl) ?_
              simp only [List.getElem_toArray, List.getElem_cons_zero, List.getElem_cons_succ]
              go_simp
              go_at_call 10
              refine (C2.out _ hSS.2.2).mono ?_
              rintro e W4 ⟨yp, rfl, hY, hbn⟩
              replace rX := rX.stays hbn
              replace hA := (hbn.block _ (Array.getElem?_eq_some_iff.1 hA).1).trans hA
              have hz4 := hbn.size
              go_simp
              refine hK4.out _ _ (hSS.below hbn) (fun hSS => ?_)
              clear hbn hK4
              refine wpAnyH_ready (rs := [5, 7]) (by kernel_rfl) (by simp) (AllReadyH.cons rfl (fun K5 hK5 => ?_) (AllReadyH.cons rfl (fun K5 hK5 => ?_) AllReadyH.nil))
              · refine step_plain (by rfl) ?_
                simp only [List.getElem_toArray, List.getElem_cons_zero, List.getElem_cons_succ]
                go_simp
                go_at_call 11
                refine (T2.out _ _ _ hY).mono ?_
                rintro e W5 ⟨b, rfl, hb1, rY, hbn⟩
                replace rX := rX.stays hbn
                replace hY := hY.stays hbn
                replace hA := (hbn.block _ (Array.getElem?_eq_some_iff.1 hA).1).trans hA
                replace rY := rY.mono (ok' := fun b => W4.heap.size ≤ b ∧ b < W5.heap.size) (fun _ h1 h2 => ⟨h1, h2⟩)
                clear hY
                have hz5 := hbn.size
                go_simp
                refine hK5.out _ _ (hSS.below hbn) (fun hSS => ?_)
                clear hbn hK5
                refine wpAnyH_ready (rs := [7]) (by kernel_rfl) (by simp) (AllReadyH.cons rfl (fun K6 hK6 => ?_) AllReadyH.nil)
                refine step_plain (by rfl) ?_
                simp only [List.getElem_toArray, List.getElem_cons_zero, List.getElem_cons_succ]
                go_simp
                have hbn : Below W5.heap.size W5 (W5.alloc (.cells #[.nilIface] 30)) := (Below.refl _ _).alloc (Nat.le_refl _) _
                have hB := heap_alloc_new W5 (.cells #[.nilIface] 30)
                replace rX := rX.stays hbn
                replace rY := rY.stays hbn
                replace hA := (hbn.block _ (Array.getElem?_eq_some_iff.1 hA).1).trans hA
                have hz6 : W5.heap.size < (W5.alloc (.cells #[.nilIface] 30)).heap.size := by simp
                refine hK6.out _ _ (hSS.below hbn) (fun hSS => ?_)
                clear hbn hK6
                generalize W5.alloc (.cells #[.nilIface] 30) = W6 at *
                have hTwo := TwoR.mk (A := W0.heap.size) (B := W5.heap.size) hSS.2.2 hA hB rX rY (by omega) (by omega) (by omega) (fun b hb => by omega) (fun b hb => by omega)
                have hS8 : Below w.heap.size w (World.setCell W6 ⟨W0.heap.size, 0, none⟩ a) := hSS.2.2.setCell (p := ⟨W0.heap.size, 0, none⟩) (show _ ≤ W0.heap.size by omega) a
                have hS9 := hS8.setCell (p := ⟨W5.heap.size, 0, none⟩) (show _ ≤ W5.heap.size by omega) b
                have hB6 := (Below.heap_setCell W6 ⟨W0.heap.size, 0, none⟩ a (W5.heap.size) (show W5.heap.size ≠ W0.heap.size by omega)).trans hB
                have hQ8 : BW w (World.setCell W6 ⟨W0.heap.size, 0, none⟩ a) v p u q := ⟨(Below.heap_setCell _ _ _ _ (show w.heap.size ≠ W0.heap.size by omega)).trans hSS.1, (Below.heap_setCell _ _ _ _ (show w.heap.size + 1 ≠ W0.heap.size by omega)).trans hSS.2.1, hS8⟩
                have hQ9 : BW w (World.setCell (World.setCell W6 ⟨W0.heap.size, 0, none⟩ a) ⟨W5.heap.size, 0, none⟩ b) v p u q := ⟨(Below.heap_setCell _ _ _ _ (show w.heap.size ≠ W5.heap.size by omega)).trans hQ8.1, (Below.heap_setCell _ _ _ _ (show w.heap.size + 1 ≠ W5.heap.size by omega)).trans hQ8.2.1, hS9⟩
                refine wpAnyH_ready (rs := [8]) (by kernel_rfl) (by simp) (AllReadyH.cons rfl (fun K7 hK7 => ?_) AllReadyH.nil)
                refine step_set1 (by rfl) _ _ (by rfl) (by rfl) (B := W0.heap.size) (u := a) (by rfl) (by rfl) ha1 hA ?_
                refine hK7.out _ _ hQ8 (fun hSS6 => ?_)
                clear hQ8 hS8 hS9 hK7
                generalize World.setCell W6 ⟨W0.heap.size, 0, none⟩ a = WB at *
                refine wpAnyH_ready (rs := [9]) (by kernel_rfl) (by simp) (AllReadyH.cons rfl (fun K8 hK8 => ?_) AllReadyH.nil)
                refine step_set1 (by rfl) _ _ (by rfl) (by rfl) (B := W5.heap.size) (u := b) (by rfl) (by rfl) hb1 hB6 ?_
                refine hK8.out _ _ hQ9 (fun hSS7 => ?_)
                clear hQ9 hK8
                generalize World.setCell WB ⟨W5.heap.size, 0, none⟩ b = WC at *
                refine wpAnyH_done (by kernel_rfl) ?_ _
                go_wp2_with fail
                go_meet
                exact hTwo
              · refine step_plain (by rfl) ?_
                simp only [List.getElem_toArray, List.getElem_cons_zero, List.getElem_cons_succ]
                go_simp
                have hbn : Below W4.heap.size W4 (W4.alloc (.cells #[.nilIface] 30)) := (Below.refl _ _).alloc (Nat.le_refl _) _
                have hB := heap_alloc_new W4 (.cells #[.nilIface] 30)
                replace rX := rX.stays hbn
                replace hY := hY.stays hbn
                replace hA := (hbn.block _ (Array.getElem?_eq_some_iff.1 hA).1).trans hA
                have hz5 : W4.heap.size < (W4.alloc (.cells #[.nilIface] 30)).heap.size := by simp
                refine hK5.out _ _ (hSS.below hbn) (fun hSS => ?_)
                clear hbn hK5
                generalize W4.alloc (.cells #[.nilIface] 30) = W5 at *
                refine wpAnyH_ready (rs := [5]) (by kernel_rfl) (by simp) (AllReadyH.cons rfl (fun K6 hK6 => ?_) AllReadyH.nil)
                refine step_plain (by rfl) ?_
                simp only [List.getElem_toArray, List.getElem_cons_zero, List.getElem_cons_succ]
                go_simp
                go_at_call 11
                refine (T2.out _ _ _ hY).mono ?_
                rintro e W6 ⟨b, rfl, hb1, rY, hbn⟩
                replace rX := rX.stays hbn
                replace hY := hY.stays hbn
                replace hA := (hbn.block _ (Array.getElem?_eq_some_iff.1 hA).1).trans hA
                replace hB := (hbn.block _ (Array.getElem?_eq_some_iff.1 hB).1).trans hB
                replace rY := rY.mono (ok' := fun b => W5.heap.size ≤ b ∧ b < W6.heap.size) (fun _ h1 h2 => ⟨h1, h2⟩)
                clear hY
                have hz6 := hbn.size
                go_simp
                refine hK6.out _ _ (hSS.below hbn) (fun hSS => ?_)
                clear hbn hK6
                have hTwo := TwoR.mk (A := W0.heap.size) (B := W4.heap.size) hSS.2.2 hA hB rX rY (by omega) (by omega) (by omega) (fun b hb => by omega) (fun b hb => by omega)
                have hS8 : Below w.heap.size w (World.setCell W6 ⟨W0.heap.size, 0, none⟩ a) := hSS.2.2.setCell (p := ⟨W0.heap.size, 0, none⟩) (show _ ≤ W0.heap.size by omega) a
                have hS9 := hS8.setCell (p := ⟨W4.heap.size, 0, none⟩) (show _ ≤ W4.heap.size by omega) b
                have hB6 := (Below.heap_setCell W6 ⟨W0.heap.size, 0, none⟩ a (W4.heap.size) (show W4.heap.size ≠ W0.heap.size by omega)).trans hB
                have hQ8 : BW w (World.setCell W6 ⟨W0.heap.size, 0, none⟩ a) v p u q := ⟨(Below.heap_setCell _ _ _ _ (show w.heap.size ≠ W0.heap.size by omega)).trans hSS.1, (Below.heap_setCell _ _ _ _ (show w.heap.size + 1 ≠ W0.heap.size by omega)).trans hSS.2.1, hS8⟩
                have hQ9 : BW w (World.setCell (World.setCell W6 ⟨W0.heap.size, 0, none⟩ a) ⟨W4.heap.size, 0, none⟩ b) v p u q := ⟨(Below.heap_setCell _ _ _ _ (show w.heap.size ≠ W4.heap.size by omega)).trans hQ8.1, (Below.heap_setCell _ _ _ _ (show w.heap.size + 1 ≠ W4.heap.size by omega)).trans hQ8.2.1, hS9⟩
                refine wpAnyH_ready (rs := [8]) (by kernel_rfl) (by simp) (AllReadyH.cons rfl (fun K7 hK7 => ?_) AllReadyH.nil)
                refine step_set1 (by rfl) _ _ (by rfl) (by rfl) (B := W0.heap.size) (u := a) (by rfl) (by rfl) ha1 hA ?_
                refine hK7.out _ _ hQ8 (fun hSS6 => ?_)
                clear hQ8 hS8 hS9 hK7
                generalize World.setCell W6 ⟨W0.heap.size, 0, none⟩ a = WB at *
                refine wpAnyH_ready (rs := [9]) (by kernel_rfl) (by simp) (AllReadyH.cons rfl (fun K8 hK8 => ?_) AllReadyH.nil)
                refine step_set1 (by rfl) _ _ (by rfl) (by rfl) (B := W4.heap.size) (u := b) (by rfl) (by rfl) hb1 hB6 ?_
                refine hK8.out _ _ hQ9 (fun hSS7 => ?_)
                clear hQ9 hK8
                generalize World.setCell WB ⟨W4.heap.size, 0, none⟩ b = WC at *
                refine wpAnyH_done (by kernel_rfl) ?_ _
                go_wp2_with fail
                go_meet
                exact hTwo
            · refine step_plain (by rfl) ?_
              simp only [List.getElem_toArray, List.getElem_cons_zero, List.getElem_cons_succ]
              go_simp
              have hbn : Below W3.heap.size W3 (W3.alloc (.cells #[.nilIface] 30)) := (Below.refl _ _).alloc (Nat.le_refl _) _
              have hB := heap_alloc_new W3 (.cells #[.nilIface] 30)
              replace rX := rX.stays hbn
              replace hA := (hbn.block _ (Array.getElem?_eq_some_iff.1 hA).1).trans hA
              have hz4 : W3.heap.size < (W3.alloc (.cells #[.nilIface] 30)).heap.size := by simp
              refine hK4.out _ _ (hSS.below hbn) (fun hSS => ?_)
              clear hbn hK4
              generalize W3.alloc (.cells #[.nilIface] 30) = W4 at *
              refine wpAnyH_ready (rs := [4]) (by kernel_rfl) (by simp) (AllReadyH.cons rfl (fun K5 hK5 => ?_) AllReadyH.nil)
              refine step_plain (by rfl) ?_
              simp only [List.getElem_toArray, List.getElem_cons_zero, List.getElem_cons_succ]
              go_simp
              go_at_call 10
              refine (C2.out _ hSS.2.2).mono ?_
              rintro e W5 ⟨yp, rfl, hY, hbn⟩
              replace rX := rX.stays hbn
              replace hA := (hbn.block _ (Array.getElem?_eq_some_iff.1 hA).1).trans hA
              replace hB := (hbn.block _ (Array.getElem?_eq_some_iff.1 hB).1).trans hB
              have hz5 := hbn.size
              go_simp
              refine hK5.out _ _ (hSS.below hbn) (fun hSS => ?_)
              clear hbn hK5
              refine wpAnyH_ready (rs := [5]) (by kernel_rfl) (by simp) (AllReadyH.cons rfl (fun K6 hK6 => ?_) AllReadyH.nil)
              refine step_plain (by rfl) ?_
              simp only [List.getElem_toArray, List.getElem_cons_zero, List.getElem_cons_succ]
              go_simp
              go_at_call 11
              refine (T2.out _ _ _ hY).mono ?_
              rintro e W6 ⟨b, rfl, hb1, rY, hbn⟩
              replace rX := rX.stays hbn
              replace hY := hY.stays hbn
              replace hA := (hbn.block _ (Array.getElem?_eq_some_iff.1 hA).1).trans hA
              replace hB := (hbn.block _ (Array.getElem?_eq_some_iff.1 hB).1).trans hB
              replace rY := rY.mono (ok' := fun b => W5.heap.size ≤ b ∧ b < W6.heap.size) (fun _ h1 h2 => ⟨h1, h2⟩)
              clear hY
              have hz6 := hbn.size
              go_simp
              refine hK6.out _ _ (hSS.below hbn) (fun hSS => ?_)
              clear hbn hK6
              have hTwo := TwoR.mk (A := W0.heap.size) (B := W3.heap.size) hSS.2.2 hA hB rX rY (by omega) (by omega) (by omega) (fun b hb => by omega) (fun b hb => by omega)
              have hS8 : Below w.heap.size w (World.setCell W6 ⟨W0.heap.size, 0, none⟩ a) := hSS.2.2.setCell (p := ⟨W0.heap.size, 0, none⟩) (show _ ≤ W0.heap.size by omega) a
              have hS9 := hS8.setCell (p := ⟨W3.heap.size, 0, none⟩) (show _ ≤ W3.heap.size by omega) b
              have hB6 := (Below.heap_setCell W6 ⟨W0.heap.size, 0, none⟩ a (W3.heap.size) (show W3.heap.size ≠ W0.heap.size by omega)).trans hB
              have hQ8 : BW w (World.setCell W6 ⟨W0.heap.size, 0, none⟩ a) v p u q := ⟨(Below.heap_setCell _ _ _ _ (show w.heap.size ≠ W0.heap.size by omega)).trans hSS.1, (Below.heap_setCell _ _ _ _ (show w.heap.size + 1 ≠ W0.heap.size by omega)).trans hSS.2.1, hS8⟩
              have hQ9 : BW w (World.setCell (World.setCell W6 ⟨W0.heap.size, 0, none⟩ a) ⟨W3.heap.size, 0, none⟩ b) v p u q := ⟨(Below.heap_setCell _ _ _ _ (show w.heap.size ≠ W3.heap.size by omega)).trans hQ8.1, (Below.heap_setCell _ _ _ _ (show w.heap.size + 1 ≠ W3.heap.size by omega)).trans hQ8.2.1, hS9⟩
              refine wpAnyH_ready (rs := [8]) (by kernel_rfl) (by simp) (AllReadyH.cons rfl (fun K7 hK7 => ?_) AllReadyH.nil)
              refine step_set1 (by rfl) _ _ (by rfl) (by rfl) (B := W0.heap.size) (u := a) (by rfl) (by rfl) ha1 hA ?_
              refine hK7.out _ _ hQ8 (fun hSS6 => ?_)
              clear hQ8 hS8 hS9 hK7
              generalize World.setCell W6 ⟨W0.heap.size, 0, none⟩ a = WB at *
              refine wpAnyH_ready (rs := [9]) (by kernel_rfl) (by simp) (AllReadyH.cons rfl (fun K8 hK8 => ?_) AllReadyH.nil)
              refine step_set1 (by rfl) _ _ (by rfl) (by rfl) (B := W3.heap.size) (u := b) (by rfl) (by rfl) hb1 hB6 ?_
              refine hK8.out _ _ hQ9 (fun hSS7 => ?_)
              clear hQ9 hK8
              generalize World.setCell WB ⟨W3.heap.size, 0, none⟩ b = WC at *
              refine wpAnyH_done (by kernel_rfl) ?_ _
              go_wp2_with fail
              go_meet
              exact hTwo
          · refine step_plain (by rfl) ?_
            simp only [List.getElem_toArray, List.getElem_cons_zero, List.getElem_cons_succ]
            go_simp
            have hbn : Below W2.heap.size W2 (W2.alloc (.cells #[.nilIface] 30)) := (Below.refl _ _).alloc (Nat.le_refl _) _
            have hB := heap_alloc_new W2 (.cells #[.nilIface] 30)
            replace hX := hX.stays hbn
            replace hA := (hbn.block _ (Array.getElem?_eq_some_iff.1 hA).1).trans hA
            have hz3 : W2.heap.size < (W2.alloc (.cells #[.nilIface] 30)).heap.size := by simp
            refine hK3.out _ _ (hSS.below hbn) (fun hSS => ?_)
            clear hbn hK3
            generalize W2.alloc (.cells #[.nilIface] 30) = W3 at *
            refine wpAnyH_ready (rs := [2]) (by kernel_rfl) (by simp) (AllReadyH.cons rfl (fun K4 hK4 => ?_) AllReadyH.nil)
            refine step_plain (by rfl) ?_
            simp only [List.getElem_toArray, List.getElem_cons_zero, List.getElem_cons_succ]
            go_simp
            go_at_call 11
            refine (T1.out _ _ _ hX).mono ?_
            rintro e W4 ⟨a, rfl, ha1, rX, hbn⟩
            replace hX := hX.stays hbn
            replace hA := (hbn.block _ (Array.getElem?_eq_some_iff.1 hA).1).trans hA
            replace hB := (hbn.block _ (Array.getElem?_eq_some_iff.1 hB).1).trans hB
            replace rX := rX.mono (ok' := fun b => W3.heap.size ≤ b ∧ b < W4.heap.size) (fun _ h1 h2 => ⟨h1, h2⟩)
            clear hX
            have hz4 := hbn.size
            go_simp
            refine hK4.out _ _ (hSS.below hbn) (fun hSS => ?_)
            clear hbn hK4
            refine wpAnyH_ready (rs := [4]) (by kernel_rfl) (by simp) (AllReadyH.cons rfl (fun K5 hK5 => ?_) AllReadyH.nil)
            refine step_plain (by rfl) ?_
            simp only [List.getElem_toArray, List.getElem_cons_zero, List.getElem_cons_succ]
            go_simp
            go_at_call 10
            refine (C2.out _ hSS.2.2).mono ?_
            rintro e W5 ⟨yp, rfl, hY, hbn⟩
            replace rX := rX.stays hbn
            replace hA := (hbn.block _ (Array.getElem?_eq_some_iff.1 hA).1).trans hA
            replace hB := (hbn.block _ (Array.getElem?_eq_some_iff.1 hB).1).trans hB
            have hz5 := hbn.size
            go_simp
            refine hK5.out _ _ (hSS.below hbn) (fun hSS => ?_)
            clear hbn hK5
            refine wpAnyH_ready (rs := [5]) (by kernel_rfl) (by simp) (AllReadyH.cons rfl (fun K6 hK6 => ?_) AllReadyH.nil)
            refine step_plain (by rfl) ?_
            simp only [List.getElem_toArray, List.getElem_cons_zero, List.getElem_cons_succ]
            go_simp
            go_at_call 11
            refine (T2.out _ _ _ hY).mono ?_
            rintro e W6 ⟨b, rfl, hb1, rY, hbn⟩
            replace rX := rX.stays hbn
            replace hY := hY.stays hbn
            replace hA := (hbn.block _ (Array.getElem?_eq_some_iff.1 hA).1).trans hA
            replace hB := (hbn.block _ (Array.getElem?_eq_some_iff.1 hB).1).trans hB
            replace rY := rY.mono (ok' := fun b => W5.heap.size ≤ b ∧ b < W6.heap.size) (fun _ h1 h2 => ⟨h1, h2⟩)
            clear hY
            have hz6 := hbn.size
            go_simp
            refine hK6.out _ _ (hSS.below hbn) (fun hSS => ?_)
            clear hbn hK6
            have hTwo := TwoR.mk (A := W0.heap.size) (B := W2.heap.size) hSS.2.2 hA hB rX rY (by omega) (by omega) (by omega) (fun b hb => by omega) (fun b hb => by omega)
            have hS8 : Below w.heap.size w (World.setCell W6 ⟨W0.heap.size, 0, none⟩ a) := hSS.2.2.setCell (p := ⟨W0.heap.size, 0, none⟩) (show _ ≤ W0.heap.size by omega) a
            have hS9 := hS8.setCell (p := ⟨W2.heap.size, 0, none⟩) (show _ ≤ W2.heap.size by omega) b
            have hB6 := (Below.heap_setCell W6 ⟨W0.heap.size, 0, none⟩ a (W2.heap.size) (show W2.heap.size ≠ W0.heap.size by omega)).trans hB
            have hQ8 : BW w (World.setCell W6 ⟨W0.heap.size, 0, none⟩ a) v p u q := ⟨(Below.heap_setCell _ _ _ _ (show w.heap.size ≠ W0.heap.size by omega)).trans hSS.1, (Below.heap_setCell _ _ _ _ (show w.heap.size + 1 ≠ W0.heap.size by omega)).trans hSS.2.1, hS8⟩
            have hQ9 : BW w (World.setCell (World.setCell W6 ⟨W0.heap.size, 0, none⟩ a) ⟨W2.heap.size, 0, none⟩ b) v p u q := ⟨(Below.heap_setCell _ _ _ _ (show w.heap.size ≠ W2.heap.size by omega)).trans hQ8.1, (Below.heap_setCell _ _ _ _ (show w.heap.size + 1 ≠ W2.heap.size by omega)).trans hQ8.2.1, hS9⟩
            refine wpAnyH_ready (rs := [8]) (by kernel_rfl) (by simp) (AllReadyH.cons rfl (fun K7 hK7 => ?_) AllReadyH.nil)
            refine step_set1 (by rfl) _ _ (by rfl) (by rfl) (B := W0.heap.size) (u := a) (by rfl) (by rfl) ha1 hA ?_
            refine hK7.out _ _ hQ8 (fun hSS6 => ?_)
            clear hQ8 hS8 hS9 hK7
            generalize World.setCell W6 ⟨W0.heap.size, 0, none⟩ a = WB at *
            refine wpAnyH_ready (rs := [9]) (by kernel_rfl) (by simp) (AllReadyH.cons rfl (fun K8 hK8 => ?_) AllReadyH.nil)
            refine step_set1 (by rfl) _ _ (by rfl) (by rfl) (B := W2.heap.size) (u := b) (by rfl) (by rfl) hb1 hB6 ?_
            refine hK8.out _ _ hQ9 (fun hSS7 => ?_)
            clear hQ9 hK8
            generalize World.setCell WB ⟨W2.heap.size, 0, none⟩ b = WC at *
            refine wpAnyH_done (by kernel_rfl) ?_ _
            go_wp2_with fail
            go_meet
            exact hTwo
        · refine step_plain (by rfl) ?_
          simp only [List.getElem_toArray, List.getElem_cons_zero, List.getElem_cons_succ]
          go_simp
          have hbn : Below W1.heap.size W1 (W1.alloc (.cells #[.nilIface] 30)) := (Below.refl _ _).alloc (Nat.le_refl _) _
          have hB := heap_alloc_new W1 (.cells #[.nilIface] 30)
          replace hA := (hbn.block _ (Array.getElem?_eq_some_iff.1 hA).1).trans hA
          have hz2 : W1.heap.size < (W1.alloc (.cells #[.nilIface] 30)).heap.size := by simp
          refine hK2.out _ _ (hSS.below hbn) (fun hSS => ?_)
          clear hbn hK2
          generalize W1.alloc (.cells #[.nilIface] 30) = W2 at *
          refine wpAnyH_ready (rs := [1]) (by kernel_rfl) (by simp) (AllReadyH.cons rfl (fun K3 hK3 => ?_) AllReadyH.nil)
          refine step_plain (by rfl) ?_
          simp only [List.getElem_toArray, List.getElem_cons_zero, List.getElem_cons_succ]
          go_simp
          go_at_call 10
          refine (C1.out _ hSS.2.2).mono ?_
          rintro e W3 ⟨xp, rfl, hX, hbn⟩
          replace hA := (hbn.block _ (Array.getElem?_eq_some_iff.1 hA).1).trans hA
          replace hB := (hbn.block _ (Array.getElem?_eq_some_iff.1 hB).1).trans hB
          have hz3 := hbn.size
          go_simp
          refine hK3.out _ _ (hSS.below hbn) (fun hSS => ?_)
          clear hbn hK3
          refine wpAnyH_ready (rs := [2]) (by kernel_rfl) (by simp) (AllReadyH.cons rfl (fun K4 hK4 => ?_) AllReadyH.nil)
          refine step_plain (by rfl) ?_
          simp only [List.getElem_toArray, List.getElem_cons_zero, List.getElem_cons_succ]
          go_simp
          go_at_call 11
          refine (T1.out _ _ _ hX).mono ?_
          rintro e W4 ⟨a, rfl, ha1, rX, hbn⟩
          replace hX := hX.stays hbn
          replace hA := (hbn.block _ (Array.getElem?_eq_some_iff.1 hA).1).trans hA
          replace hB := (hbn.block _ (Array.getElem?_eq_some_iff.1 hB).1).trans hB
          replace rX := rX.mono (ok' := fun b => W3.heap.size ≤ b ∧ b < W4.heap.size) (fun _ h1 h2 => ⟨h1, h2⟩)
          clear hX
          have hz4 := hbn.size
          go_simp
          refine hK4.out _ _ (hSS.below hbn) (fun hSS => ?_)
          clear hbn hK4
          refine wpAnyH_ready (rs := [4]) (by kernel_rfl) (by simp) (AllReadyH.cons rfl (fun K5 hK5 => ?_) AllReadyH.nil)
          refine step_plain (by rfl) ?_
          simp only [List.getElem_toArray, List.getElem_cons_zero, List.getElem_cons_succ]
          go_simp
          go_at_call 10
          refine (C2.out _ hSS.2.2).mono ?_
          rintro e W5 ⟨yp, rfl, hY, hbn⟩
          replace rX := rX.stays hbn
          replace hA := (hbn.block _ (Array.getElem?_eq_some_iff.1 hA).1).trans hA
          replace hB := (hbn.block _ (Array.getElem?_eq_some_iff.1 hB).1).trans hB
          have hz5 := hbn.size
          go_simp
          refine hK5.out _ _ (hSS.below hbn) (fun hSS => ?_)
          clear hbn hK5
          refine wpAnyH_ready (rs := [5]) (by kernel_rfl) (by simp) (AllReadyH.cons rfl (fun K6 hK6 => ?_) AllReadyH.nil)
          refine step_plain (by rfl) ?_
          simp only [List.getElem_toArray, List.getElem_cons_zero, List.getElem_cons_succ]
          go_simp
          go_at_call 11
          refine (T2.out _ _ _ hY).mono ?_
          rintro e W6 ⟨b, rfl, hb1, rY, hbn⟩
          replace rX := rX.stays hbn
          replace hY := hY.stays hbn
          replace hA := (hbn.block _ (Array.getElem?_eq_some_iff.1 hA).1).trans hA
          replace hB := (hbn.block _ (Array.getElem?_eq_some_iff.1 hB).1).trans hB
          replace rY := rY.mono (ok' := fun b => W5.heap.size ≤ b ∧ b < W6.heap.size) (fun _ h1 h2 => ⟨h1, h2⟩)
          clear hY
          have hz6 := hbn.size
          go_simp
          refine hK6.out _ _ (hSS.below hbn) (fun hSS => ?_)
          clear hbn hK6
          have hTwo := TwoR.mk (A := W0.heap.size) (B := W1.heap.size) hSS.2.2 hA hB rX rY (by omega) (by omega) (by omega) (fun b hb => by omega) (fun b hb => by omega)
          have hS8 : Below w.heap.size w (World.setCell W6 ⟨W0.heap.size, 0, none⟩ a) := hSS.2.2.setCell (p := ⟨W0.heap.size, 0, none⟩) (show _ ≤ W0.heap.size by omega) a
          have hS9 := hS8.setCell (p := ⟨W1.heap.size, 0, none⟩) (show _ ≤ W1.heap.size by omega) b
          have hB6 := (Below.heap_setCell W6 ⟨W0.heap.size, 0, none⟩ a (W1.heap.size) (show W1.heap.size ≠ W0.heap.size by omega)).trans hB
          have hQ8 : BW w (World.setCell W6 ⟨W0.heap.size, 0, none⟩ a) v p u q := ⟨(Below.heap_setCell _ _ _ _ (show w.heap.size ≠ W0.heap.size by omega)).trans hSS.1, (Below.heap_setCell _ _ _ _ (show w.heap.size + 1 ≠ W0.heap.size by omega)).trans hSS.2.1, hS8⟩
          have hQ9 : BW w (World.setCell (World.setCell W6 ⟨W0.heap.size, 0, none⟩ a) ⟨W1.heap.size, 0, none⟩ b) v p u q := ⟨(Below.heap_setCell _ _ _ _ (show w.heap.size ≠ W1.heap.size by omega)).trans hQ8.1, (Below.heap_setCell _ _ _ _ (show w.heap.size + 1 ≠ W1.heap.size by omega)).trans hQ8.2.1, hS9⟩
          refine wpAnyH_ready (rs := [8]) (by kernel_rfl) (by simp) (AllReadyH.cons rfl (fun K7 hK7 => ?_) AllReadyH.nil)
          refine step_set1 (by rfl) _ _ (by rfl) (by rfl) (B := W0.heap.size) (u := a) (by rfl) (by rfl) ha1 hA ?_
          refine hK7.out _ _ hQ8 (fun hSS6 => ?_)
          clear hQ8 hS8 hS9 hK7
          generalize World.setCell W6 ⟨W0.heap.size, 0, none⟩ a = WB at *
          refine wpAnyH_ready (rs := [9]) (by kernel_rfl) (by simp) (AllReadyH.cons rfl (fun K8 hK8 => ?_) AllReadyH.nil)
          refine step_set1 (by rfl) _ _ (by rfl) (by rfl) (B := W1.heap.size) (u := b) (by rfl) (by rfl) hb1 hB6 ?_
          refine hK8.out _ _ hQ9 (fun hSS7 => ?_)
          clear hQ9 hK8
          generalize World.setCell WB ⟨W1.heap.size, 0, none⟩ b = WC at *
          refine wpAnyH_done (by kernel_rfl) ?_ _
          go_wp2_with fail
          go_meet
          exact hTwo
      · refine step_plain (by rfl) ?_
        simp only [List.getElem_toArray, List.getElem_cons_zero, List.getElem_cons_succ]
        go_simp
        have hbn : Below W0.heap.size W0 (W0.alloc (.cells #[.nilIface] 30)) := (Below.refl _ _).alloc (Nat.le_refl _) _
        have hB := heap_alloc_new W0 (.cells #[.nilIface] 30)
        have hz1 : W0.heap.size < (W0.alloc (.cells #[.nilIface] 30)).heap.size := by simp
        refine hK1.out _ _ (hSS.below hbn) (fun hSS => ?_)
        clear hbn hK1
        generalize W0.alloc (.cells #[.nilIface] 30) = W1 at *
        refine wpAnyH_ready (rs := [1, 6]) (by kernel_rfl) (by simp) (AllReadyH.cons rfl (fun K2 hK2 => ?_) (AllReadyH.cons rfl (fun K2 hK2 => ?_) AllReadyH.nil))
        · refine step_plain (by rfl) ?_
          simp only [List.getElem_toArray, List.getElem_cons_zero, List.getElem_cons_succ]
          go_simp
          go_at_call 10
          refine (C1.out _ hSS.2.2).mono ?_
          rintro e W2 ⟨xp, rfl, hX, hbn⟩
          replace hB := (hbn.block _ (Array.getElem?_eq_some_iff.1 hB).1).trans hB
          have hz2 := hbn.size
          go_simp
          refine hK2.out _ _ (hSS.below hbn) (fun hSS => ?_)
          clear hbn hK2
          refine wpAnyH_ready (rs := [2, 6]) (by kernel_rfl) (by simp) (AllReadyH.cons rfl (fun K3 hK3 => ?_) (AllReadyH.cons rfl (fun K3 hK3 => ?_) AllReadyH.nil))
          · refine step_plain (by rfl) ?_
            simp only [List.getElem_toArray, List.getElem_cons_zero, List.getElem_cons_succ]
            go_simp
            go_at_call 11
            refine (T1.out _ _ _ hX).mono ?_
            rintro e W3 ⟨a, rfl, ha1, rX, hbn⟩
            replace hX := hX.stays hbn
            replace hB := (hbn.block _ (Array.getElem?_eq_some_iff.1 hB).1).trans hB
            replace rX := rX.mono (ok' := fun b => W2.heap.size ≤ b ∧ b < W3.heap.size) (fun _ h1 h2 => ⟨h1, h2⟩)
            clear hX
            have hz3 := hbn.size
            go_simp
            refine hK3.out _ _ (hSS.below hbn) (fun hSS => ?_)
            clear hbn hK3
            refine wpAnyH_ready (rs := [4, 6]) (by kernel_rfl) (by simp) (AllReadyH.cons rfl (fun K4 hK4 => ?_) (AllReadyH.cons rfl (fun K4 hK4 => ?_) AllReadyH.nil))
            · refine step_plain (by rfl) ?_
              simp only [List.getElem_toArray, List.getElem_cons_zero, List.getElem_cons_succ]
              go_simp
              go_at_call 10
              refine (C2.out _ hSS.2.2).mono ?_
              rintro e W4 ⟨yp, rfl, hY, hbn⟩
              replace rX := rX.stays hbn
              replace hB := (hbn.block _ (Array.getElem?_eq_some_iff.1 hB).1).trans hB
              have hz4 := hbn.size
              go_simp
              refine hK4.out _ _ (hSS.below hbn) (fun hSS => ?_)
              clear hbn hK4
              refine wpAnyH_ready (rs := [5, 6]) (by kernel_rfl) (by simp) (AllReadyH.cons rfl (fun K5 hK5 => ?_) (AllReadyH.cons rfl (fun K5 hK5 => ?_) AllReadyH.nil))
              · refine step_plain (by rfl) ?_
                simp only [List.getElem_toArray, List.getElem_cons_zero, List.getElem_cons_succ]
                go_simp
                go_at_call 11
                refine (T2.out _ _ _ hY).mono ?_
                rintro e W5 ⟨b, rfl, hb1, rY, hbn⟩
                replace rX := rX.stays hbn
                replace hY := hY.stays hbn
                replace hB := (hbn.block _ (Array.getElem?_eq_some_iff.1 hB).1).trans hB
                replace rY := rY.mono (ok' := fun b => W4.heap.size ≤ b ∧ b < W5.heap.size) (fun _ h1 h2 => ⟨h1, h2⟩)
                clear hY
                have hz5 := hbn.size
                go_simp
                refine hK5.out _ _ (hSS.below hbn) (fun hSS => ?_)
                clear hbn hK5
                refine wpAnyH_ready (rs := [6]) (by kernel_rfl) (by simp) (AllReadyH.cons rfl (fun K6 hK6 => ?_) AllReadyH.nil)
                refine step_plain (by rfl) ?_
                simp only [List.getElem_toArray, List.getElem_cons_zero, List.getElem_cons_succ]
                go_simp
                have hbn : Below W5.heap.size W5 (W5.alloc (.cells #[.nilIface] 30)) := (Below.refl _ _).alloc (Nat.le_refl _) _
                have hA := heap_alloc_new W5 (.cells #[.nilIface] 30)
                replace rX := rX.stays hbn
                replace rY := rY.stays hbn
                replace hB := (hbn.block _ (Array.getElem?_eq_some_iff.1 hB).1).trans hB
                have hz6 : W5.heap.size < (W5.alloc (.cells #[.nilIface] 30)).heap.size := by simp
                refine hK6.out _ _ (hSS.below hbn) (fun hSS => ?_)
                clear hbn hK6
                generalize W5.alloc (.cells #[.nilIface] 30) = W6 at *
                have hTwo := TwoR.mk (A := W5.heap.size) (B := W0.heap.size) hSS.2.2 hA hB rX rY (by omega) (by omega) (by omega) (fun b hb => by omega) (fun b hb => by omega)
                have hS8 : Below w.heap.size w (World.setCell W6 ⟨W5.heap.size, 0, none⟩ a) := hSS.2.2.setCell (p := ⟨W5.heap.size, 0, none⟩) (show _ ≤ W5.heap.size by omega) a
                have hS9 := hS8.setCell (p := ⟨W0.heap.size, 0, none⟩) (show _ ≤ W0.heap.size by omega) b
                have hB6 := (Below.heap_setCell W6 ⟨W5.heap.size, 0, none⟩ a (W0.heap.size) (show W0.heap.size ≠ W5.heap.size by omega)).trans hB
                have hQ8 : BW w (World.setCell W6 ⟨W5.heap.size, 0, none⟩ a) v p u q := ⟨(Below.heap_setCell _ _ _ _ (show w.heap.size ≠ W5.heap.size by omega)).trans hSS.1, (Below.heap_setCell _ _ _ _ (show w.heap.size + 1 ≠ W5.heap.size by omega)).trans hSS.2.1, hS8⟩
                have hQ9 : BW w (World.setCell (World.setCell W6 ⟨W5.heap.size, 0, none⟩ a) ⟨W0.heap.size, 0, none⟩ b) v p u q := ⟨(Below.heap_setCell _ _ _ _ (show w.heap.size ≠ W0.heap.size by omega)).trans hQ8.1, (Below.heap_setCell _ _ _ _ (show w.heap.size + 1 ≠ W0.heap.size by omega)).trans hQ8.2.1, hS9⟩
                refine wpAnyH_ready (rs := [8]) (by kernel_rfl) (by simp) (AllReadyH.cons rfl (fun K7 hK7 => ?_) AllReadyH.nil)
                refine step_set1 (by rfl) _ _ (by rfl) (by rfl) (B := W5.heap.size) (u := a) (by rfl) (by rfl) ha1 hA ?_
                refine hK7.out _ _ hQ8 (fun hSS6 => ?_)
                clear hQ8 hS8 hS9 hK7
                generalize World.setCell W6 ⟨W5.heap.size, 0, none⟩ a = WB at *
                refine wpAnyH_ready (rs := [9]) (by kernel_rfl) (by simp) (AllReadyH.cons rfl (fun K8 hK8 => ?_) AllReadyH.nil)
                refine step_set1 (by rfl) _ _ (by rfl) (by rfl) (B := W0.heap.size) (u := b) (by rfl) (by rfl) hb1 hB6 ?_
                refine hK8.out _ _ hQ9 (fun hSS7 => ?_)
                clear hQ9 hK8
                generalize World.setCell WB ⟨W0.heap.size, 0, none⟩ b = WC at *
                refine wpAnyH_done (by kernel_rfl) ?_ _
                go_wp2_with fail
                go_meet
                exact hTwo
              · refine step_plain (by rfl) ?_
                simp only [List.getElem_toArray, List.getElem_cons_zero, List.getElem_cons_succ]
                go_simp
                have hbn : Below W4.heap.size W4 (W4.alloc (.cells #[.nilIface] 30)) := (Below.refl _ _).alloc (Nat.le_refl _) _
                have hA := heap_alloc_new W4 (.cells #[.nilIface] 30)
                replace rX := rX.stays hbn
                replace hY := hY.stays hbn
                replace hB := (hbn.block _ (Array.getElem?_eq_some_iff.1 hB).1).trans hB
                have hz5 : W4.heap.size < (W4.alloc (.cells #[.nilIface] 30)).heap.size := by simp
                refine hK5.out _ _ (hSS.below hbn) (fun hSS => ?_)
                clear hbn hK5
                generalize W4.alloc (.cells #[.nilIface] 30) = W5 at *
                refine wpAnyH_ready (rs := [5]) (by kernel_rfl) (by simp) (AllReadyH.cons rfl (fun K6 hK6 => ?_) AllReadyH.nil)
                refine step_plain (by rfl) ?_
                simp only [List.getElem_toArray, List.getElem_cons_zero, List.getElem_cons_succ]
                go_simp
                go_at_call 11
                refine (T2.out _ _ _ hY).mono ?_
                rintro e W6 ⟨b, rfl, hb1, rY, hbn⟩
                replace rX := rX.stays hbn
                replace hY := hY.stays hbn
                replace hA := (hbn.block _ (Array.getElem?_eq_some_iff.1 hA).1).trans hA
                replace hB := (hbn.block _ (Array.getElem?_eq_some_iff.1 hB).1).trans hB
                replace rY := rY.mono (ok' := fun b => W5.heap.size ≤ b ∧ b < W6.heap.size) (fun _ h1 h2 => ⟨h1, h2⟩)
                clear hY
                have hz6 := hbn.size
                go_simp
                refine hK6.out _ _ (hSS.below hbn) (fun hSS => ?_)
                clear hbn hK6
                have hTwo := TwoR.mk (A := W4.heap.size) (B := W0.heap.size) hSS.2.2 hA hB rX rY (by omega) (by omega) (by omega) (fun b hb => by omega) (fun b hb => by omega)
                have hS8 : Below w.heap.size w (World.setCell W6 ⟨W4.heap.size, 0, none⟩ a) := hSS.2.2.setCell (p := ⟨W4.heap.size, 0, none⟩) (show _ ≤ W4.heap.size by omega) a
                have hS9 := hS8.setCell (p := ⟨W0.heap.size, 0, none⟩) (show _ ≤ W0.heap.size by omega) b
                have hB6 := (Below.heap_setCell W6 ⟨W4.heap.size, 0, none⟩ a (W0.heap.size) (show W0.heap.size ≠ W4.heap.size by omega)).trans hB
                have hQ8 : BW w (World.setCell W6 ⟨W4.heap.size, 0, none⟩ a) v p u q := ⟨(Below.heap_setCell _ _ _ _ (show w.heap.size ≠ W4.heap.size by omega)).trans hSS.1, (Below.heap_setCell _ _ _ _ (show w.heap.size + 1 ≠ W4.heap.size by omega)).trans hSS.2.1, hS8⟩
                have hQ9 : BW w (World.setCell (World.setCell W6 ⟨W4.heap.size, 0, none⟩ a) ⟨W0.heap.size, 0, none⟩ b) v p u q := ⟨(Below.heap_setCell _ _ _ _ (show w.heap.size ≠ W0.heap.size by omega)).trans hQ8.1, (Below.heap_setCell _ _ _ _ (show w.heap.size + 1 ≠ W0.heap.size by omega)).trans hQ8.2.1, hS9⟩
                refine wpAnyH_ready (rs := [8]) (by kernel_rfl) (by simp) (AllReadyH.cons rfl (fun K7 hK7 => ?_) AllReadyH.nil)
                refine step_set1 (by rfl) _ _ (by rfl) (by rfl) (B := W4.heap.size) (u := a) (by rfl) (by rfl) ha1 hA ?_
                refine hK7.out _ _ hQ8 (fun hSS6 => ?_)
                clear hQ8 hS8 hS9 hK7
                generalize World.setCell W6 ⟨W4.heap.size, 0, none⟩ a = WB at *
                refine wpAnyH_ready (rs := [9]) (by kernel_rfl) (by simp) (AllReadyH.cons rfl (fun K8 hK8 => ?_) AllReadyH.nil)
                refine step_set1 (by rfl) _ _ (by rfl) (by rfl) (B := W0.heap.size) (u := b) (by rfl) (by rfl) hb1 hB6 ?_
                refine hK8.out _ _ hQ9 (fun hSS7 => ?_)
                clear hQ9 hK8
                generalize World.setCell WB ⟨W0.heap.size, 0, none⟩ b = WC at *
                refine wpAnyH_done (by kernel_rfl) ?_ _
                go_wp2_with fail
                go_meet
                exact hTwo
            · refine step_plain (by rfl) ?_
              simp only [List.getElem_toArray, List.getElem_cons_zero, List.getElem_cons_succ]
              go_simp
              have hbn : Below W3.heap.size W3 (W3.alloc (.cells #[.nilIface] 30)) := (Below.refl _ _).alloc (Nat.le_refl _) _
              have hA := heap_alloc_new W3 (.cells #[.nilIface] 30)
              replace rX := rX.stays hbn
              replace hB := (hbn.block _ (Array.getElem?_eq_some_iff.1 hB).1).trans hB
              have hz4 : W3.heap.size < (W3.alloc (.cells #[.nilIface] 30)).heap.size := by simp
              refine hK4.out _ _ (hSS.below hbn) (fun hSS => ?_)
              clear hbn hK4
              generalize W3.alloc (.cells #[.nilIface] 30) = W4 at *
              refine wpAnyH_ready (rs := [4]) (by kernel_rfl) (by simp) (AllReadyH.cons rfl (fun K5 hK5 => ?_) AllReadyH.nil)
              refine step_plain (by rfl) ?_
              simp only [List.getElem_toArray, List.getElem_cons_zero, List.getElem_cons_succ]
              go_simp
              go_at_call 10
              refine (C2.out _ hSS.2.2).mono ?_
              rintro e W5 ⟨yp, rfl, hY, hbn⟩
              replace rX := rX.stays hbn
              replace hA := (hbn.block _ (Array.getElem?_eq_some_iff.1 hA).1).trans hA
              replace hB := (hbn.block _ (Array.getElem?_eq_some_iff.1 hB).1).trans hB
              have hz5 := hbn.size
              go_simp
              refine hK5.out _ _ (hSS.below hbn) (fun hSS => ?_)
              clear hbn hK5
              refine wpAnyH_ready (rs := [5]) (by kernel_rfl) (by simp) (AllReadyH.cons rfl (fun K6 hK6 => ?_) AllReadyH.nil)
              refine step_plain (by rfl) ?_
              simp only [List.getElem_toArray, List.getElem_cons_zero, List.getElem_cons_succ]
              go_simp
              go_at_call 11
              refine (T2.out _ _ _ hY).mono ?_
              rintro e W6 ⟨b, rfl, hb1, rY, hbn⟩
              replace rX := rX.stays hbn
              replace hY := hY.stays hbn
              replace hA := (hbn.block _ (Array.getElem?_eq_some_iff.1 hA).1).trans hA
              replace hB := (hbn.block _ (Array.getElem?_eq_some_iff.1 hB).1).trans hB
              replace rY := rY.mono (ok' := fun b => W5.heap.size ≤ b ∧ b < W6.heap.size) (fun _ h1 h2 => ⟨h1, h2⟩)
              clear hY
              have hz6 := hbn.size
              go_simp
              refine hK6.out _ _ (hSS.below hbn) (fun hSS => ?_)
              clear hbn hK6
              have hTwo := TwoR.mk (A := W3.heap.size) (B := W0.heap.size) hSS.2.2 hA hB rX rY (by omega) (by omega) (by omega) (fun b hb => by omega) (fun b hb => by omega)
              have hS8 : Below w.heap.size w (World.setCell W6 ⟨W3.heap.size, 0, none⟩ a) := hSS.2.2.setCell (p := ⟨W3.heap.size, 0, none⟩) (show _ ≤ W3.heap.size by omega) a
              have hS9 := hS8.setCell (p := ⟨W0.heap.size, 0, none⟩) (show _ ≤ W0.heap.size by omega) b
              have hB6 := (Below.heap_setCell W6 ⟨W3.heap.size, 0, none⟩ a (W0.heap.size) (show W0.heap.size ≠ W3.heap.size by omega)).trans hB
              have hQ8 : BW w (World.setCell W6 ⟨W3.heap.size, 0, none⟩ a) v p u q := ⟨(Below.heap_setCell _ _ _ _ (show w.heap.size ≠ W3.heap.size by omega)).trans hSS.1, (Below.heap_setCell _ _ _ _ (show w.heap.size + 1 ≠ W3.heap.size by omega)).trans hSS.2.1, hS8⟩
              have hQ9 : BW w (World.setCell (World.setCell W6 ⟨W3.heap.size, 0, none⟩ a) ⟨W0.heap.size, 0, none⟩ b) v p u q := ⟨(Below.heap_setCell _ _ _ _ (show w.heap.size ≠ W0.heap.size by omega)).trans hQ8.1, (Below.heap_setCell _ _ _ _ (show w.heap.size + 1 ≠ W0.heap.size by omega)).trans hQ8.2.1, hS9⟩
              refine wpAnyH_ready (rs := [8]) (by kernel_rfl) (by simp) (AllReadyH.cons rfl (fun K7 hK7 => ?_) AllReadyH.nil)
              refine step_set1 (by rfl) _ _ (by rfl) (by rfl) (B := W3.heap.size) (u := a) (by rfl) (by rfl) ha1 hA ?_
              refine hK7.out _ _ hQ8 (fun hSS6 => ?_)
              clear hQ8 hS8 hS9 hK7
              generalize World.setCell W6 ⟨W3.heap.size, 0, none⟩ a = WB at *
              refine wpAnyH_ready (rs := [9]) (by kernel_rfl) (by simp) (AllReadyH.cons rfl (fun K8 hK8 => ?_) AllReadyH.nil)
              refine step_set1 (by rfl) _ _ (by rfl) (by rfl) (B := W0.heap.size) (u := b) (by rfl) (by rfl) hb1 hB6 ?_
              refine hK8.out _ _ hQ9 (fun hSS7 => ?_)
              clear hQ9 hK8
              generalize World.setCell WB ⟨W0.heap.size, 0, none⟩ b = WC at *
              refine wpAnyH_done (by kernel_rfl) ?_ _
              go_wp2_with fail
              go_meet
              exact hTwo
          · refine step_plain (by rfl) ?_
            simp only [List.getElem_toArray, List.getElem_cons_zero, List.getElem_cons_succ]
            go_simp
            have hbn : Below W2.heap.size W2 (W2.alloc (.cells #[.nilIface] 30)) := (Below.refl _ _).alloc (Nat.le_refl _) _
            have hA := heap_alloc_new W2 (.cells #[.nilIface] 30)
            replace hX := hX.stays hbn
            replace hB := (hbn.block _ (Array.getElem?_eq_some_iff.1 hB).1).trans hB
            have hz3 : W2.heap.size < (W2.alloc (.cells #[.nilIface] 30)).heap.size := by simp
            refine hK3.out _ _ (hSS.below hbn) (fun hSS => ?_)
            clear hbn hK3
            generalize W2.alloc (.cells #[.nilIface] 30) = W3 at *
            refine wpAnyH_ready (rs := [2]) (by kernel_rfl) (by simp) (AllReadyH.cons rfl (fun K4 hK4 => ?_) AllReadyH.nil)
            refine step_plain (by rfl) ?_
            simp only [List.getElem_toArray, List.getElem_cons_zero, List.getElem_cons_succ]
            go_simp
            go_at_call 11
            refine (T1.out _ _ _ hX).mono ?_
            rintro e W4 ⟨a, rfl, ha1, rX, hbn⟩
            replace hX := hX.stays hbn
            replace hA := (hbn.block _ (Array.getElem?_eq_some_iff.1 hA).1).trans hA
            replace hB := (hbn.block _ (Array.getElem?_eq_some_iff.1 hB).1).trans hB
            replace rX := rX.mono (ok' := fun b => W3.heap.size ≤ b ∧ b < W4.heap.size) (fun _ h1 h2 => ⟨h1, h2⟩)
            clear hX
            have hz4 := hbn.size
            go_simp
            refine hK4.out _ _ (hSS.below hbn) (fun hSS => ?_)
            clear hbn hK4
            refine wpAnyH_ready (rs := [4]) (by kernel_rfl) (by simp) (AllReadyH.cons rfl (fun K5 hK5 => ?_) AllReadyH.nil)
            refine step_plain (by rfl) ?_
            simp only [List.getElem_toArray, List.getElem_cons_zero, List.getElem_cons_succ]
            go_simp
            go_at_call 10
            refine (C2.out _ hSS.2.2).mono ?_
            rintro e W5 ⟨yp, rfl, hY, hbn⟩
            replace rX := rX.stays hbn
            replace hA := (hbn.block _ (Array.getElem?_eq_some_iff.1 hA).1).trans hA
            replace hB := (hbn.block _ (Array.getElem?_eq_some_iff.1 hB).1).trans hB
            have hz5 := hbn.size
            go_simp
            refine hK5.out _ _ (hSS.below hbn) (fun hSS => ?_)
            clear hbn hK5
            refine wpAnyH_ready (rs := [5]) (by kernel_rfl) (by simp) (AllReadyH.cons rfl (fun K6 hK6 => ?_) AllReadyH.nil)
            refine step_plain (by rfl) ?_
            simp only [List.getElem_toArray, List.getElem_cons_zero, List.getElem_cons_succ]
            go_simp
            go_at_call 11
            refine (T2.out _ _ _ hY).mono ?_
            rintro e W6 ⟨b, rfl, hb1, rY, hbn⟩
            replace rX := rX.stays hbn
            replace hY := hY.stays hbn
            replace hA := (hbn.block _ (Array.getElem?_eq_some_iff.1 hA).1).trans hA
            replace hB := (hbn.block _ (Array.getElem?_eq_some_iff.1 hB).1).trans hB
            replace rY := rY.mono (ok' := fun b => W5.heap.size ≤ b ∧ b < W6.heap.size) (fun _ h1 h2 => ⟨h1, h2⟩)
            clear hY
            have hz6 := hbn.size
            go_simp
            refine hK6.out _ _ (hSS.below hbn) (fun hSS => ?_)
            clear hbn hK6
            have hTwo := TwoR.mk (A := W2.heap.size) (B := W0.heap.size) hSS.2.2 hA hB rX rY (by omega) (by omega) (by omega) (fun b hb => by omega) (fun b hb => by omega)
            have hS8 : Below w.heap.size w (World.setCell W6 ⟨W2.heap.size, 0, none⟩ a) := hSS.2.2.setCell (p := ⟨W2.heap.size, 0, none⟩) (show _ ≤ W2.heap.size by omega) a
            have hS9 := hS8.setCell (p := ⟨W0.heap.size, 0, none⟩) (show _ ≤ W0.heap.size by omega) b
            have hB6 := (Below.heap_setCell W6 ⟨W2.heap.size, 0, none⟩ a (W0.heap.size) (show W0.heap.size ≠ W2.heap.size by omega)).trans hB
            have hQ8 : BW w (World.setCell W6 ⟨W2.heap.size, 0, none⟩ a) v p u q := ⟨(Below.heap_setCell _ _ _ _ (show w.heap.size ≠ W2.heap.size by omega)).trans hSS.1, (Below.heap_setCell _ _ _ _ (show w.heap.size + 1 ≠ W2.heap.size by omega)).trans hSS.2.1, hS8⟩
            have hQ9 : BW w (World.setCell (World.setCell W6 ⟨W2.heap.size, 0, none⟩ a) ⟨W0.heap.size, 0, none⟩ b) v p u q := ⟨(Below.heap_setCell _ _ _ _ (show w.heap.size ≠ W0.heap.size by omega)).trans hQ8.1, (Below.heap_setCell _ _ _ _ (show w.heap.size + 1 ≠ W0.heap.size by omega)).trans hQ8.2.1, hS9⟩
            refine wpAnyH_ready (rs := [8]) (by kernel_rfl) (by simp) (AllReadyH.cons rfl (fun K7 hK7 => ?_) AllReadyH.nil)
            refine step_set1 (by rfl) _ _ (by rfl) (by rfl) (B := W2.heap.size) (u := a) (by rfl) (by rfl) ha1 hA ?_
            refine hK7.out _ _ hQ8 (fun hSS6 => ?_)
            clear hQ8 hS8 hS9 hK7
            generalize World.setCell W6 ⟨W2.heap.size, 0, none⟩ a = WB at *
            refine wpAnyH_ready (rs := [9]) (by kernel_rfl) (by simp) (AllReadyH.cons rfl (fun K8 hK8 => ?_) AllReadyH.nil)
            refine step_set1 (by rfl) _ _ (by rfl) (by rfl) (B := W0.heap.size) (u := b) (by rfl) (by rfl) hb1 hB6 ?_
            refine hK8.out _ _ hQ9 (fun hSS7 => ?_)
            clear hQ9 hK8
            generalize World.setCell WB ⟨W0.heap.size, 0, none⟩ b = WC at *
            refine wpAnyH_done (by kernel_rfl) ?_ _
            go_wp2_with fail
            go_meet
            exact hTwo
        · refine step_plain (by rfl) ?_
          simp only [List.getElem_toArray, List.getElem_cons_zero, List.getElem_cons_succ]
          go_simp
          have hbn : Below W1.heap.size W1 (W1.alloc (.cells #[.nilIface] 30)) := (Below.refl _ _).alloc (Nat.le_refl _) _
          have hA := heap_alloc_new W1 (.cells #[.nilIface] 30)
          replace hB := (hbn.block _ (Array.getElem?_eq_some_iff.1 hB).1).trans hB
          have hz2 : W1.heap.size < (W1.alloc (.cells #[.nilIface] 30)).heap.size := by simp
          refine hK2.out _ _ (hSS.below hbn) (fun hSS => ?_)
          clear hbn hK2
          generalize W1.alloc (.cells #[.nilIface] 30) = W2 at *
          refine wpAnyH_ready (rs := [1]) (by kernel_rfl) (by simp) (AllReadyH.cons rfl (fun K3 hK3 => ?_) AllReadyH.nil)
          refine step_plain (by rfl) ?_
          simp only [List.getElem_toArray, List.getElem_cons_zero, List.getElem_cons_succ]
          go_simp
          go_at_call 10
          refine (C1.out _ hSS.2.2).mono ?_
          rintro e W3 ⟨xp, rfl, hX, hbn⟩
          replace hA := (hbn.block _ (Array.getElem?_eq_some_iff.1 hA).1).trans hA
          replace hB := (hbn.block _ (Array.getElem?_eq_some_iff.1 hB).1).trans hB
          have hz3 := hbn.size
          go_simp
          refine hK3.out _ _ (hSS.below hbn) (fun hSS => ?_)
          clear hbn hK3
          refine wpAnyH_ready (rs := [2]) (by kernel_rfl) (by simp) (AllReadyH.cons rfl (fun K4 hK4 => ?_) AllReadyH.nil)
          refine step_plain (by rfl) ?_
          simp only [List.getElem_toArray, List.getElem_cons_zero, List.getElem_cons_succ]
          go_simp
          go_at_call 11
          refine (T1.out _ _ _ hX).mono ?_
          rintro e W4 ⟨a, rfl, ha1, rX, hbn⟩
          replace hX := hX.stays hbn
          replace hA := (hbn.block _ (Array.getElem?_eq_some_iff.1 hA).1).trans hA
          replace hB := (hbn.block _ (Array.getElem?_eq_some_iff.1 hB).1).trans hB
          replace rX := rX.mono (ok' := fun b => W3.heap.size ≤ b ∧ b < W4.heap.size) (fun _ h1 h2 => ⟨h1, h2⟩)
          clear hX
          have hz4 := hbn.size
          go_simp
          refine hK4.out _ _ (hSS.below hbn) (fun hSS => ?_)
          clear hbn hK4
          refine wpAnyH_ready (rs := [4]) (by kernel_rfl) (by simp) (AllReadyH.cons rfl (fun K5 hK5 => ?_) AllReadyH.nil)
          refine step_plain (by rfl) ?_
          simp only [List.getElem_toArray, List.getElem_cons_zero, List.getElem_cons_succ]
          go_simp
          go_at_call 10
          refine (C2.out _ hSS.2.2).mono ?_
          rintro e W5 ⟨yp, rfl, hY, hbn⟩
          replace rX := rX.stays hbn
          replace hA := (hbn.block _ (Array.getElem?_eq_some_iff.1 hA).1).trans hA
          replace hB := (hbn.block _ (Array.getElem?_eq_some_iff.1 hB).1).trans hB
          have hz5 := hbn.size
          go_simp
          refine hK5.out _ _ (hSS.below hbn) (fun hSS => ?_)
          clear hbn hK5
          refine wpAnyH_ready (rs := [5]) (by kernel_rfl) (by simp) (AllReadyH.cons rfl (fun K6 hK6 => ?_) AllReadyH.nil)
          refine step_plain (by rfl) ?_
          simp only [List.getElem_toArray, List.getElem_cons_zero, List.getElem_cons_succ]
          go_simp
          go_at_call 11
          refine (T2.out _ _ _ hY).mono ?_
          rintro e W6 ⟨b, rfl, hb1, rY, hbn⟩
          replace rX := rX.stays hbn
          replace hY := hY.stays hbn
          replace hA := (hbn.block _ (Array.getElem?_eq_some_iff.1 hA).1).trans hA
          replace hB := (hbn.block _ (Array.getElem?_eq_some_iff.1 hB).1).trans hB
          replace rY := rY.mono (ok' := fun b => W5.heap.size ≤ b ∧ b < W6.heap.size) (fun _ h1 h2 => ⟨h1, h2⟩)
          clear hY
          have hz6 := hbn.size
          go_simp
          refine hK6.out _ _ (hSS.below hbn) (fun hSS => ?_)
          clear hbn hK6
          have hTwo := TwoR.mk (A := W1.heap.size) (B := W0.heap.size) hSS.2.2 hA hB rX rY (by omega) (by omega) (by omega) (fun b hb => by omega) (fun b hb => by omega)
          have hS8 : Below w.heap.size w (World.setCell W6 ⟨W1.heap.size, 0, none⟩ a) := hSS.2.2.setCell (p := ⟨W1.heap.size, 0, none⟩) (show _ ≤ W1.heap.size by omega) a
          have hS9 := hS8.setCell (p := ⟨W0.heap.size, 0, none⟩) (show _ ≤ W0.heap.size by omega) b
          have hB6 := (Below.heap_setCell W6 ⟨W1.heap.size, 0, none⟩ a (W0.heap.size) (show W0.heap.size ≠ W1.heap.size by omega)).trans hB
          have hQ8 : BW w (World.setCell W6 ⟨W1.heap.size, 0, none⟩ a) v p u q := ⟨(Below.heap_setCell _ _ _ _ (show w.heap.size ≠ W1.heap.size by omega)).trans hSS.1, (Below.heap_setCell _ _ _ _ (show w.heap.size + 1 ≠ W1.heap.size by omega)).trans hSS.2.1, hS8⟩
          have hQ9 : BW w (World.setCell (World.setCell W6 ⟨W1.heap.size, 0, none⟩ a) ⟨W0.heap.size, 0, none⟩ b) v p u q := ⟨(Below.heap_setCell _ _ _ _ (show w.heap.size ≠ W0.heap.size by omega)).trans hQ8.1, (Below.heap_setCell _ _ _ _ (show w.heap.size + 1 ≠ W0.heap.size by omega)).trans hQ8.2.1, hS9⟩
          refine wpAnyH_ready (rs := [8]) (by kernel_rfl) (by simp) (AllReadyH.cons rfl (fun K7 hK7 => ?_) AllReadyH.nil)
          refine step_set1 (by rfl) _ _ (by rfl) (by rfl) (B := W1.heap.size) (u := a) (by rfl) (by rfl) ha1 hA ?_
          refine hK7.out _ _ hQ8 (fun hSS6 => ?_)
          clear hQ8 hS8 hS9 hK7
          generalize World.setCell W6 ⟨W1.heap.size, 0, none⟩ a = WB at *
          refine wpAnyH_ready (rs := [9]) (by kernel_rfl) (by simp) (AllReadyH.cons rfl (fun K8 hK8 => ?_) AllReadyH.nil)
          refine step_set1 (by rfl) _ _ (by rfl) (by rfl) (B := W0.heap.size) (u := b) (by rfl) (by rfl) hb1 hB6 ?_
          refine hK8.out _ _ hQ9 (fun hSS7 => ?_)
          clear hQ9 hK8
          generalize World.setCell WB ⟨W0.heap.size, 0, none⟩ b = WC at *
          refine wpAnyH_done (by kernel_rfl) ?_ _
          go_wp2_with fail
          go_meet
          exact hTwo
    case rest =>
      obtain ⟨A, B, a, b, rfl, rfl, hA, hB, rX, rY, hb4⟩ := hcut
      have cA := cell_of_row _ _ 0 _ _ _ hA
      have cB := cell_of_row _ _ 0 _ _ _ hB
      have lA := (Array.getElem?_eq_some_iff.1 hA).1
      have lB := (Array.getElem?_eq_some_iff.1 hB).1
      clear hB3 HBC C1 C2 T1 T2
      go_wp2_with fail
      refine (CWI.out _ a b hb4 rX rY).mono ?_
      rintro e w5 ⟨g, rfl, hg1, hg, hb5⟩
      have st5 := store_new 30 g .nilIface hg1 w5
      have hb6 : Below wc.heap.size wc (w5.alloc (.cells #[g] 30)) := hb5.alloc hb5.size _
      have hP6 : PX w (w5.alloc (.cells #[g] 30)) A B w5.heap.size a b g x y z := ⟨(hb6.block _ lA).trans hA, (hb6.block _ lB).trans hB, heap_alloc_new _ _, rX.stays hb6, rY.stays hb6, hg.stays ((Below.refl _ _).alloc (Nat.le_refl _) _), hb4.trans (hb6.mono hb4.size)⟩
      obtain ⟨c1, c2, c3⟩ := hP6.cells
      clear cA cB lA lB hA hB rX rY hb4 hb5 hb6 hg CWI
      by_cases hE : er ≠ 0
      · obtain rfl := HNU.out hE
        have hE' : (er == 0) = false := by simpa using hE
        clear HGO HPA CGL CGM HSL HSM HSA HSG HNU
        go_wp2_with fail
        refine (kind_any hP6.2.2.2.2.2.1 _).mono ?_
        rintro e w7 ⟨rfl, hb7⟩
        have hP7 := hP6.below hb7
        clear hP6
        go_wp2_with fail
        go_ret
        exact ⟨rfl, hP7.2.2.2.2.2.2⟩
      obtain rfl : er = 0 := by omega
      have HG := HGO.out rfl
      have CGL2 := CGL.out
      clear HNU hE HGO
      go_wp2_with fail
      refine (CGL2 _ g z hP6.2.2.2.2.2.2 hP6.2.2.2.2.2.1).mono ?_
      rw [HG]
      rintro e w7 ⟨g2, rfl, hg2, hr2, hb7⟩
      have hP7 := hP6.below hb7
      clear hP6 st5 c1 c2 c3 hb7 CGL2 HG hg1
      generalize w5.heap.size = D at *
      have st7 := store_new 30 g2 .nilIface hg2 w7
      have hbA : Below w7.heap.size w7 (w7.alloc (.cells #[g2] 30)) := (Below.refl _ _).alloc (Nat.le_refl _) _
      have hP8 := hP7.below hbA
      obtain ⟨c1, c2, c3⟩ := hP8.cells
      have c7 := cell_of_row _ _ 0 _ _ _ (heap_alloc_new w7 (.cells #[g2] 30))
      have hr8 := hr2.stays hbA
      clear hr2 hP7 hbA hg2
      go_wp2_with fail
      refine (HSA.out _ g2 b hr8 hP8.2.2.2.2.1).mono ?_
      rintro e w9 ⟨rfl, hb9⟩
      have hP9 := hP8.below hb9
      clear hP8 c1 c2 c3 c7 hr8 hb9 st7 HSA CGL
      generalize w7.heap.size = D2 at *
      go_wp2_with fail
      have ht0 : Hid (l.take 0 = m.take 0) := rfl
      go_loopw [15] (fun si wr => ∃ k : Nat, k ≤ l.length ∧ k ≤ m.length ∧ si = .int .i64 k ∧ PX w wr A B D a b g x y z ∧ Hid (l.take k = m.take k)) (fun si _ => l.length - (intOf si).toNat)
      case atStart => exact ⟨0, by omega, by omega, rfl, hP9, ht0⟩
      case round =>
        obtain ⟨k, hkl, hkm, rfl, hP, htk⟩ := hrel
        clear hP9 ht0
        by_cases h1 : k < l.length
        · by_cases h2 : k < m.length
          · obtain ⟨bl, lo, rfl, p1, p2⟩ := HSL.out _ k hP.2.2.2.2.2.2 h1
            obtain ⟨bm, mo, rfl, q1, q2⟩ := HSM.out _ k hP.2.2.2.2.2.2 h2
            have HST : Hid (∀ W, Below w.heap.size w W → (W.cell? ⟨bl, lo + k * 2, none⟩ = some (.string l[k].key) ∧ W.cell? ⟨bl, lo + k * 2 + 1, none⟩ = some (.int .i64 l[k].at_)) ∧ W.cell? ⟨bm, mo + k * 2, none⟩ = some (.string m[k].key) ∧ W.cell? ⟨bm, mo + k * 2 + 1, none⟩ = some (.int .i64 m[k].at_)) := fun W hW => by
              obtain ⟨b', o', e, c1, c2⟩ := HSL.out W k hW h1
              injection e with e; injection e with e1 e2; subst e1; subst e2
              obtain ⟨b'', o'', e, d1, d2⟩ := HSM.out W k hW h2
              injection e with e; injection e with e1 e2; subst e1; subst e2
              exact ⟨⟨c1, c2⟩, d1, d2⟩
            have HPA2 := HPA.out k h1 h2 htk.out
            have HTK : Hid (l[k] = m[k] → l.take (k + 1) = m.take (k + 1)) := fun e => by
              rw [List.take_succ_eq_append_getElem h1, List.take_succ_eq_append_getElem h2, htk.out, e]
            have hDB : Below wr.heap.size wr wr.drew := (Below.refl _ _).drew
            have hPd := hP.below hDB
            obtain ⟨c1, c2, c3⟩ := hPd.cells
            have hEE := sameSt_iff l[k] m[k]
            clear p1 p2 q1 q2 hP hDB htk HPA
            generalize l[k] = s at *
            generalize m[k] = t at *
            cases hE : sameSt s t
            · have hne : s ≠ t := fun e => by rw [hEE.2 e] at hE; cases hE
              have HP3 : Hid (leadB s t = true → (x.goTo m).2 = 0 → z.goTo m = x.goTo m) := fun h h2 => HPA2 hne h trivial h2
              have hst2 : s.key.toList = t.key.toList → ¬ s.at_ = t.at_ := fun e1 e2 => hne (by
                have h0 : s.key = t.key := Go.WideShapes.bytes_inj (by rw [← ByteArray.toList_eq, ← ByteArray.toList_eq]; exact e1)
                cases s; cases t
                simp only at h0 e2
                rw [h0, e2])
              clear HPA2 HTK hEE hne
              go_wp2_with fail
              refine wp_region_held_drew (S := fun W => Below wr.drew.heap.size wr.drew W) (by kernel_rfl) (Below.refl _ _) (fun hSS => ?_)
              refine wpAnyH_take (i := 0) (v := ?_) rfl (by kernel_rfl) (by kernel_rfl) (by kernel_rfl) (fun _ _ _ h => h) (Or.inl ⟨by rfl, ?_⟩) hSS ?_
              rotate_left
              · intro wz hSz
                go_simp
                try with_reducible rfl
              simp only [List.getElem_toArray, List.getElem_cons_zero, Act.put, List.setIfInBounds_toArray, List.set_cons_zero, List.set_cons_succ]
              refine wpAnyH_take (i := 1) (v := ?_) rfl (by kernel_rfl) (by kernel_rfl) (by kernel_rfl) (fun _ _ _ h => h) (Or.inl ⟨by rfl, ?_⟩) hSS ?_
              rotate_left
              · intro wz hSz
                go_simp
                try with_reducible rfl
              simp only [List.getElem_toArray, List.getElem_cons_zero, List.getElem_cons_succ, Act.put, List.setIfInBounds_toArray, List.set_cons_zero, List.set_cons_succ]
              refine wpAnyH_take (i := 2) (v := ?_) rfl (by kernel_rfl) (by kernel_rfl) (by kernel_rfl) (fun _ _ _ h => h) (Or.inl ⟨by rfl, ?_⟩) hSS ?_
              rotate_left
              · intro wz hSz
                go_simp
                try with_reducible rfl
              simp only [List.getElem_toArray, List.getElem_cons_zero, List.getElem_cons_succ, Act.put, List.setIfInBounds_toArray, List.set_cons_zero, List.set_cons_succ]
              refine wpAnyH_take (i := 3) (v := ?_) rfl (by kernel_rfl) (by kernel_rfl) (by kernel_rfl) (fun _ _ _ h => h) (Or.inl ⟨by rfl, ?_⟩) hSS ?_
              rotate_left
              · intro wz hSz
                obtain ⟨⟨p1, p2⟩, q1, q2⟩ := HST.out _ (hPd.2.2.2.2.2.2.trans (hSz.mono hPd.2.2.2.2.2.2.size))
                go_simp
                try with_reducible rfl
              simp only [List.getElem_toArray, List.getElem_cons_zero, List.getElem_cons_succ, Act.put, List.setIfInBounds_toArray, List.set_cons_zero, List.set_cons_succ]
              refine wpAnyH_take (i := 4) (v := ?_) rfl (by kernel_rfl) (by kernel_rfl) (by kernel_rfl) (fun _ _ _ h => h) (Or.inl ⟨by rfl, ?_⟩) hSS ?_
              rotate_left
              · intro wz hSz
                go_simp
                try with_reducible rfl
              simp only [List.getElem_toArray, List.getElem_cons_zero, List.getElem_cons_succ, Act.put, List.setIfInBounds_toArray, List.set_cons_zero, List.set_cons_succ]
              refine wpAnyH_take (i := 5) (v := ?_) rfl (by kernel_rfl) (by kernel_rfl) (by kernel_rfl) (fun _ _ _ h => h) (Or.inl ⟨by rfl, ?_⟩) hSS ?_
              rotate_left
              · intro wz hSz
                go_simp
                try with_reducible rfl
              simp only [List.getElem_toArray, List.getElem_cons_zero, List.getElem_cons_succ, Act.put, List.setIfInBounds_toArray, List.set_cons_zero, List.set_cons_succ]
              refine wpAnyH_take (i := 6) (v := ?_) rfl (by kernel_rfl) (by kernel_rfl) (by kernel_rfl) (fun _ _ _ h => h) (Or.inl ⟨by rfl, ?_⟩) hSS ?_
              rotate_left
              · intro wz hSz
                go_simp
                try with_reducible rfl
              simp only [List.getElem_toArray, List.getElem_cons_zero, List.getElem_cons_succ, Act.put, List.setIfInBounds_toArray, List.set_cons_zero, List.set_cons_succ]
              refine wpAnyH_take (i := 7) (v := ?_) rfl (by kernel_rfl) (by kernel_rfl) (by kernel_rfl) (fun _ _ _ h => h) (Or.inl ⟨by rfl, ?_⟩) hSS ?_
              rotate_left
              · intro wz hSz
                obtain ⟨⟨p1, p2⟩, q1, q2⟩ := HST.out _ (hPd.2.2.2.2.2.2.trans (hSz.mono hPd.2.2.2.2.2.2.size))
                go_simp
                try with_reducible rfl
              simp only [List.getElem_toArray, List.getElem_cons_zero, List.getElem_cons_succ, Act.put, List.setIfInBounds_toArray, List.set_cons_zero, List.set_cons_succ]
              refine wpAnyH_take (i := 8) (v := .bool false) rfl (by kernel_rfl) (by kernel_rfl) (by kernel_rfl) (fun _ _ _ h => h) (Or.inl ⟨by rfl, ?_⟩) hSS ?_
              · intro wz hSz
                have qq := eql_step wz s t; rw [hE] at qq
                go_simp
                exact hst2
              simp only [List.getElem_toArray, List.getElem_cons_zero, List.getElem_cons_succ, Act.put, List.setIfInBounds_toArray, List.set_cons_zero, List.set_cons_succ]
              refine wpAnyH_done (by kernel_rfl) ?_ _
              go_wp2_with fail
              have CG := CGM.out
              refine (CG _ a x hPd.2.2.2.2.2.2 hPd.2.2.2.1).mono ?_
              rintro e w11 ⟨g3, rfl, hg3, hr3, hb11⟩
              have hP11 := hPd.below hb11
              have st11 := store_new 30 g3 .nilIface hg3 w11
              have hbA : Below w11.heap.size w11 (w11.alloc (.cells #[g3] 30)) := (Below.refl _ _).alloc (Nat.le_refl _) _
              have hP12 := hP11.below hbA
              have hr12 := hr3.stays hbA
              have hc12 := heap_alloc_new w11 (.cells #[g3] 30)
              obtain ⟨d1, d2, d3⟩ := hP12.cells
              clear hPd hP11 hbA hb11 hr3 c1 c2 c3 CGM hSS
              go_wp2_with fail
              refine (CG _ g z hP12.2.2.2.2.2.2 hP12.2.2.2.2.2.1).mono ?_
              rintro e w13 ⟨g4, rfl, hg4, hr4, hb13⟩
              have hP13 := hP12.below hb13
              have st13 := store_new 30 g4 .nilIface hg4 w13
              have hbA : Below w13.heap.size w13 (w13.alloc (.cells #[g4] 30)) := (Below.refl _ _).alloc (Nat.le_refl _) _
              have hP14 := hP13.below hbA
              have hbB := hb13.trans (hbA.mono hb13.size)
              have hr14 := hr4.stays hbA
              have hr15 := hr12.stays hbB
              have hc14 := heap_alloc_new w13 (.cells #[g4] 30)
              have hc15 := (hbB.block _ (Array.getElem?_eq_some_iff.1 hc12).1).trans hc12
              clear hP12 hP13 hb13 hr4 d1 d2 d3 CG hbA hbB hr12 hc12 st11
              generalize w11.heap.size = D3 at *
              have hB14 : Below w.heap.size w (w13.alloc (.cells #[g4] 30)) := hP14.2.2.2.2.2.2
              clear hP14
              go_wp2_with fail
              clear st13
              generalize w13.alloc (.cells #[g4] 30) = W14 at *
              generalize w13.heap.size = D4 at *
              go_cut [20] from 109 to 143 (fun s20 wx => s20 = .bool (leadB s t) ∧ Below W14.heap.size W14 wx)
              case first =>
                clear HP3 HSG hr14 hr15 hc14 hc15
                by_cases hk1 : s.key = t.key
                · by_cases hk2 : s.key = ByteArray.empty
                  · by_cases hk3 : 0 ≤ s.at_
                    · have hld : leadB s t = decide (0 ≤ t.at_) := by unfold leadB; simp [hk1, hk3, hk2 ▸ hk1]
                      have hk2t : t.key.toList = [] := by rw [← hk1, hk2, ByteArray.toList_eq]; rfl
                      refine wp_region_held_drew (S := fun W => Below W14.heap.size W14 W) (by kernel_rfl) (Below.refl _ _).drew (fun hSS => ?_)
                      refine wpAnyH_take (i := 0) (v := ?_) rfl (by kernel_rfl) (by kernel_rfl) (by kernel_rfl) (fun _ _ _ h => h) (Or.inl ⟨by rfl, ?_⟩) hSS ?_
                      rotate_left
                      · intro wz hSz
                        go_simp
                        try with_reducible rfl
                      simp only [List.getElem_toArray, List.getElem_cons_zero, Act.put, List.setIfInBounds_toArray, List.set_cons_zero, List.set_cons_succ]
                      refine wpAnyH_take (i := 1) (v := ?_) rfl (by kernel_rfl) (by kernel_rfl) (by kernel_rfl) (fun _ _ _ h => h) (Or.inl ⟨by rfl, ?_⟩) hSS ?_
                      rotate_left
                      · intro wz hSz
                        go_simp
                        try with_reducible rfl
                      simp only [List.getElem_toArray, List.getElem_cons_zero, List.getElem_cons_succ, Act.put, List.setIfInBounds_toArray, List.set_cons_zero, List.set_cons_succ]
                      refine wpAnyH_take (i := 2) (v := ?_) rfl (by kernel_rfl) (by kernel_rfl) (by kernel_rfl) (fun _ _ _ h => h) (Or.inl ⟨by rfl, ?_⟩) hSS ?_
                      rotate_left
                      · intro wz hSz
                        go_simp
                        try with_reducible rfl
                      simp only [List.getElem_toArray, List.getElem_cons_zero, List.getElem_cons_succ, Act.put, List.setIfInBounds_toArray, List.set_cons_zero, List.set_cons_succ]
                      refine wpAnyH_take (i := 3) (v := ?_) rfl (by kernel_rfl) (by kernel_rfl) (by kernel_rfl) (fun _ _ _ h => h) (Or.inl ⟨by rfl, ?_⟩) hSS ?_
                      rotate_left
                      · intro wz hSz
                        go_simp
                        try with_reducible rfl
                      simp only [List.getElem_toArray, List.getElem_cons_zero, List.getElem_cons_succ, Act.put, List.setIfInBounds_toArray, List.set_cons_zero, List.set_cons_succ]
                      refine wpAnyH_take (i := 4) (v := ?_) rfl (by kernel_rfl) (by kernel_rfl) (by kernel_rfl) (fun _ _ _ h => h) (Or.inl ⟨by rfl, ?_⟩) hSS ?_
                      rotate_left
                      · intro wz hSz
                        obtain ⟨⟨p1, p2⟩, q1, q2⟩ := HST.out _ (hB14.trans (hSz.mono hB14.size))
                        go_simp
                        try with_reducible rfl
                      simp only [List.getElem_toArray, List.getElem_cons_zero, List.getElem_cons_succ, Act.put, List.setIfInBounds_toArray, List.set_cons_zero, List.set_cons_succ]
                      refine wpAnyH_take (i := 5) (v := ?_) rfl (by kernel_rfl) (by kernel_rfl) (by kernel_rfl) (fun _ _ _ h => h) (Or.inl ⟨by rfl, ?_⟩) hSS ?_
                      rotate_left
                      · intro wz hSz
                        go_simp
                        try with_reducible rfl
                      simp only [List.getElem_toArray, List.getElem_cons_zero, List.getElem_cons_succ, Act.put, List.setIfInBounds_toArray, List.set_cons_zero, List.set_cons_succ]
                      refine wpAnyH_take (i := 6) (v := ?_) rfl (by kernel_rfl) (by kernel_rfl) (by kernel_rfl) (fun _ _ _ h => h) (Or.inl ⟨by rfl, ?_⟩) hSS ?_
                      rotate_left
                      · intro wz hSz
                        go_simp
                        try with_reducible rfl
                      simp only [List.getElem_toArray, List.getElem_cons_zero, List.getElem_cons_succ, Act.put, List.setIfInBounds_toArray, List.set_cons_zero, List.set_cons_succ]
                      refine wpAnyH_take (i := 7) (v := ?_) rfl (by kernel_rfl) (by kernel_rfl) (by kernel_rfl) (fun _ _ _ h => h) (Or.inl ⟨by rfl, ?_⟩) hSS ?_
                      rotate_left
                      · intro wz hSz
                        go_simp
                        try with_reducible rfl
                      simp only [List.getElem_toArray, List.getElem_cons_zero, List.getElem_cons_succ, Act.put, List.setIfInBounds_toArray, List.set_cons_zero, List.set_cons_succ]
                      refine wpAnyH_take (i := 8) (v := ?_) rfl (by kernel_rfl) (by kernel_rfl) (by kernel_rfl) (fun _ _ _ h => h) (Or.inl ⟨by rfl, ?_⟩) hSS ?_
                      rotate_left
                      · intro wz hSz
                        go_simp
                        try with_reducible rfl
                      simp only [List.getElem_toArray, List.getElem_cons_zero, List.getElem_cons_succ, Act.put, List.setIfInBounds_toArray, List.set_cons_zero, List.set_cons_succ]
                      refine wpAnyH_take (i := 9) (v := ?_) rfl (by kernel_rfl) (by kernel_rfl) (by kernel_rfl) (fun _ _ _ h => h) (Or.inl ⟨by rfl, ?_⟩) hSS ?_
                      rotate_left
                      · intro wz hSz
                        obtain ⟨⟨p1, p2⟩, q1, q2⟩ := HST.out _ (hB14.trans (hSz.mono hB14.size))
                        go_simp
                        try with_reducible rfl
                      simp only [List.getElem_toArray, List.getElem_cons_zero, List.getElem_cons_succ, Act.put, List.setIfInBounds_toArray, List.set_cons_zero, List.set_cons_succ]
                      refine wpAnyH_take (i := 10) (v := .bool false) rfl (by kernel_rfl) (by kernel_rfl) (by kernel_rfl) (fun _ _ _ h => h) (Or.inl ⟨by rfl, ?_⟩) hSS ?_
                      · intro wz hSz
                        go_simp
                      simp only [List.getElem_toArray, List.getElem_cons_zero, List.getElem_cons_succ, Act.put, List.setIfInBounds_toArray, List.set_cons_zero, List.set_cons_succ]
                      refine wpAnyH_take (i := 11) (v := ?_) rfl (by kernel_rfl) (by kernel_rfl) (by kernel_rfl) (fun _ _ _ h => h) (Or.inl ⟨by rfl, ?_⟩) hSS ?_
                      rotate_left
                      · intro wz hSz
                        go_simp
                        try with_reducible rfl
                      simp only [List.getElem_toArray, List.getElem_cons_zero, List.getElem_cons_succ, Act.put, List.setIfInBounds_toArray, List.set_cons_zero, List.set_cons_succ]
                      refine wpAnyH_take (i := 12) (v := ?_) rfl (by kernel_rfl) (by kernel_rfl) (by kernel_rfl) (fun _ _ _ h => h) (Or.inl ⟨by rfl, ?_⟩) hSS ?_
                      rotate_left
                      · intro wz hSz
                        go_simp
                        try with_reducible rfl
                      simp only [List.getElem_toArray, List.getElem_cons_zero, List.getElem_cons_succ, Act.put, List.setIfInBounds_toArray, List.set_cons_zero, List.set_cons_succ]
                      refine wpAnyH_take (i := 13) (v := ?_) rfl (by kernel_rfl) (by kernel_rfl) (by kernel_rfl) (fun _ _ _ h => h) (Or.inl ⟨by rfl, ?_⟩) hSS ?_
                      rotate_left
                      · intro wz hSz
                        go_simp
                        try with_reducible rfl
                      simp only [List.getElem_toArray, List.getElem_cons_zero, List.getElem_cons_succ, Act.put, List.setIfInBounds_toArray, List.set_cons_zero, List.set_cons_succ]
                      refine wpAnyH_take (i := 14) (v := ?_) rfl (by kernel_rfl) (by kernel_rfl) (by kernel_rfl) (fun _ _ _ h => h) (Or.inl ⟨by rfl, ?_⟩) hSS ?_
                      rotate_left
                      · intro wz hSz
                        go_simp
                        try with_reducible rfl
                      simp only [List.getElem_toArray, List.getElem_cons_zero, List.getElem_cons_succ, Act.put, List.setIfInBounds_toArray, List.set_cons_zero, List.set_cons_succ]
                      refine wpAnyH_take (i := 15) (v := ?_) rfl (by kernel_rfl) (by kernel_rfl) (by kernel_rfl) (fun _ _ _ h => h) (Or.inl ⟨by rfl, ?_⟩) hSS ?_
                      rotate_left
                      · intro wz hSz
                        go_simp
                        try with_reducible rfl
                      simp only [List.getElem_toArray, List.getElem_cons_zero, List.getElem_cons_succ, Act.put, List.setIfInBounds_toArray, List.set_cons_zero, List.set_cons_succ]
                      refine wpAnyH_take (i := 16) (v := ?_) rfl (by kernel_rfl) (by kernel_rfl) (by kernel_rfl) (fun _ _ _ h => h) (Or.inl ⟨by rfl, ?_⟩) hSS ?_
                      rotate_left
                      · intro wz hSz
                        obtain ⟨⟨p1, p2⟩, q1, q2⟩ := HST.out _ (hB14.trans (hSz.mono hB14.size))
                        go_simp
                        try with_reducible rfl
                      simp only [List.getElem_toArray, List.getElem_cons_zero, List.getElem_cons_succ, Act.put, List.setIfInBounds_toArray, List.set_cons_zero, List.set_cons_succ]
                      refine wpAnyH_take (i := 17) (v := .bool true) rfl (by kernel_rfl) (by kernel_rfl) (by kernel_rfl) (fun _ _ _ h => h) (Or.inl ⟨by rfl, ?_⟩) hSS ?_
                      · intro wz hSz
                        go_simp
                      simp only [List.getElem_toArray, List.getElem_cons_zero, List.getElem_cons_succ, Act.put, List.setIfInBounds_toArray, List.set_cons_zero, List.set_cons_succ]
                      refine wpAnyH_take (i := 18) (v := ?_) rfl (by kernel_rfl) (by kernel_rfl) (by kernel_rfl) (fun _ _ _ h => h) (Or.inl ⟨by rfl, ?_⟩) hSS ?_
                      rotate_left
                      · intro wz hSz
                        go_simp
                        try with_reducible rfl
                      simp only [List.getElem_toArray, List.getElem_cons_zero, List.getElem_cons_succ, Act.put, List.setIfInBounds_toArray, List.set_cons_zero, List.set_cons_succ]
                      refine wpAnyH_take (i := 19) (v := ?_) rfl (by kernel_rfl) (by kernel_rfl) (by kernel_rfl) (fun _ _ _ h => h) (Or.inl ⟨by rfl, ?_⟩) hSS ?_
                      rotate_left
                      · intro wz hSz
                        go_simp
                        try with_reducible rfl
                      simp only [List.getElem_toArray, List.getElem_cons_zero, List.getElem_cons_succ, Act.put, List.setIfInBounds_toArray, List.set_cons_zero, List.set_cons_succ]
                      refine wpAnyH_take (i := 20) (v := ?_) rfl (by kernel_rfl) (by kernel_rfl) (by kernel_rfl) (fun _ _ _ h => h) (Or.inl ⟨by rfl, ?_⟩) hSS ?_
                      rotate_left
                      · intro wz hSz
                        go_simp
                        try with_reducible rfl
                      simp only [List.getElem_toArray, List.getElem_cons_zero, List.getElem_cons_succ, Act.put, List.setIfInBounds_toArray, List.set_cons_zero, List.set_cons_succ]
                      refine wpAnyH_take (i := 21) (v := ?_) rfl (by kernel_rfl) (by kernel_rfl) (by kernel_rfl) (fun _ _ _ h => h) (Or.inl ⟨by rfl, ?_⟩) hSS ?_
                      rotate_left
                      · intro wz hSz
                        go_simp
                        try with_reducible rfl
                      simp only [List.getElem_toArray, List.getElem_cons_zero, List.getElem_cons_succ, Act.put, List.setIfInBounds_toArray, List.set_cons_zero, List.set_cons_succ]
                      refine wpAnyH_take (i := 22) (v := ?_) rfl (by kernel_rfl) (by kernel_rfl) (by kernel_rfl) (fun _ _ _ h => h) (Or.inl ⟨by rfl, ?_⟩) hSS ?_
                      rotate_left
                      · intro wz hSz
                        go_simp
                        try with_reducible rfl
                      simp only [List.getElem_toArray, List.getElem_cons_zero, List.getElem_cons_succ, Act.put, List.setIfInBounds_toArray, List.set_cons_zero, List.set_cons_succ]
                      refine wpAnyH_take (i := 23) (v := ?_) rfl (by kernel_rfl) (by kernel_rfl) (by kernel_rfl) (fun _ _ _ h => h) (Or.inl ⟨by rfl, ?_⟩) hSS ?_
                      rotate_left
                      · intro wz hSz
                        obtain ⟨⟨p1, p2⟩, q1, q2⟩ := HST.out _ (hB14.trans (hSz.mono hB14.size))
                        go_simp
                        try with_reducible rfl
                      simp only [List.getElem_toArray, List.getElem_cons_zero, List.getElem_cons_succ, Act.put, List.setIfInBounds_toArray, List.set_cons_zero, List.set_cons_succ]
                      refine wpAnyH_take (i := 24) (v := .bool true) rfl (by kernel_rfl) (by kernel_rfl) (by kernel_rfl) (fun _ _ _ h => h) (Or.inl ⟨by rfl, ?_⟩) hSS ?_
                      · intro wz hSz
                        go_simp
                      simp only [List.getElem_toArray, List.getElem_cons_zero, List.getElem_cons_succ, Act.put, List.setIfInBounds_toArray, List.set_cons_zero, List.set_cons_succ]
                      refine wpAnyH_take (i := 25) (v := .bool true) rfl (by kernel_rfl) (by kernel_rfl) (by kernel_rfl) (fun _ _ _ h => h) (Or.inl ⟨by rfl, ?_⟩) hSS ?_
                      · intro wz hSz
                        go_simp
                      simp only [List.getElem_toArray, List.getElem_cons_zero, List.getElem_cons_succ, Act.put, List.setIfInBounds_toArray, List.set_cons_zero, List.set_cons_succ]
                      refine wpAnyH_take (i := 26) (v := ?_) rfl (by kernel_rfl) (by kernel_rfl) (by kernel_rfl) (fun _ _ _ h => h) (Or.inl ⟨by rfl, ?_⟩) hSS ?_
                      rotate_left
                      · intro wz hSz
                        go_simp
                        try with_reducible rfl
                      simp only [List.getElem_toArray, List.getElem_cons_zero, List.getElem_cons_succ, Act.put, List.setIfInBounds_toArray, List.set_cons_zero, List.set_cons_succ]
                      refine wpAnyH_take (i := 27) (v := ?_) rfl (by kernel_rfl) (by kernel_rfl) (by kernel_rfl) (fun _ _ _ h => h) (Or.inl ⟨by rfl, ?_⟩) hSS ?_
                      rotate_left
                      · intro wz hSz
                        go_simp
                        try with_reducible rfl
                      simp only [List.getElem_toArray, List.getElem_cons_zero, List.getElem_cons_succ, Act.put, List.setIfInBounds_toArray, List.set_cons_zero, List.set_cons_succ]
                      refine wpAnyH_take (i := 28) (v := ?_) rfl (by kernel_rfl) (by kernel_rfl) (by kernel_rfl) (fun _ _ _ h => h) (Or.inl ⟨by rfl, ?_⟩) hSS ?_
                      rotate_left
                      · intro wz hSz
                        go_simp
                        try with_reducible rfl
                      simp only [List.getElem_toArray, List.getElem_cons_zero, List.getElem_cons_succ, Act.put, List.setIfInBounds_toArray, List.set_cons_zero, List.set_cons_succ]
                      refine wpAnyH_take (i := 29) (v := ?_) rfl (by kernel_rfl) (by kernel_rfl) (by kernel_rfl) (fun _ _ _ h => h) (Or.inl ⟨by rfl, ?_⟩) hSS ?_
                      rotate_left
                      · intro wz hSz
                        go_simp
                        try with_reducible rfl
                      simp only [List.getElem_toArray, List.getElem_cons_zero, List.getElem_cons_succ, Act.put, List.setIfInBounds_toArray, List.set_cons_zero, List.set_cons_succ]
                      refine wpAnyH_take (i := 30) (v := ?_) rfl (by kernel_rfl) (by kernel_rfl) (by kernel_rfl) (fun _ _ _ h => h) (Or.inl ⟨by rfl, ?_⟩) hSS ?_
                      rotate_left
                      · intro wz hSz
                        go_simp
                        try with_reducible rfl
                      simp only [List.getElem_toArray, List.getElem_cons_zero, List.getElem_cons_succ, Act.put, List.setIfInBounds_toArray, List.set_cons_zero, List.set_cons_succ]
                      refine wpAnyH_take (i := 31) (v := ?_) rfl (by kernel_rfl) (by kernel_rfl) (by kernel_rfl) (fun _ _ _ h => h) (Or.inl ⟨by rfl, ?_⟩) hSS ?_
                      rotate_left
                      · intro wz hSz
                        obtain ⟨⟨p1, p2⟩, q1, q2⟩ := HST.out _ (hB14.trans (hSz.mono hB14.size))
                        go_simp
                        try with_reducible rfl
                      simp only [List.getElem_toArray, List.getElem_cons_zero, List.getElem_cons_succ, Act.put, List.setIfInBounds_toArray, List.set_cons_zero, List.set_cons_succ]
                      refine wpAnyH_take (i := 32) (v := .bool (leadB s t)) rfl (by kernel_rfl) (by kernel_rfl) (by kernel_rfl) (fun _ _ _ h => h) (Or.inl ⟨by rfl, ?_⟩) hSS ?_
                      · intro wz hSz
                        go_simp
                      simp only [List.getElem_toArray, List.getElem_cons_zero, List.getElem_cons_succ, Act.put, List.setIfInBounds_toArray, List.set_cons_zero, List.set_cons_succ]
                      refine wpAnyH_take (i := 33) (v := .bool (leadB s t)) rfl (by kernel_rfl) (by kernel_rfl) (by kernel_rfl) (fun _ _ _ h => h) (Or.inl ⟨by rfl, ?_⟩) hSS ?_
                      · intro wz hSz
                        go_simp
                      simp only [List.getElem_toArray, List.getElem_cons_zero, List.getElem_cons_succ, Act.put, List.setIfInBounds_toArray, List.set_cons_zero, List.set_cons_succ]
                      refine wpAnyH_take (i := 34) (v := .bool (leadB s t)) rfl (by kernel_rfl) (by kernel_rfl) (by kernel_rfl) (fun _ _ _ h => h) (Or.inl ⟨by rfl, ?_⟩) hSS ?_
                      · intro wz hSz
                        go_simp
                      simp only [List.getElem_toArray, List.getElem_cons_zero, List.getElem_cons_succ, Act.put, List.setIfInBounds_toArray, List.set_cons_zero, List.set_cons_succ]
                      refine wpAnyH_take (i := 35) (v := .bool (leadB s t)) rfl (by kernel_rfl) (by kernel_rfl) (by kernel_rfl) (fun _ _ _ h => h) (Or.inl ⟨by rfl, ?_⟩) hSS ?_
                      · intro wz hSz
                        go_simp
                      simp only [List.getElem_toArray, List.getElem_cons_zero, List.getElem_cons_succ, Act.put, List.setIfInBounds_toArray, List.set_cons_zero, List.set_cons_succ]
                      refine wpAnyH_done (by kernel_rfl) ?_ _
                      clear hk1 hk2 hk3 hk2t
                      go_wp2_with fail
                      go_meet
                      exact ⟨by rw [hld], hSS⟩
                    · have hld : leadB s t = false := by unfold leadB; simp [hk1, hk3]
                      have hk2t : t.key.toList = [] := by rw [← hk1, hk2, ByteArray.toList_eq]; rfl
                      refine wp_region_held_drew (S := fun W => Below W14.heap.size W14 W) (by kernel_rfl) (Below.refl _ _).drew (fun hSS => ?_)
                      refine wpAnyH_take (i := 0) (v := ?_) rfl (by kernel_rfl) (by kernel_rfl) (by kernel_rfl) (fun _ _ _ h => h) (Or.inl ⟨by rfl, ?_⟩) hSS ?_
                      rotate_left
                      · intro wz hSz
                        go_simp
                        try with_reducible rfl
                      simp only [List.getElem_toArray, List.getElem_cons_zero, Act.put, List.setIfInBounds_toArray, List.set_cons_zero, List.set_cons_succ]
                      refine wpAnyH_take (i := 1) (v := ?_) rfl (by kernel_rfl) (by kernel_rfl) (by kernel_rfl) (fun _ _ _ h => h) (Or.inl ⟨by rfl, ?_⟩) hSS ?_
                      rotate_left
                      · intro wz hSz
                        go_simp
                        try with_reducible rfl
                      simp only [List.getElem_toArray, List.getElem_cons_zero, List.getElem_cons_succ, Act.put, List.setIfInBounds_toArray, List.set_cons_zero, List.set_cons_succ]
                      refine wpAnyH_take (i := 2) (v := ?_) rfl (by kernel_rfl) (by kernel_rfl) (by kernel_rfl) (fun _ _ _ h => h) (Or.inl ⟨by rfl, ?_⟩) hSS ?_
                      rotate_left
                      · intro wz hSz
                        go_simp
                        try with_reducible rfl
                      simp only [List.getElem_toArray, List.getElem_cons_zero, List.getElem_cons_succ, Act.put, List.setIfInBounds_toArray, List.set_cons_zero, List.set_cons_succ]
                      refine wpAnyH_take (i := 3) (v := ?_) rfl (by kernel_rfl) (by kernel_rfl) (by kernel_rfl) (fun _ _ _ h => h) (Or.inl ⟨by rfl, ?_⟩) hSS ?_
                      rotate_left
                      · intro wz hSz
                        go_simp
                        try with_reducible rfl
                      simp only [List.getElem_toArray, List.getElem_cons_zero, List.getElem_cons_succ, Act.put, List.setIfInBounds_toArray, List.set_cons_zero, List.set_cons_succ]
                      refine wpAnyH_take (i := 4) (v := ?_) rfl (by kernel_rfl) (by kernel_rfl) (by kernel_rfl) (fun _ _ _ h => h) (Or.inl ⟨by rfl, ?_⟩) hSS ?_
                      rotate_left
                      · intro wz hSz
                        obtain ⟨⟨p1, p2⟩, q1, q2⟩ := HST.out _ (hB14.trans (hSz.mono hB14.size))
                        go_simp
                        try with_reducible rfl
                      simp only [List.getElem_toArray, List.getElem_cons_zero, List.getElem_cons_succ, Act.put, List.setIfInBounds_toArray, List.set_cons_zero, List.set_cons_succ]
                      refine wpAnyH_take (i := 5) (v := ?_) rfl (by kernel_rfl) (by kernel_rfl) (by kernel_rfl) (fun _ _ _ h => h) (Or.inl ⟨by rfl, ?_⟩) hSS ?_
                      rotate_left
                      · intro wz hSz
                        go_simp
                        try with_reducible rfl
                      simp only [List.getElem_toArray, List.getElem_cons_zero, List.getElem_cons_succ, Act.put, List.setIfInBounds_toArray, List.set_cons_zero, List.set_cons_succ]
                      refine wpAnyH_take (i := 6) (v := ?_) rfl (by kernel_rfl) (by kernel_rfl) (by kernel_rfl) (fun _ _ _ h => h) (Or.inl ⟨by rfl, ?_⟩) hSS ?_
                      rotate_left
                      · intro wz hSz
                        go_simp
                        try with_reducible rfl
                      simp only [List.getElem_toArray, List.getElem_cons_zero, List.getElem_cons_succ, Act.put, List.setIfInBounds_toArray, List.set_cons_zero, List.set_cons_succ]
                      refine wpAnyH_take (i := 7) (v := ?_) rfl (by kernel_rfl) (by kernel_rfl) (by kernel_rfl) (fun _ _ _ h => h) (Or.inl ⟨by rfl, ?_⟩) hSS ?_
                      rotate_left
                      · intro wz hSz
                        go_simp
                        try with_reducible rfl
                      simp only [List.getElem_toArray, List.getElem_cons_zero, List.getElem_cons_succ, Act.put, List.setIfInBounds_toArray, List.set_cons_zero, List.set_cons_succ]
                      refine wpAnyH_take (i := 8) (v := ?_) rfl (by kernel_rfl) (by kernel_rfl) (by kernel_rfl) (fun _ _ _ h => h) (Or.inl ⟨by rfl, ?_⟩) hSS ?_
                      rotate_left
                      · intro wz hSz
                        go_simp
                        try with_reducible rfl
                      simp only [List.getElem_toArray, List.getElem_cons_zero, List.getElem_cons_succ, Act.put, List.setIfInBounds_toArray, List.set_cons_zero, List.set_cons_succ]
                      refine wpAnyH_take (i := 9) (v := ?_) rfl (by kernel_rfl) (by kernel_rfl) (by kernel_rfl) (fun _ _ _ h => h) (Or.inl ⟨by rfl, ?_⟩) hSS ?_
                      rotate_left
                      · intro wz hSz
                        obtain ⟨⟨p1, p2⟩, q1, q2⟩ := HST.out _ (hB14.trans (hSz.mono hB14.size))
                        go_simp
                        try with_reducible rfl
                      simp only [List.getElem_toArray, List.getElem_cons_zero, List.getElem_cons_succ, Act.put, List.setIfInBounds_toArray, List.set_cons_zero, List.set_cons_succ]
                      refine wpAnyH_take (i := 10) (v := .bool false) rfl (by kernel_rfl) (by kernel_rfl) (by kernel_rfl) (fun _ _ _ h => h) (Or.inl ⟨by rfl, ?_⟩) hSS ?_
                      · intro wz hSz
                        go_simp
                      simp only [List.getElem_toArray, List.getElem_cons_zero, List.getElem_cons_succ, Act.put, List.setIfInBounds_toArray, List.set_cons_zero, List.set_cons_succ]
                      refine wpAnyH_take (i := 11) (v := ?_) rfl (by kernel_rfl) (by kernel_rfl) (by kernel_rfl) (fun _ _ _ h => h) (Or.inl ⟨by rfl, ?_⟩) hSS ?_
                      rotate_left
                      · intro wz hSz
                        go_simp
                        try with_reducible rfl
                      simp only [List.getElem_toArray, List.getElem_cons_zero, List.getElem_cons_succ, Act.put, List.setIfInBounds_toArray, List.set_cons_zero, List.set_cons_succ]
                      refine wpAnyH_take (i := 12) (v := ?_) rfl (by kernel_rfl) (by kernel_rfl) (by kernel_rfl) (fun _ _ _ h => h) (Or.inl ⟨by rfl, ?_⟩) hSS ?_
                      rotate_left
                      · intro wz hSz
                        go_simp
                        try with_reducible rfl
                      simp only [List.getElem_toArray, List.getElem_cons_zero, List.getElem_cons_succ, Act.put, List.setIfInBounds_toArray, List.set_cons_zero, List.set_cons_succ]
                      refine wpAnyH_take (i := 13) (v := ?_) rfl (by kernel_rfl) (by kernel_rfl) (by kernel_rfl) (fun _ _ _ h => h) (Or.inl ⟨by rfl, ?_⟩) hSS ?_
                      rotate_left
                      · intro wz hSz
                        go_simp
                        try with_reducible rfl
                      simp only [List.getElem_toArray, List.getElem_cons_zero, List.getElem_cons_succ, Act.put, List.setIfInBounds_toArray, List.set_cons_zero, List.set_cons_succ]
                      refine wpAnyH_take (i := 14) (v := ?_) rfl (by kernel_rfl) (by kernel_rfl) (by kernel_rfl) (fun _ _ _ h => h) (Or.inl ⟨by rfl, ?_⟩) hSS ?_
                      rotate_left
                      · intro wz hSz
                        go_simp
                        try with_reducible rfl
                      simp only [List.getElem_toArray, List.getElem_cons_zero, List.getElem_cons_succ, Act.put, List.setIfInBounds_toArray, List.set_cons_zero, List.set_cons_succ]
                      refine wpAnyH_take (i := 15) (v := ?_) rfl (by kernel_rfl) (by kernel_rfl) (by kernel_rfl) (fun _ _ _ h => h) (Or.inl ⟨by rfl, ?_⟩) hSS ?_
                      rotate_left
                      · intro wz hSz
                        go_simp
                        try with_reducible rfl
                      simp only [List.getElem_toArray, List.getElem_cons_zero, List.getElem_cons_succ, Act.put, List.setIfInBounds_toArray, List.set_cons_zero, List.set_cons_succ]
                      refine wpAnyH_take (i := 16) (v := ?_) rfl (by kernel_rfl) (by kernel_rfl) (by kernel_rfl) (fun _ _ _ h => h) (Or.inl ⟨by rfl, ?_⟩) hSS ?_
                      rotate_left
                      · intro wz hSz
                        obtain ⟨⟨p1, p2⟩, q1, q2⟩ := HST.out _ (hB14.trans (hSz.mono hB14.size))
                        go_simp
                        try with_reducible rfl
                      simp only [List.getElem_toArray, List.getElem_cons_zero, List.getElem_cons_succ, Act.put, List.setIfInBounds_toArray, List.set_cons_zero, List.set_cons_succ]
                      refine wpAnyH_take (i := 17) (v := .bool true) rfl (by kernel_rfl) (by kernel_rfl) (by kernel_rfl) (fun _ _ _ h => h) (Or.inl ⟨by rfl, ?_⟩) hSS ?_
                      · intro wz hSz
                        go_simp
                      simp only [List.getElem_toArray, List.getElem_cons_zero, List.getElem_cons_succ, Act.put, List.setIfInBounds_toArray, List.set_cons_zero, List.set_cons_succ]
                      refine wpAnyH_take (i := 18) (v := ?_) rfl (by kernel_rfl) (by kernel_rfl) (by kernel_rfl) (fun _ _ _ h => h) (Or.inl ⟨by rfl, ?_⟩) hSS ?_
                      rotate_left
                      · intro wz hSz
                        go_simp
                        try with_reducible rfl
                      simp only [List.getElem_toArray, List.getElem_cons_zero, List.getElem_cons_succ, Act.put, List.setIfInBounds_toArray, List.set_cons_zero, List.set_cons_succ]
                      refine wpAnyH_take (i := 19) (v := ?_) rfl (by kernel_rfl) (by kernel_rfl) (by kernel_rfl) (fun _ _ _ h => h) (Or.inl ⟨by rfl, ?_⟩) hSS ?_
                      rotate_left
                      · intro wz hSz
                        go_simp
                        try with_reducible rfl
                      simp only [List.getElem_toArray, List.getElem_cons_zero, List.getElem_cons_succ, Act.put, List.setIfInBounds_toArray, List.set_cons_zero, List.set_cons_succ]
                      refine wpAnyH_take (i := 20) (v := ?_) rfl (by kernel_rfl) (by kernel_rfl) (by kernel_rfl) (fun _ _ _ h => h) (Or.inl ⟨by rfl, ?_⟩) hSS ?_
                      rotate_left
                      · intro wz hSz
                        go_simp
                        try with_reducible rfl
                      simp only [List.getElem_toArray, List.getElem_cons_zero, List.getElem_cons_succ, Act.put, List.setIfInBounds_toArray, List.set_cons_zero, List.set_cons_succ]
                      refine wpAnyH_take (i := 21) (v := ?_) rfl (by kernel_rfl) (by kernel_rfl) (by kernel_rfl) (fun _ _ _ h => h) (Or.inl ⟨by rfl, ?_⟩) hSS ?_
                      rotate_left
                      · intro wz hSz
                        go_simp
                        try with_reducible rfl
                      simp only [List.getElem_toArray, List.getElem_cons_zero, List.getElem_cons_succ, Act.put, List.setIfInBounds_toArray, List.set_cons_zero, List.set_cons_succ]
                      refine wpAnyH_take (i := 22) (v := ?_) rfl (by kernel_rfl) (by kernel_rfl) (by kernel_rfl) (fun _ _ _ h => h) (Or.inl ⟨by rfl, ?_⟩) hSS ?_
                      rotate_left
                      · intro wz hSz
                        go_simp
                        try with_reducible rfl
                      simp only [List.getElem_toArray, List.getElem_cons_zero, List.getElem_cons_succ, Act.put, List.setIfInBounds_toArray, List.set_cons_zero, List.set_cons_succ]
                      refine wpAnyH_take (i := 23) (v := ?_) rfl (by kernel_rfl) (by kernel_rfl) (by kernel_rfl) (fun _ _ _ h => h) (Or.inl ⟨by rfl, ?_⟩) hSS ?_
                      rotate_left
                      · intro wz hSz
                        obtain ⟨⟨p1, p2⟩, q1, q2⟩ := HST.out _ (hB14.trans (hSz.mono hB14.size))
                        go_simp
                        try with_reducible rfl
                      simp only [List.getElem_toArray, List.getElem_cons_zero, List.getElem_cons_succ, Act.put, List.setIfInBounds_toArray, List.set_cons_zero, List.set_cons_succ]
                      refine wpAnyH_take (i := 24) (v := .bool false) rfl (by kernel_rfl) (by kernel_rfl) (by kernel_rfl) (fun _ _ _ h => h) (Or.inl ⟨by rfl, ?_⟩) hSS ?_
                      · intro wz hSz
                        go_simp
                      simp only [List.getElem_toArray, List.getElem_cons_zero, List.getElem_cons_succ, Act.put, List.setIfInBounds_toArray, List.set_cons_zero, List.set_cons_succ]
                      refine wpAnyH_take (i := 25) (v := .bool false) rfl (by kernel_rfl) (by kernel_rfl) (by kernel_rfl) (fun _ _ _ h => h) (Or.inl ⟨by rfl, ?_⟩) hSS ?_
                      · intro wz hSz
                        go_simp
                      simp only [List.getElem_toArray, List.getElem_cons_zero, List.getElem_cons_succ, Act.put, List.setIfInBounds_toArray, List.set_cons_zero, List.set_cons_succ]
                      refine wpAnyH_take (i := 26) (v := ?_) rfl (by kernel_rfl) (by kernel_rfl) (by kernel_rfl) (fun _ _ _ h => h) (Or.inl ⟨by rfl, ?_⟩) hSS ?_
                      rotate_left
                      · intro wz hSz
                        go_simp
                        try with_reducible rfl
                      simp only [List.getElem_toArray, List.getElem_cons_zero, List.getElem_cons_succ, Act.put, List.setIfInBounds_toArray, List.set_cons_zero, List.set_cons_succ]
                      refine wpAnyH_take (i := 27) (v := undef) rfl (by kernel_rfl) (by kernel_rfl) (by kernel_rfl) (fun _ _ _ h => h) (Or.inr ⟨by rfl, rfl⟩) hSS ?_
                      simp only [List.getElem_toArray, List.getElem_cons_zero, List.getElem_cons_succ, Act.put, List.setIfInBounds_toArray, List.set_cons_zero, List.set_cons_succ]
                      refine wpAnyH_take (i := 28) (v := undef) rfl (by kernel_rfl) (by kernel_rfl) (by kernel_rfl) (fun _ _ _ h => h) (Or.inr ⟨by rfl, rfl⟩) hSS ?_
                      simp only [List.getElem_toArray, List.getElem_cons_zero, List.getElem_cons_succ, Act.put, List.setIfInBounds_toArray, List.set_cons_zero, List.set_cons_succ]
                      refine wpAnyH_take (i := 29) (v := undef) rfl (by kernel_rfl) (by kernel_rfl) (by kernel_rfl) (fun _ _ _ h => h) (Or.inr ⟨by rfl, rfl⟩) hSS ?_
                      simp only [List.getElem_toArray, List.getElem_cons_zero, List.getElem_cons_succ, Act.put, List.setIfInBounds_toArray, List.set_cons_zero, List.set_cons_succ]
                      refine wpAnyH_take (i := 30) (v := undef) rfl (by kernel_rfl) (by kernel_rfl) (by kernel_rfl) (fun _ _ _ h => h) (Or.inr ⟨by rfl, rfl⟩) hSS ?_
                      simp only [List.getElem_toArray, List.getElem_cons_zero, List.getElem_cons_succ, Act.put, List.setIfInBounds_toArray, List.set_cons_zero, List.set_cons_succ]
                      refine wpAnyH_take (i := 31) (v := undef) rfl (by kernel_rfl) (by kernel_rfl) (by kernel_rfl) (fun _ _ _ h => h) (Or.inr ⟨by rfl, rfl⟩) hSS ?_
                      simp only [List.getElem_toArray, List.getElem_cons_zero, List.getElem_cons_succ, Act.put, List.setIfInBounds_toArray, List.set_cons_zero, List.set_cons_succ]
                      refine wpAnyH_take (i := 32) (v := undef) rfl (by kernel_rfl) (by kernel_rfl) (by kernel_rfl) (fun _ _ _ h => h) (Or.inr ⟨by rfl, rfl⟩) hSS ?_
                      simp only [List.getElem_toArray, List.getElem_cons_zero, List.getElem_cons_succ, Act.put, List.setIfInBounds_toArray, List.set_cons_zero, List.set_cons_succ]
                      refine wpAnyH_take (i := 33) (v := .bool false) rfl (by kernel_rfl) (by kernel_rfl) (by kernel_rfl) (fun _ _ _ h => h) (Or.inl ⟨by rfl, ?_⟩) hSS ?_
                      · intro wz hSz
                        go_simp
                      simp only [List.getElem_toArray, List.getElem_cons_zero, List.getElem_cons_succ, Act.put, List.setIfInBounds_toArray, List.set_cons_zero, List.set_cons_succ]
                      refine wpAnyH_take (i := 34) (v := .bool false) rfl (by kernel_rfl) (by kernel_rfl) (by kernel_rfl) (fun _ _ _ h => h) (Or.inl ⟨by rfl, ?_⟩) hSS ?_
                      · intro wz hSz
                        go_simp
                      simp only [List.getElem_toArray, List.getElem_cons_zero, List.getElem_cons_succ, Act.put, List.setIfInBounds_toArray, List.set_cons_zero, List.set_cons_succ]
                      refine wpAnyH_take (i := 35) (v := .bool false) rfl (by kernel_rfl) (by kernel_rfl) (by kernel_rfl) (fun _ _ _ h => h) (Or.inl ⟨by rfl, ?_⟩) hSS ?_
                      · intro wz hSz
                        go_simp
                      simp only [List.getElem_toArray, List.getElem_cons_zero, List.getElem_cons_succ, Act.put, List.setIfInBounds_toArray, List.set_cons_zero, List.set_cons_succ]
                      refine wpAnyH_done (by kernel_rfl) ?_ _
                      clear hk1 hk2 hk3 hk2t
                      go_wp2_with fail
                      go_meet
                      exact ⟨by rw [hld], hSS⟩
                  · have hld : leadB s t = false := by unfold leadB; simp [hk1, hk1 ▸ hk2]
                    have hk2t : ¬ t.key.toList = [] := fun e => hk2 (by rw [hk1]; exact toList_nil (by rw [e]; rfl))
                    refine wp_region_held_drew (S := fun W => Below W14.heap.size W14 W) (by kernel_rfl) (Below.refl _ _).drew (fun hSS => ?_)
                    refine wpAnyH_take (i := 0) (v := ?_) rfl (by kernel_rfl) (by kernel_rfl) (by kernel_rfl) (fun _ _ _ h => h) (Or.inl ⟨by rfl, ?_⟩) hSS ?_
                    rotate_left
                    · intro wz hSz
                      go_simp
                      try with_reducible rfl
                    simp only [List.getElem_toArray, List.getElem_cons_zero, Act.put, List.setIfInBounds_toArray, List.set_cons_zero, List.set_cons_succ]
                    refine wpAnyH_take (i := 1) (v := ?_) rfl (by kernel_rfl) (by kernel_rfl) (by kernel_rfl) (fun _ _ _ h => h) (Or.inl ⟨by rfl, ?_⟩) hSS ?_
                    rotate_left
                    · intro wz hSz
                      go_simp
                      try with_reducible rfl
                    simp only [List.getElem_toArray, List.getElem_cons_zero, List.getElem_cons_succ, Act.put, List.setIfInBounds_toArray, List.set_cons_zero, List.set_cons_succ]
                    refine wpAnyH_take (i := 2) (v := ?_) rfl (by kernel_rfl) (by kernel_rfl) (by kernel_rfl) (fun _ _ _ h => h) (Or.inl ⟨by rfl, ?_⟩) hSS ?_
                    rotate_left
                    · intro wz hSz
                      go_simp
                      try with_reducible rfl
                    simp only [List.getElem_toArray, List.getElem_cons_zero, List.getElem_cons_succ, Act.put, List.setIfInBounds_toArray, List.set_cons_zero, List.set_cons_succ]
                    refine wpAnyH_take (i := 3) (v := ?_) rfl (by kernel_rfl) (by kernel_rfl) (by kernel_rfl) (fun _ _ _ h => h) (Or.inl ⟨by rfl, ?_⟩) hSS ?_
                    rotate_left
                    · intro wz hSz
                      go_simp
                      try with_reducible rfl
                    simp only [List.getElem_toArray, List.getElem_cons_zero, List.getElem_cons_succ, Act.put, List.setIfInBounds_toArray, List.set_cons_zero, List.set_cons_succ]
                    refine wpAnyH_take (i := 4) (v := ?_) rfl (by kernel_rfl) (by kernel_rfl) (by kernel_rfl) (fun _ _ _ h => h) (Or.inl ⟨by rfl, ?_⟩) hSS ?_
                    rotate_left
                    · intro wz hSz
                      obtain ⟨⟨p1, p2⟩, q1, q2⟩ := HST.out _ (hB14.trans (hSz.mono hB14.size))
                      go_simp
                      try with_reducible rfl
                    simp only [List.getElem_toArray, List.getElem_cons_zero, List.getElem_cons_succ, Act.put, List.setIfInBounds_toArray, List.set_cons_zero, List.set_cons_succ]
                    refine wpAnyH_take (i := 5) (v := ?_) rfl (by kernel_rfl) (by kernel_rfl) (by kernel_rfl) (fun _ _ _ h => h) (Or.inl ⟨by rfl, ?_⟩) hSS ?_
                    rotate_left
                    · intro wz hSz
                      go_simp
                      try with_reducible rfl
                    simp only [List.getElem_toArray, List.getElem_cons_zero, List.getElem_cons_succ, Act.put, List.setIfInBounds_toArray, List.set_cons_zero, List.set_cons_succ]
                    refine wpAnyH_take (i := 6) (v := ?_) rfl (by kernel_rfl) (by kernel_rfl) (by kernel_rfl) (fun _ _ _ h => h) (Or.inl ⟨by rfl, ?_⟩) hSS ?_
                    rotate_left
                    · intro wz hSz
                      go_simp
                      try with_reducible rfl
                    simp only [List.getElem_toArray, List.getElem_cons_zero, List.getElem_cons_succ, Act.put, List.setIfInBounds_toArray, List.set_cons_zero, List.set_cons_succ]
                    refine wpAnyH_take (i := 7) (v := ?_) rfl (by kernel_rfl) (by kernel_rfl) (by kernel_rfl) (fun _ _ _ h => h) (Or.inl ⟨by rfl, ?_⟩) hSS ?_
                    rotate_left
                    · intro wz hSz
                      go_simp
                      try with_reducible rfl
                    simp only [List.getElem_toArray, List.getElem_cons_zero, List.getElem_cons_succ, Act.put, List.setIfInBounds_toArray, List.set_cons_zero, List.set_cons_succ]
                    refine wpAnyH_take (i := 8) (v := ?_) rfl (by kernel_rfl) (by kernel_rfl) (by kernel_rfl) (fun _ _ _ h => h) (Or.inl ⟨by rfl, ?_⟩) hSS ?_
                    rotate_left
                    · intro wz hSz
                      go_simp
                      try with_reducible rfl
                    simp only [List.getElem_toArray, List.getElem_cons_zero, List.getElem_cons_succ, Act.put, List.setIfInBounds_toArray, List.set_cons_zero, List.set_cons_succ]
                    refine wpAnyH_take (i := 9) (v := ?_) rfl (by kernel_rfl) (by kernel_rfl) (by kernel_rfl) (fun _ _ _ h => h) (Or.inl ⟨by rfl, ?_⟩) hSS ?_
                    rotate_left
                    · intro wz hSz
                      obtain ⟨⟨p1, p2⟩, q1, q2⟩ := HST.out _ (hB14.trans (hSz.mono hB14.size))
                      go_simp
                      try with_reducible rfl
                    simp only [List.getElem_toArray, List.getElem_cons_zero, List.getElem_cons_succ, Act.put, List.setIfInBounds_toArray, List.set_cons_zero, List.set_cons_succ]
                    refine wpAnyH_take (i := 10) (v := .bool false) rfl (by kernel_rfl) (by kernel_rfl) (by kernel_rfl) (fun _ _ _ h => h) (Or.inl ⟨by rfl, ?_⟩) hSS ?_
                    · intro wz hSz
                      go_simp
                    simp only [List.getElem_toArray, List.getElem_cons_zero, List.getElem_cons_succ, Act.put, List.setIfInBounds_toArray, List.set_cons_zero, List.set_cons_succ]
                    refine wpAnyH_take (i := 11) (v := ?_) rfl (by kernel_rfl) (by kernel_rfl) (by kernel_rfl) (fun _ _ _ h => h) (Or.inl ⟨by rfl, ?_⟩) hSS ?_
                    rotate_left
                    · intro wz hSz
                      go_simp
                      try with_reducible rfl
                    simp only [List.getElem_toArray, List.getElem_cons_zero, List.getElem_cons_succ, Act.put, List.setIfInBounds_toArray, List.set_cons_zero, List.set_cons_succ]
                    refine wpAnyH_take (i := 12) (v := ?_) rfl (by kernel_rfl) (by kernel_rfl) (by kernel_rfl) (fun _ _ _ h => h) (Or.inl ⟨by rfl, ?_⟩) hSS ?_
                    rotate_left
                    · intro wz hSz
                      go_simp
                      try with_reducible rfl
                    simp only [List.getElem_toArray, List.getElem_cons_zero, List.getElem_cons_succ, Act.put, List.setIfInBounds_toArray, List.set_cons_zero, List.set_cons_succ]
                    refine wpAnyH_take (i := 13) (v := ?_) rfl (by kernel_rfl) (by kernel_rfl) (by kernel_rfl) (fun _ _ _ h => h) (Or.inl ⟨by rfl, ?_⟩) hSS ?_
                    rotate_left
                    · intro wz hSz
                      go_simp
                      try with_reducible rfl
                    simp only [List.getElem_toArray, List.getElem_cons_zero, List.getElem_cons_succ, Act.put, List.setIfInBounds_toArray, List.set_cons_zero, List.set_cons_succ]
                    refine wpAnyH_take (i := 14) (v := ?_) rfl (by kernel_rfl) (by kernel_rfl) (by kernel_rfl) (fun _ _ _ h => h) (Or.inl ⟨by rfl, ?_⟩) hSS ?_
                    rotate_left
                    · intro wz hSz
                      go_simp
                      try with_reducible rfl
                    simp only [List.getElem_toArray, List.getElem_cons_zero, List.getElem_cons_succ, Act.put, List.setIfInBounds_toArray, List.set_cons_zero, List.set_cons_succ]
                    refine wpAnyH_take (i := 15) (v := ?_) rfl (by kernel_rfl) (by kernel_rfl) (by kernel_rfl) (fun _ _ _ h => h) (Or.inl ⟨by rfl, ?_⟩) hSS ?_
                    rotate_left
                    · intro wz hSz
                      go_simp
                      try with_reducible rfl
                    simp only [List.getElem_toArray, List.getElem_cons_zero, List.getElem_cons_succ, Act.put, List.setIfInBounds_toArray, List.set_cons_zero, List.set_cons_succ]
                    refine wpAnyH_take (i := 16) (v := ?_) rfl (by kernel_rfl) (by kernel_rfl) (by kernel_rfl) (fun _ _ _ h => h) (Or.inl ⟨by rfl, ?_⟩) hSS ?_
                    rotate_left
                    · intro wz hSz
                      obtain ⟨⟨p1, p2⟩, q1, q2⟩ := HST.out _ (hB14.trans (hSz.mono hB14.size))
                      go_simp
                      try with_reducible rfl
                    simp only [List.getElem_toArray, List.getElem_cons_zero, List.getElem_cons_succ, Act.put, List.setIfInBounds_toArray, List.set_cons_zero, List.set_cons_succ]
                    refine wpAnyH_take (i := 17) (v := .bool false) rfl (by kernel_rfl) (by kernel_rfl) (by kernel_rfl) (fun _ _ _ h => h) (Or.inl ⟨by rfl, ?_⟩) hSS ?_
                    · intro wz hSz
                      go_simp
                    simp only [List.getElem_toArray, List.getElem_cons_zero, List.getElem_cons_succ, Act.put, List.setIfInBounds_toArray, List.set_cons_zero, List.set_cons_succ]
                    refine wpAnyH_take (i := 18) (v := ?_) rfl (by kernel_rfl) (by kernel_rfl) (by kernel_rfl) (fun _ _ _ h => h) (Or.inl ⟨by rfl, ?_⟩) hSS ?_
                    rotate_left
                    · intro wz hSz
                      go_simp
                      try with_reducible rfl
                    simp only [List.getElem_toArray, List.getElem_cons_zero, List.getElem_cons_succ, Act.put, List.setIfInBounds_toArray, List.set_cons_zero, List.set_cons_succ]
                    refine wpAnyH_take (i := 19) (v := undef) rfl (by kernel_rfl) (by kernel_rfl) (by kernel_rfl) (fun _ _ _ h => h) (Or.inr ⟨by rfl, rfl⟩) hSS ?_
                    simp only [List.getElem_toArray, List.getElem_cons_zero, List.getElem_cons_succ, Act.put, List.setIfInBounds_toArray, List.set_cons_zero, List.set_cons_succ]
                    refine wpAnyH_take (i := 20) (v := undef) rfl (by kernel_rfl) (by kernel_rfl) (by kernel_rfl) (fun _ _ _ h => h) (Or.inr ⟨by rfl, rfl⟩) hSS ?_
                    simp only [List.getElem_toArray, List.getElem_cons_zero, List.getElem_cons_succ, Act.put, List.setIfInBounds_toArray, List.set_cons_zero, List.set_cons_succ]
                    refine wpAnyH_take (i := 21) (v := undef) rfl (by kernel_rfl) (by kernel_rfl) (by kernel_rfl) (fun _ _ _ h => h) (Or.inr ⟨by rfl, rfl⟩) hSS ?_
                    simp only [List.getElem_toArray, List.getElem_cons_zero, List.getElem_cons_succ, Act.put, List.setIfInBounds_toArray, List.set_cons_zero, List.set_cons_succ]
                    refine wpAnyH_take (i := 22) (v := undef) rfl (by kernel_rfl) (by kernel_rfl) (by kernel_rfl) (fun _ _ _ h => h) (Or.inr ⟨by rfl, rfl⟩) hSS ?_
                    simp only [List.getElem_toArray, List.getElem_cons_zero, List.getElem_cons_succ, Act.put, List.setIfInBounds_toArray, List.set_cons_zero, List.set_cons_succ]
                    refine wpAnyH_take (i := 23) (v := undef) rfl (by kernel_rfl) (by kernel_rfl) (by kernel_rfl) (fun _ _ _ h => h) (Or.inr ⟨by rfl, rfl⟩) hSS ?_
                    simp only [List.getElem_toArray, List.getElem_cons_zero, List.getElem_cons_succ, Act.put, List.setIfInBounds_toArray, List.set_cons_zero, List.set_cons_succ]
                    refine wpAnyH_take (i := 24) (v := undef) rfl (by kernel_rfl) (by kernel_rfl) (by kernel_rfl) (fun _ _ _ h => h) (Or.inr ⟨by rfl, rfl⟩) hSS ?_
                    simp only [List.getElem_toArray, List.getElem_cons_zero, List.getElem_cons_succ, Act.put, List.setIfInBounds_toArray, List.set_cons_zero, List.set_cons_succ]
                    refine wpAnyH_take (i := 25) (v := .bool false) rfl (by kernel_rfl) (by kernel_rfl) (by kernel_rfl) (fun _ _ _ h => h) (Or.inl ⟨by rfl, ?_⟩) hSS ?_
                    · intro wz hSz
                      go_simp
                    simp only [List.getElem_toArray, List.getElem_cons_zero, List.getElem_cons_succ, Act.put, List.setIfInBounds_toArray, List.set_cons_zero, List.set_cons_succ]
                    refine wpAnyH_take (i := 26) (v := ?_) rfl (by kernel_rfl) (by kernel_rfl) (by kernel_rfl) (fun _ _ _ h => h) (Or.inl ⟨by rfl, ?_⟩) hSS ?_
                    rotate_left
                    · intro wz hSz
                      go_simp
                      try with_reducible rfl
                    simp only [List.getElem_toArray, List.getElem_cons_zero, List.getElem_cons_succ, Act.put, List.setIfInBounds_toArray, List.set_cons_zero, List.set_cons_succ]
                    refine wpAnyH_take (i := 27) (v := undef) rfl (by kernel_rfl) (by kernel_rfl) (by kernel_rfl) (fun _ _ _ h => h) (Or.inr ⟨by rfl, rfl⟩) hSS ?_
                    simp only [List.getElem_toArray, List.getElem_cons_zero, List.getElem_cons_succ, Act.put, List.setIfInBounds_toArray, List.set_cons_zero, List.set_cons_succ]
                    refine wpAnyH_take (i := 28) (v := undef) rfl (by kernel_rfl) (by kernel_rfl) (by kernel_rfl) (fun _ _ _ h => h) (Or.inr ⟨by rfl, rfl⟩) hSS ?_
                    simp only [List.getElem_toArray, List.getElem_cons_zero, List.getElem_cons_succ, Act.put, List.setIfInBounds_toArray, List.set_cons_zero, List.set_cons_succ]
                    refine wpAnyH_take (i := 29) (v := undef) rfl (by kernel_rfl) (by kernel_rfl) (by kernel_rfl) (fun _ _ _ h => h) (Or.inr ⟨by rfl, rfl⟩) hSS ?_
                    simp only [List.getElem_toArray, List.getElem_cons_zero, List.getElem_cons_succ, Act.put, List.setIfInBounds_toArray, List.set_cons_zero, List.set_cons_succ]
                    refine wpAnyH_take (i := 30) (v := undef) rfl (by kernel_rfl) (by kernel_rfl) (by kernel_rfl) (fun _ _ _ h => h) (Or.inr ⟨by rfl, rfl⟩) hSS ?_
                    simp only [List.getElem_toArray, List.getElem_cons_zero, List.getElem_cons_succ, Act.put, List.setIfInBounds_toArray, List.set_cons_zero, List.set_cons_succ]
                    refine wpAnyH_take (i := 31) (v := undef) rfl (by kernel_rfl) (by kernel_rfl) (by kernel_rfl) (fun _ _ _ h => h) (Or.inr ⟨by rfl, rfl⟩) hSS ?_
                    simp only [List.getElem_toArray, List.getElem_cons_zero, List.getElem_cons_succ, Act.put, List.setIfInBounds_toArray, List.set_cons_zero, List.set_cons_succ]
                    refine wpAnyH_take (i := 32) (v := undef) rfl (by kernel_rfl) (by kernel_rfl) (by kernel_rfl) (fun _ _ _ h => h) (Or.inr ⟨by rfl, rfl⟩) hSS ?_
                    simp only [List.getElem_toArray, List.getElem_cons_zero, List.getElem_cons_succ, Act.put, List.setIfInBounds_toArray, List.set_cons_zero, List.set_cons_succ]
                    refine wpAnyH_take (i := 33) (v := .bool false) rfl (by kernel_rfl) (by kernel_rfl) (by kernel_rfl) (fun _ _ _ h => h) (Or.inl ⟨by rfl, ?_⟩) hSS ?_
                    · intro wz hSz
                      go_simp
                    simp only [List.getElem_toArray, List.getElem_cons_zero, List.getElem_cons_succ, Act.put, List.setIfInBounds_toArray, List.set_cons_zero, List.set_cons_succ]
                    refine wpAnyH_take (i := 34) (v := .bool false) rfl (by kernel_rfl) (by kernel_rfl) (by kernel_rfl) (fun _ _ _ h => h) (Or.inl ⟨by rfl, ?_⟩) hSS ?_
                    · intro wz hSz
                      go_simp
                    simp only [List.getElem_toArray, List.getElem_cons_zero, List.getElem_cons_succ, Act.put, List.setIfInBounds_toArray, List.set_cons_zero, List.set_cons_succ]
                    refine wpAnyH_take (i := 35) (v := .bool false) rfl (by kernel_rfl) (by kernel_rfl) (by kernel_rfl) (fun _ _ _ h => h) (Or.inl ⟨by rfl, ?_⟩) hSS ?_
                    · intro wz hSz
                      go_simp
                    simp only [List.getElem_toArray, List.getElem_cons_zero, List.getElem_cons_succ, Act.put, List.setIfInBounds_toArray, List.set_cons_zero, List.set_cons_succ]
                    refine wpAnyH_done (by kernel_rfl) ?_ _
                    clear hk1 hk2 hk2t
                    go_wp2_with fail
                    go_meet
                    exact ⟨by rw [hld], hSS⟩
                · have hld : leadB s t = true := by unfold leadB; simp [hk1]
                  have hk1t : ¬ s.key.toList = t.key.toList := fun e => hk1 (Go.WideShapes.bytes_inj (by rw [← ByteArray.toList_eq, ← ByteArray.toList_eq]; exact e))
                  refine wp_region_held_drew (S := fun W => Below W14.heap.size W14 W) (by kernel_rfl) (Below.refl _ _).drew (fun hSS => ?_)
                  refine wpAnyH_take (i := 0) (v := ?_) rfl (by kernel_rfl) (by kernel_rfl) (by kernel_rfl) (fun _ _ _ h => h) (Or.inl ⟨by rfl, ?_⟩) hSS ?_
                  rotate_left
                  · intro wz hSz
                    go_simp
                    try with_reducible rfl
                  simp only [List.getElem_toArray, List.getElem_cons_zero, Act.put, List.setIfInBounds_toArray, List.set_cons_zero, List.set_cons_succ]
                  refine wpAnyH_take (i := 1) (v := ?_) rfl (by kernel_rfl) (by kernel_rfl) (by kernel_rfl) (fun _ _ _ h => h) (Or.inl ⟨by rfl, ?_⟩) hSS ?_
                  rotate_left
                  · intro wz hSz
                    go_simp
                    try with_reducible rfl
                  simp only [List.getElem_toArray, List.getElem_cons_zero, List.getElem_cons_succ, Act.put, List.setIfInBounds_toArray, List.set_cons_zero, List.set_cons_succ]
                  refine wpAnyH_take (i := 2) (v := ?_) rfl (by kernel_rfl) (by kernel_rfl) (by kernel_rfl) (fun _ _ _ h => h) (Or.inl ⟨by rfl, ?_⟩) hSS ?_
                  rotate_left
                  · intro wz hSz
                    go_simp
                    try with_reducible rfl
                  simp only [List.getElem_toArray, List.getElem_cons_zero, List.getElem_cons_succ, Act.put, List.setIfInBounds_toArray, List.set_cons_zero, List.set_cons_succ]
                  refine wpAnyH_take (i := 3) (v := ?_) rfl (by kernel_rfl) (by kernel_rfl) (by kernel_rfl) (fun _ _ _ h => h) (Or.inl ⟨by rfl, ?_⟩) hSS ?_
                  rotate_left
                  · intro wz hSz
                    go_simp
                    try with_reducible rfl
                  simp only [List.getElem_toArray, List.getElem_cons_zero, List.getElem_cons_succ, Act.put, List.setIfInBounds_toArray, List.set_cons_zero, List.set_cons_succ]
                  refine wpAnyH_take (i := 4) (v := ?_) rfl (by kernel_rfl) (by kernel_rfl) (by kernel_rfl) (fun _ _ _ h => h) (Or.inl ⟨by rfl, ?_⟩) hSS ?_
                  rotate_left
                  · intro wz hSz
                    obtain ⟨⟨p1, p2⟩, q1, q2⟩ := HST.out _ (hB14.trans (hSz.mono hB14.size))
                    go_simp
                    try with_reducible rfl
                  simp only [List.getElem_toArray, List.getElem_cons_zero, List.getElem_cons_succ, Act.put, List.setIfInBounds_toArray, List.set_cons_zero, List.set_cons_succ]
                  refine wpAnyH_take (i := 5) (v := ?_) rfl (by kernel_rfl) (by kernel_rfl) (by kernel_rfl) (fun _ _ _ h => h) (Or.inl ⟨by rfl, ?_⟩) hSS ?_
                  rotate_left
                  · intro wz hSz
                    go_simp
                    try with_reducible rfl
                  simp only [List.getElem_toArray, List.getElem_cons_zero, List.getElem_cons_succ, Act.put, List.setIfInBounds_toArray, List.set_cons_zero, List.set_cons_succ]
                  refine wpAnyH_take (i := 6) (v := ?_) rfl (by kernel_rfl) (by kernel_rfl) (by kernel_rfl) (fun _ _ _ h => h) (Or.inl ⟨by rfl, ?_⟩) hSS ?_
                  rotate_left
                  · intro wz hSz
                    go_simp
                    try with_reducible rfl
                  simp only [List.getElem_toArray, List.getElem_cons_zero, List.getElem_cons_succ, Act.put, List.setIfInBounds_toArray, List.set_cons_zero, List.set_cons_succ]
                  refine wpAnyH_take (i := 7) (v := ?_) rfl (by kernel_rfl) (by kernel_rfl) (by kernel_rfl) (fun _ _ _ h => h) (Or.inl ⟨by rfl, ?_⟩) hSS ?_
                  rotate_left
                  · intro wz hSz
                    go_simp
                    try with_reducible rfl
                  simp only [List.getElem_toArray, List.getElem_cons_zero, List.getElem_cons_succ, Act.put, List.setIfInBounds_toArray, List.set_cons_zero, List.set_cons_succ]
                  refine wpAnyH_take (i := 8) (v := ?_) rfl (by kernel_rfl) (by kernel_rfl) (by kernel_rfl) (fun _ _ _ h => h) (Or.inl ⟨by rfl, ?_⟩) hSS ?_
                  rotate_left
                  · intro wz hSz
                    go_simp
                    try with_reducible rfl
                  simp only [List.getElem_toArray, List.getElem_cons_zero, List.getElem_cons_succ, Act.put, List.setIfInBounds_toArray, List.set_cons_zero, List.set_cons_succ]
                  refine wpAnyH_take (i := 9) (v := ?_) rfl (by kernel_rfl) (by kernel_rfl) (by kernel_rfl) (fun _ _ _ h => h) (Or.inl ⟨by rfl, ?_⟩) hSS ?_
                  rotate_left
                  · intro wz hSz
                    obtain ⟨⟨p1, p2⟩, q1, q2⟩ := HST.out _ (hB14.trans (hSz.mono hB14.size))
                    go_simp
                    try with_reducible rfl
                  simp only [List.getElem_toArray, List.getElem_cons_zero, List.getElem_cons_succ, Act.put, List.setIfInBounds_toArray, List.set_cons_zero, List.set_cons_succ]
                  refine wpAnyH_take (i := 10) (v := .bool true) rfl (by kernel_rfl) (by kernel_rfl) (by kernel_rfl) (fun _ _ _ h => h) (Or.inl ⟨by rfl, ?_⟩) hSS ?_
                  · intro wz hSz
                    go_simp
                  simp only [List.getElem_toArray, List.getElem_cons_zero, List.getElem_cons_succ, Act.put, List.setIfInBounds_toArray, List.set_cons_zero, List.set_cons_succ]
                  refine wpAnyH_take (i := 11) (v := ?_) rfl (by kernel_rfl) (by kernel_rfl) (by kernel_rfl) (fun _ _ _ h => h) (Or.inl ⟨by rfl, ?_⟩) hSS ?_
                  rotate_left
                  · intro wz hSz
                    go_simp
                    try with_reducible rfl
                  simp only [List.getElem_toArray, List.getElem_cons_zero, List.getElem_cons_succ, Act.put, List.setIfInBounds_toArray, List.set_cons_zero, List.set_cons_succ]
                  refine wpAnyH_take (i := 12) (v := undef) rfl (by kernel_rfl) (by kernel_rfl) (by kernel_rfl) (fun _ _ _ h => h) (Or.inr ⟨by rfl, rfl⟩) hSS ?_
                  simp only [List.getElem_toArray, List.getElem_cons_zero, List.getElem_cons_succ, Act.put, List.setIfInBounds_toArray, List.set_cons_zero, List.set_cons_succ]
                  refine wpAnyH_take (i := 13) (v := undef) rfl (by kernel_rfl) (by kernel_rfl) (by kernel_rfl) (fun _ _ _ h => h) (Or.inr ⟨by rfl, rfl⟩) hSS ?_
                  simp only [List.getElem_toArray, List.getElem_cons_zero, List.getElem_cons_succ, Act.put, List.setIfInBounds_toArray, List.set_cons_zero, List.set_cons_succ]
                  refine wpAnyH_take (i := 14) (v := undef) rfl (by kernel_rfl) (by kernel_rfl) (by kernel_rfl) (fun _ _ _ h => h) (Or.inr ⟨by rfl, rfl⟩) hSS ?_
                  simp only [List.getElem_toArray, List.getElem_cons_zero, List.getElem_cons_succ, Act.put, List.setIfInBounds_toArray, List.set_cons_zero, List.set_cons_succ]
                  refine wpAnyH_take (i := 15) (v := undef) rfl (by kernel_rfl) (by kernel_rfl) (by kernel_rfl) (fun _ _ _ h => h) (Or.inr ⟨by rfl, rfl⟩) hSS ?_
                  simp only [List.getElem_toArray, List.getElem_cons_zero, List.getElem_cons_succ, Act.put, List.setIfInBounds_toArray, List.set_cons_zero, List.set_cons_succ]
                  refine wpAnyH_take (i := 16) (v := undef) rfl (by kernel_rfl) (by kernel_rfl) (by kernel_rfl) (fun _ _ _ h => h) (Or.inr ⟨by rfl, rfl⟩) hSS ?_
                  simp only [List.getElem_toArray, List.getElem_cons_zero, List.getElem_cons_succ, Act.put, List.setIfInBounds_toArray, List.set_cons_zero, List.set_cons_succ]
                  refine wpAnyH_take (i := 17) (v := undef) rfl (by kernel_rfl) (by kernel_rfl) (by kernel_rfl) (fun _ _ _ h => h) (Or.inr ⟨by rfl, rfl⟩) hSS ?_
                  simp only [List.getElem_toArray, List.getElem_cons_zero, List.getElem_cons_succ, Act.put, List.setIfInBounds_toArray, List.set_cons_zero, List.set_cons_succ]
                  refine wpAnyH_take (i := 18) (v := undef) rfl (by kernel_rfl) (by kernel_rfl) (by kernel_rfl) (fun _ _ _ h => h) (Or.inr ⟨by rfl, rfl⟩) hSS ?_
                  simp only [List.getElem_toArray, List.getElem_cons_zero, List.getElem_cons_succ, Act.put, List.setIfInBounds_toArray, List.set_cons_zero, List.set_cons_succ]
                  refine wpAnyH_take (i := 19) (v := undef) rfl (by kernel_rfl) (by kernel_rfl) (by kernel_rfl) (fun _ _ _ h => h) (Or.inr ⟨by rfl, rfl⟩) hSS ?_
                  simp only [List.getElem_toArray, List.getElem_cons_zero, List.getElem_cons_succ, Act.put, List.setIfInBounds_toArray, List.set_cons_zero, List.set_cons_succ]
                  refine wpAnyH_take (i := 20) (v := undef) rfl (by kernel_rfl) (by kernel_rfl) (by kernel_rfl) (fun _ _ _ h => h) (Or.inr ⟨by rfl, rfl⟩) hSS ?_
                  simp only [List.getElem_toArray, List.getElem_cons_zero, List.getElem_cons_succ, Act.put, List.setIfInBounds_toArray, List.set_cons_zero, List.set_cons_succ]
                  refine wpAnyH_take (i := 21) (v := undef) rfl (by kernel_rfl) (by kernel_rfl) (by kernel_rfl) (fun _ _ _ h => h) (Or.inr ⟨by rfl, rfl⟩) hSS ?_
                  simp only [List.getElem_toArray, List.getElem_cons_zero, List.getElem_cons_succ, Act.put, List.setIfInBounds_toArray, List.set_cons_zero, List.set_cons_succ]
                  refine wpAnyH_take (i := 22) (v := undef) rfl (by kernel_rfl) (by kernel_rfl) (by kernel_rfl) (fun _ _ _ h => h) (Or.inr ⟨by rfl, rfl⟩) hSS ?_
                  simp only [List.getElem_toArray, List.getElem_cons_zero, List.getElem_cons_succ, Act.put, List.setIfInBounds_toArray, List.set_cons_zero, List.set_cons_succ]
                  refine wpAnyH_take (i := 23) (v := undef) rfl (by kernel_rfl) (by kernel_rfl) (by kernel_rfl) (fun _ _ _ h => h) (Or.inr ⟨by rfl, rfl⟩) hSS ?_
                  simp only [List.getElem_toArray, List.getElem_cons_zero, List.getElem_cons_succ, Act.put, List.setIfInBounds_toArray, List.set_cons_zero, List.set_cons_succ]
                  refine wpAnyH_take (i := 24) (v := undef) rfl (by kernel_rfl) (by kernel_rfl) (by kernel_rfl) (fun _ _ _ h => h) (Or.inr ⟨by rfl, rfl⟩) hSS ?_
                  simp only [List.getElem_toArray, List.getElem_cons_zero, List.getElem_cons_succ, Act.put, List.setIfInBounds_toArray, List.set_cons_zero, List.set_cons_succ]
                  refine wpAnyH_take (i := 25) (v := undef) rfl (by kernel_rfl) (by kernel_rfl) (by kernel_rfl) (fun _ _ _ h => h) (Or.inr ⟨by rfl, rfl⟩) hSS ?_
                  simp only [List.getElem_toArray, List.getElem_cons_zero, List.getElem_cons_succ, Act.put, List.setIfInBounds_toArray, List.set_cons_zero, List.set_cons_succ]
                  refine wpAnyH_take (i := 26) (v := undef) rfl (by kernel_rfl) (by kernel_rfl) (by kernel_rfl) (fun _ _ _ h => h) (Or.inr ⟨by rfl, rfl⟩) hSS ?_
                  simp only [List.getElem_toArray, List.getElem_cons_zero, List.getElem_cons_succ, Act.put, List.setIfInBounds_toArray, List.set_cons_zero, List.set_cons_succ]
                  refine wpAnyH_take (i := 27) (v := undef) rfl (by kernel_rfl) (by kernel_rfl) (by kernel_rfl) (fun _ _ _ h => h) (Or.inr ⟨by rfl, rfl⟩) hSS ?_
                  simp only [List.getElem_toArray, List.getElem_cons_zero, List.getElem_cons_succ, Act.put, List.setIfInBounds_toArray, List.set_cons_zero, List.set_cons_succ]
                  refine wpAnyH_take (i := 28) (v := undef) rfl (by kernel_rfl) (by kernel_rfl) (by kernel_rfl) (fun _ _ _ h => h) (Or.inr ⟨by rfl, rfl⟩) hSS ?_
                  simp only [List.getElem_toArray, List.getElem_cons_zero, List.getElem_cons_succ, Act.put, List.setIfInBounds_toArray, List.set_cons_zero, List.set_cons_succ]
                  refine wpAnyH_take (i := 29) (v := undef) rfl (by kernel_rfl) (by kernel_rfl) (by kernel_rfl) (fun _ _ _ h => h) (Or.inr ⟨by rfl, rfl⟩) hSS ?_
                  simp only [List.getElem_toArray, List.getElem_cons_zero, List.getElem_cons_succ, Act.put, List.setIfInBounds_toArray, List.set_cons_zero, List.set_cons_succ]
                  refine wpAnyH_take (i := 30) (v := undef) rfl (by kernel_rfl) (by kernel_rfl) (by kernel_rfl) (fun _ _ _ h => h) (Or.inr ⟨by rfl, rfl⟩) hSS ?_
                  simp only [List.getElem_toArray, List.getElem_cons_zero, List.getElem_cons_succ, Act.put, List.setIfInBounds_toArray, List.set_cons_zero, List.set_cons_succ]
                  refine wpAnyH_take (i := 31) (v := undef) rfl (by kernel_rfl) (by kernel_rfl) (by kernel_rfl) (fun _ _ _ h => h) (Or.inr ⟨by rfl, rfl⟩) hSS ?_
                  simp only [List.getElem_toArray, List.getElem_cons_zero, List.getElem_cons_succ, Act.put, List.setIfInBounds_toArray, List.set_cons_zero, List.set_cons_succ]
                  refine wpAnyH_take (i := 32) (v := undef) rfl (by kernel_rfl) (by kernel_rfl) (by kernel_rfl) (fun _ _ _ h => h) (Or.inr ⟨by rfl, rfl⟩) hSS ?_
                  simp only [List.getElem_toArray, List.getElem_cons_zero, List.getElem_cons_succ, Act.put, List.setIfInBounds_toArray, List.set_cons_zero, List.set_cons_succ]
                  refine wpAnyH_take (i := 33) (v := undef) rfl (by kernel_rfl) (by kernel_rfl) (by kernel_rfl) (fun _ _ _ h => h) (Or.inr ⟨by rfl, rfl⟩) hSS ?_
                  simp only [List.getElem_toArray, List.getElem_cons_zero, List.getElem_cons_succ, Act.put, List.setIfInBounds_toArray, List.set_cons_zero, List.set_cons_succ]
                  refine wpAnyH_take (i := 34) (v := .bool true) rfl (by kernel_rfl) (by kernel_rfl) (by kernel_rfl) (fun _ _ _ h => h) (Or.inl ⟨by rfl, ?_⟩) hSS ?_
                  · intro wz hSz
                    go_simp
                  simp only [List.getElem_toArray, List.getElem_cons_zero, List.getElem_cons_succ, Act.put, List.setIfInBounds_toArray, List.set_cons_zero, List.set_cons_succ]
                  refine wpAnyH_take (i := 35) (v := .bool true) rfl (by kernel_rfl) (by kernel_rfl) (by kernel_rfl) (fun _ _ _ h => h) (Or.inl ⟨by rfl, ?_⟩) hSS ?_
                  · intro wz hSz
                    go_simp
                  simp only [List.getElem_toArray, List.getElem_cons_zero, List.getElem_cons_succ, Act.put, List.setIfInBounds_toArray, List.set_cons_zero, List.set_cons_succ]
                  refine wpAnyH_done (by kernel_rfl) ?_ _
                  clear hk1 hk1t
                  go_wp2_with fail
                  go_meet
                  exact ⟨by rw [hld], hSS⟩
              case rest =>
                obtain ⟨rfl, hb16⟩ := hcut
                have c16 := cell_of_row _ _ 0 _ _ _ ((hb16.block _ (Array.getElem?_eq_some_iff.1 hc15).1).trans hc15)
                have c18 := cell_of_row _ _ 0 _ _ _ ((hb16.block _ (Array.getElem?_eq_some_iff.1 hc14).1).trans hc14)
                have hr16 := hr15.stays hb16
                have hr18 := hr14.stays hb16
                have hB16 := hB14.trans (hb16.mono hB14.size)
                clear hr14 hr15 hc14 hc15 hB14 hb16 HST
                cases hL : leadB s t
                · clear HP3 HSG hr16 hr18
                  go_wp2_with fail
                  go_ret
                  exact ⟨rfl, hB16⟩
                · have HP4 := HP3.out hL
                  clear HP3
                  by_cases he : (x.goTo m).2 = 0
                  · have hzz := HP4 he
                    have he2 : (z.goTo m).2 = 0 := by rw [hzz, he]
                    rw [hzz] at hr18
                    clear HP4 hzz
                    go_wp2_with fail
                    refine (HSG.out _ g3 g4 hr16 hr18).mono ?_
                    rintro e w19 ⟨rfl, hb19⟩
                    go_wp2_with fail
                    go_ret
                    exact ⟨rfl, hB16.trans (hb19.mono hB16.size)⟩
                  · have he' : ((x.goTo m).2 == 0) = false := by simpa using he
                    clear HP4 HSG hr16 hr18
                    go_wp2_with fail
                    go_ret
                    exact ⟨rfl, hB16⟩
            · have hst := hEE.1 hE
              have HTK2 : Hid (l.take (k + 1) = m.take (k + 1)) := HTK.out hst
              have hst3 : s.key.toList = t.key.toList := by rw [hst]
              have hst4 : s.at_ = t.at_ := by rw [hst]
              clear HPA2 HTK hEE CGM HSG hst
              go_wp2_with fail
              refine wp_region_held_drew (S := fun W => Below wr.drew.heap.size wr.drew W) (by kernel_rfl) (Below.refl _ _) (fun hSS => ?_)
              refine wpAnyH_take (i := 0) (v := ?_) rfl (by kernel_rfl) (by kernel_rfl) (by kernel_rfl) (fun _ _ _ h => h) (Or.inl ⟨by rfl, ?_⟩) hSS ?_
              rotate_left
              · intro wz hSz
                go_simp
                try with_reducible rfl
              simp only [List.getElem_toArray, List.getElem_cons_zero, Act.put, List.setIfInBounds_toArray, List.set_cons_zero, List.set_cons_succ]
              refine wpAnyH_take (i := 1) (v := ?_) rfl (by kernel_rfl) (by kernel_rfl) (by kernel_rfl) (fun _ _ _ h => h) (Or.inl ⟨by rfl, ?_⟩) hSS ?_
              rotate_left
              · intro wz hSz
                go_simp
                try with_reducible rfl
              simp only [List.getElem_toArray, List.getElem_cons_zero, List.getElem_cons_succ, Act.put, List.setIfInBounds_toArray, List.set_cons_zero, List.set_cons_succ]
              refine wpAnyH_take (i := 2) (v := ?_) rfl (by kernel_rfl) (by kernel_rfl) (by kernel_rfl) (fun _ _ _ h => h) (Or.inl ⟨by rfl, ?_⟩) hSS ?_
              rotate_left
              · intro wz hSz
                go_simp
                try with_reducible rfl
              simp only [List.getElem_toArray, List.getElem_cons_zero, List.getElem_cons_succ, Act.put, List.setIfInBounds_toArray, List.set_cons_zero, List.set_cons_succ]
              refine wpAnyH_take (i := 3) (v := ?_) rfl (by kernel_rfl) (by kernel_rfl) (by kernel_rfl) (fun _ _ _ h => h) (Or.inl ⟨by rfl, ?_⟩) hSS ?_
              rotate_left
              · intro wz hSz
                obtain ⟨⟨p1, p2⟩, q1, q2⟩ := HST.out _ (hPd.2.2.2.2.2.2.trans (hSz.mono hPd.2.2.2.2.2.2.size))
                go_simp
                try with_reducible rfl
              simp only [List.getElem_toArray, List.getElem_cons_zero, List.getElem_cons_succ, Act.put, List.setIfInBounds_toArray, List.set_cons_zero, List.set_cons_succ]
              refine wpAnyH_take (i := 4) (v := ?_) rfl (by kernel_rfl) (by kernel_rfl) (by kernel_rfl) (fun _ _ _ h => h) (Or.inl ⟨by rfl, ?_⟩) hSS ?_
              rotate_left
              · intro wz hSz
                go_simp
                try with_reducible rfl
              simp only [List.getElem_toArray, List.getElem_cons_zero, List.getElem_cons_succ, Act.put, List.setIfInBounds_toArray, List.set_cons_zero, List.set_cons_succ]
              refine wpAnyH_take (i := 5) (v := ?_) rfl (by kernel_rfl) (by kernel_rfl) (by kernel_rfl) (fun _ _ _ h => h) (Or.inl ⟨by rfl, ?_⟩) hSS ?_
              rotate_left
              · intro wz hSz
                go_simp
                try with_reducible rfl
              simp only [List.getElem_toArray, List.getElem_cons_zero, List.getElem_cons_succ, Act.put, List.setIfInBounds_toArray, List.set_cons_zero, List.set_cons_succ]
              refine wpAnyH_take (i := 6) (v := ?_) rfl (by kernel_rfl) (by kernel_rfl) (by kernel_rfl) (fun _ _ _ h => h) (Or.inl ⟨by rfl, ?_⟩) hSS ?_
              rotate_left
              · intro wz hSz
                go_simp
                try with_reducible rfl
              simp only [List.getElem_toArray, List.getElem_cons_zero, List.getElem_cons_succ, Act.put, List.setIfInBounds_toArray, List.set_cons_zero, List.set_cons_succ]
              refine wpAnyH_take (i := 7) (v := ?_) rfl (by kernel_rfl) (by kernel_rfl) (by kernel_rfl) (fun _ _ _ h => h) (Or.inl ⟨by rfl, ?_⟩) hSS ?_
              rotate_left
              · intro wz hSz
                obtain ⟨⟨p1, p2⟩, q1, q2⟩ := HST.out _ (hPd.2.2.2.2.2.2.trans (hSz.mono hPd.2.2.2.2.2.2.size))
                go_simp
                try with_reducible rfl
              simp only [List.getElem_toArray, List.getElem_cons_zero, List.getElem_cons_succ, Act.put, List.setIfInBounds_toArray, List.set_cons_zero, List.set_cons_succ]
              refine wpAnyH_take (i := 8) (v := .bool true) rfl (by kernel_rfl) (by kernel_rfl) (by kernel_rfl) (fun _ _ _ h => h) (Or.inl ⟨by rfl, ?_⟩) hSS ?_
              · intro wz hSz
                have qq := eql_step wz s t; rw [hE] at qq
                go_simp
              simp only [List.getElem_toArray, List.getElem_cons_zero, List.getElem_cons_succ, Act.put, List.setIfInBounds_toArray, List.set_cons_zero, List.set_cons_succ]
              clear hst3 hst4
              refine wpAnyH_done (by kernel_rfl) ?_ _
              go_wp2_with fail
              go_roundw
              case rel => exact ⟨k + 1, by omega, by omega, by go_num, hPd, HTK2⟩
              case measure => simp [intOf]; omega
          · clear CGM HPA HSG HSL HSM
            go_wp2_with fail
            go_ret
            exact ⟨rfl, hP.2.2.2.2.2.2⟩
        · clear CGM HPA HSG HSL HSM
          go_wp2_with fail
          go_ret
          exact ⟨rfl, hP.2.2.2.2.2.2⟩
end Go.Proofs.Ytheabeapmhoclaa
