/- ValueMakes, walked: of any value, and any key, it answers true. Condition: a value of at most 1048576 values and letters. -/
import Derived.Test.YtnoioafgbofbnaaVClean
import Derived.Test.YtnoioafgbofbnaaVUnlike
import Derived.Test.YtnoioafgbofbnaaVGreat
import Derived.Test.YtnoioafgbofbnaaVAwake
namespace Go.Proofs.Ytnoioafgbofbnaa
open Go.RowKit Go.Maps Go.WideMaps

set_option maxRecDepth 100000 in
/-- A step of a region that draws its order, behind a guard. -/
theorem step_wanted {ops : Array Oper} {o : Oper} {a : Act} {w : World} {K : Act → World → Prop} {Q : Exit → Act → World → Prop} {E : Prop} (hw : Region.wanted o (yielded ops a.tmps) = true) (h : Oper.wp Try.prog o a w K Q) :
    if Region.wanted o (yielded ops a.tmps) = true then Oper.wp Try.prog o a w K Q else E := by
  rw [if_pos hw]
  exact h
set_option maxRecDepth 100000 in
theorem find_hasK (v : V) (key : ByteArray) : decide (0 ≤ v.find key) = v.hasK key := by
  unfold V.find
  cases h : v.hasK key
  · simp
  · simp
set_option maxRecDepth 100000 in
set_option maxHeartbeats 6400000 in
theorem makes_walk {w : World} {ok : Nat → Prop} {v : V} {p : VP} (h : VIn w ok v p) (hbk : v.bulk ≤ 1048576) (key : ByteArray) (hkm : key.size ≤ maxLen) :
    Calls Try.prog 3 #[v.val p, .string key] w fun e w' => e = .returned (.bool true) ∧ Below w.heap.size w w' := by
  have C1 : Hid (∀ W, Below w.heap.size w W → Calls Try.prog 8 #[v.val p] W fun e w' => (∃ g : Int, e = .returned (.int .i64 g)) ∧ Below W.heap.size W w') := fun W hW => great_v h W hW hbk
  have CA : Hid (∀ W, Calls Try.prog 9 #[] W fun e w' => e = .returned (.bool true) ∧ Below W.heap.size W w') := awake4_any
  have CC : Hid (∀ W, Below w.heap.size w W → Calls Try.prog 10 #[v.val p] W fun e w' => ∃ p', e = .returned (v.clean.val p') ∧ VIn w' (fun b => W.heap.size ≤ b) v.clean p' ∧ Below W.heap.size W w') := fun W hW => clean_any h W hW hbk
  have hcl := clean_cl v
  have hxb : v.clean.bulk ≤ 1048576 := Nat.le_trans (clean_bulk v) hbk
  have HB : Hid (∀ wr, Below (w.heap.size + 1) (w.alloc (v.box p)) wr → wr.cell? ⟨w.heap.size, 0, none⟩ = some (.int .i64 v.k) ∧ wr.cell? ⟨w.heap.size, 1, none⟩ = some (.bool v.b) ∧ wr.cell? ⟨w.heap.size, 2, none⟩ = some (.int .i64 v.n) ∧ wr.cell? ⟨w.heap.size, 3, none⟩ = some (.int .i64 v.m) ∧ wr.cell? ⟨w.heap.size, 4, none⟩ = some (.string v.s) ∧ wr.cell? ⟨w.heap.size, 5, none⟩ = some (.slice p.la v.l.length p.lc) ∧ wr.cell? ⟨w.heap.size, 6, none⟩ = some (.slice p.ka v.keys.length p.kc)) := fun wr hb => vbox_cells hb
  clear h hbk
  generalize v.clean = x at *
  unfold V.val at C1 CC ⊢
  unfold V.box at HB
  have hb1 : Below (w.heap.size + 1) (w.alloc (.cells #[.int .i64 v.k, .bool v.b, .int .i64 v.n, .int .i64 v.m, .string v.s, .slice p.la v.l.length p.lc, .slice p.ka v.keys.length p.kc] 25)) (w.alloc (.cells #[.int .i64 v.k, .bool v.b, .int .i64 v.n, .int .i64 v.m, .string v.s, .slice p.la v.l.length p.lc, .slice p.ka v.keys.length p.kc] 25)) := Below.refl _ _
  have hbx : ∀ wr, Below (w.heap.size + 1) (w.alloc (.cells #[.int .i64 v.k, .bool v.b, .int .i64 v.n, .int .i64 v.m, .string v.s, .slice p.la v.l.length p.lc, .slice p.ka v.keys.length p.kc] 25)) wr → Below w.heap.size w wr := fun wr hb => below_box hb
  have HBx : Hid (∀ wr, Below (w.heap.size + 1) (w.alloc (.cells #[.int .i64 v.k, .bool v.b, .int .i64 v.n, .int .i64 v.m, .string v.s, .slice p.la v.l.length p.lc, .slice p.ka v.keys.length p.kc] 25)) wr → Below w.heap.size w wr) := hbx
  clear hbx
  obtain ⟨k0, k1, k2, k3, k4, k5, k6⟩ := HB.out _ hb1
  go_enter Try.func3, Try.ntmps3
  go_wp2_with fail
  refine (C1.out _ (HBx.out _ hb1)).mono ?_
  rintro e w2 ⟨⟨g, rfl⟩, hb2⟩
  replace hb2 : Below (w.heap.size + 1) (w.alloc (.cells #[.int .i64 v.k, .bool v.b, .int .i64 v.n, .int .i64 v.m, .string v.s, .slice p.la v.l.length p.lc, .slice p.ka v.keys.length p.kc] 25)) w2 := hb2.mono (by simp)
  clear k0 k1 k2 k3 k4 k5 k6 C1 hb1
  obtain ⟨k0, k1, k2, k3, k4, k5, k6⟩ := HB.out _ hb2
  by_cases hg : 0 < g
  · clear CC HB
    go_wp2_with fail
    refine (CA.out _).mono ?_
    rintro e w3 ⟨rfl, hb3⟩
    go_wp2_with fail
    go_ret
    exact ⟨rfl, HBx.out _ (hb2.trans (hb3.mono (by have := hb2.size; simpa using this)))⟩
  · go_wp2_with fail
    refine (CA.out _).mono ?_
    rintro e w3 ⟨rfl, hb3⟩
    replace hb3 : Below (w.heap.size + 1) (w.alloc (.cells #[.int .i64 v.k, .bool v.b, .int .i64 v.n, .int .i64 v.m, .string v.s, .slice p.la v.l.length p.lc, .slice p.ka v.keys.length p.kc] 25)) w3 := hb2.trans (hb3.mono (by have := hb2.size; simpa using this))
    clear k0 k1 k2 k3 k4 k5 k6 hb2
    obtain ⟨k0, k1, k2, k3, k4, k5, k6⟩ := HB.out _ hb3
    replace hb3 := HBx.out _ hb3
    clear HB HBx CA
    go_wp2_with fail
    refine (CC.out _ hb3).mono ?_
    rintro e w4 ⟨xp, rfl, hx4, hb4⟩
    replace hb4 := hb3.trans (hb4.mono hb3.size)
    clear CC hb3 k0 k1 k2 k3 k4 k5 k6
    have CT : Hid (∀ W, Below w4.heap.size w4 W → Calls Try.prog 11 #[x.val xp] W fun e w' => ∃ u, e = .returned (.agg #[u]) ∧ u.oneCell' = true ∧ Rep w' (fun b => W.heap.size ≤ b) u x ∧ Below W.heap.size W w') := fun W hW => by
      refine (to_any hx4 W hW hxb hcl).mono ?_
      rintro e w' ⟨u, rfl, h1, h2⟩
      exact ⟨u, rfl, h1.one, h1, h2⟩
    unfold V.val at CT
    have ha4 : Below w4.heap.size w4 (w4.alloc (.cells #[.int .i64 x.k, .bool x.b, .int .i64 x.n, .int .i64 x.m, .string x.s, .slice xp.la x.l.length xp.lc, .slice xp.ka x.keys.length xp.kc] 25)) := (Below.refl _ _).alloc (Nat.le_refl _) _
    have hX := heap_alloc_new w4 (.cells #[.int .i64 x.k, .bool x.b, .int .i64 x.n, .int .i64 x.m, .string x.s, .slice xp.la x.l.length xp.lc, .slice xp.ka x.keys.length xp.kc] 25)
    have q0 := cell_of_row _ _ 0 _ _ _ hX
    have q1 := cell_of_row _ _ 1 _ _ _ hX
    have q2 := cell_of_row _ _ 2 _ _ _ hX
    have q3 := cell_of_row _ _ 3 _ _ _ hX
    have q4 := cell_of_row _ _ 4 _ _ _ hX
    have q5 := cell_of_row _ _ 5 _ _ _ hX
    have q6 := cell_of_row _ _ 6 _ _ _ hX
    simp only [List.getElem?_cons_succ, List.getElem?_cons_zero, List.getElem?_toArray] at q0 q1 q2 q3 q4 q5 q6
    go_wp2_with fail
    refine (CT.out _ ha4).mono ?_
    rintro e w5 ⟨u, rfl, hone, hr5, hb5⟩
    clear q0 q1 q2 q3 q4 q5 q6 CT
    have hX5 := (hb5.block w4.heap.size (by simp)).trans hX
    have hs5 : w4.heap.size + 1 ≤ w5.heap.size := by have := hb5.size; simpa using this
    replace hb5 : Below w4.heap.size w4 w5 := ha4.trans (hb5.mono (by simp))
    have hx5 := hx4.stays hb5
    clear hX hx4 ha4
    have ha5 : Below w5.heap.size w5 (w5.alloc (.cells #[u] 30)) := (Below.refl _ _).alloc (Nat.le_refl _) _
    have st5 := store_new 30 u .nilIface hone w5
    have CAT : Hid (∀ W, Below w5.heap.size w5 W → Calls Try.prog 12 #[.agg #[u], .string key] W fun e w' => ∃ y, e = .returned (.tuple #[.agg #[y], .bool (x.hasK key)]) ∧ y.oneCell' = true ∧ Below W.heap.size W w') := fun W hW => by
      refine (at_any (hr5.stays hW) key hkm).mono ?_
      rintro e w' ⟨y, rfl, h1, h2⟩
      exact ⟨y, rfl, h1.one, h2⟩
    have hU := heap_alloc_new w5 (.cells #[u] 30)
    have r0 := cell_of_row _ _ 0 _ _ _ hU
    simp only [List.getElem?_cons_zero, List.getElem?_toArray] at r0
    obtain ⟨HK, hHK⟩ : ∃ HK, HK = x.hasK key := ⟨_, rfl⟩
    rw [← hHK] at CAT
    have HK0 : Hid (HK = x.hasK key) := hHK
    clear hHK
    go_wp2_with fail
    refine (CAT.out _ ha5).mono ?_
    rintro e w6 ⟨y, rfl, hone6, hb6⟩
    have hX6 := (hb6.block w4.heap.size (by simp; omega)).trans ((Below.heap_alloc w5 _ _ (by omega)).trans hX5)
    have hU6 := (hb6.block w5.heap.size (by simp)).trans hU
    replace hb6 : Below w5.heap.size w5 w6 := ha5.trans (hb6.mono (by simp))
    have ha6 : Below w6.heap.size w6 (w6.alloc (.cells #[y] 30)) := (Below.refl _ _).alloc (Nat.le_refl _) _
    have st6 := store_new 30 y .nilIface hone6 w6
    have hl6 := hb6.size
    have hX7 := (Below.heap_alloc w6 (.cells #[y] 30) _ (by omega)).trans hX6
    have hU7 := (Below.heap_alloc w6 (.cells #[y] 30) w5.heap.size (Array.getElem?_eq_some_iff.1 hU6).1).trans hU6
    have hb57 := hb6.trans (ha6.mono hl6)
    have hx7 := hx5.stays hb57
    have hr7 := hr5.stays hb57
    have hb7 := hb4.trans ((hb5.trans (hb57.mono (by omega))).mono hb4.size)
    clear CAT hX5 hX6 hU hU6 r0 st5 hb4 hb5 hb6 ha6 ha5 hx5 hr5 hb57 hs5 hl6
    go_upto_region 6 with fail
    obtain ⟨b5, hb5⟩ : ∃ b5, b5 = w4.heap.size := ⟨_, rfl⟩
    generalize w6.alloc (.cells #[y] 30) = W7 at *
    have hb6 := hb7
    have HBX : Hid (∀ W, Below W7.heap.size W7 W → W.cell? ⟨w5.heap.size, 0, none⟩ = some u ∧ W.cell? ⟨w4.heap.size, 0, none⟩ = some (.int .i64 x.k) ∧ W.cell? ⟨w4.heap.size, 1, none⟩ = some (.bool x.b) ∧ W.cell? ⟨w4.heap.size, 2, none⟩ = some (.int .i64 x.n) ∧ W.cell? ⟨w4.heap.size, 3, none⟩ = some (.int .i64 x.m) ∧ W.cell? ⟨w4.heap.size, 4, none⟩ = some (.string x.s) ∧ W.cell? ⟨w4.heap.size, 5, none⟩ = some (.slice xp.la x.l.length xp.lc) ∧ W.cell? ⟨w4.heap.size, 6, none⟩ = some (.slice xp.ka x.keys.length xp.kc)) := fun W hW => by
      have h1 := (hW.block _ (Array.getElem?_eq_some_iff.1 hX7).1).trans hX7
      have h2 := (hW.block _ (Array.getElem?_eq_some_iff.1 hU7).1).trans hU7
      exact ⟨cell_of_row _ _ 0 _ _ _ h2, cell_of_row _ _ 0 _ _ _ h1, cell_of_row _ _ 1 _ _ _ h1, cell_of_row _ _ 2 _ _ _ h1, cell_of_row _ _ 3 _ _ _ h1, cell_of_row _ _ 4 _ _ _ h1, cell_of_row _ _ 5 _ _ _ h1, cell_of_row _ _ 6 _ _ _ h1⟩
    have CU : Hid (∀ W, Below W7.heap.size W7 W → Calls Try.prog 13 #[.agg #[u], x.val xp] W fun e w' => e = .returned (.int .i64 0) ∧ Below W.heap.size W w') := fun W hW => unlike_any hx7 W u (fun _ => True) hW (fun _ _ => trivial) ((hr7.mono (fun _ _ _ => trivial)).stays hW) hxb hcl
    have CGD : Hid (∀ W, Below W7.heap.size W7 W → Calls Try.prog 14 #[.agg #[u]] W fun e w' => e = .returned (.int .i64 (x.deep : Nat)) ∧ Below W.heap.size W w') := fun W hW => gdeep_any (hr7.stays hW)
    have CGS : Hid (∀ W, Below W7.heap.size W7 W → Calls Try.prog 16 #[.agg #[u]] W fun e w' => e = .returned (.int .i64 (x.size : Nat)) ∧ Below W.heap.size W w') := fun W hW => gsize_any (hr7.stays hW)
    have CGR : Hid (∀ W, Below W7.heap.size W7 W → Calls Try.prog 18 #[.agg #[u]] W fun e w' => e = .returned (.bool x.right) ∧ Below W.heap.size W w') := fun W hW => gright_any (hr7.stays hW)
    have CGK : Hid (∀ W, Below W7.heap.size W7 W → Calls Try.prog 20 #[.agg #[u]] W fun e w' => e = .returned (.bool x.known) ∧ Below W.heap.size W w') := fun W hW => gknown_any (hr7.stays hW)
    have CRD : Hid (∀ W, Below W7.heap.size W7 W → Calls Try.prog 15 #[x.val xp] W fun e w' => e = .returned (.int .i64 (x.deep : Nat)) ∧ Below W.heap.size W w') := fun W hW => vdeep_any hx7 W hW hxb
    have CRS : Hid (∀ W, Below W7.heap.size W7 W → Calls Try.prog 17 #[x.val xp] W fun e w' => e = .returned (.int .i64 (x.size : Nat)) ∧ Below W.heap.size W w') := fun W hW => vsize_any hx7 W hW hxb
    have CRR : Hid (∀ W, Below W7.heap.size W7 W → Calls Try.prog 19 #[x.val xp] W fun e w' => e = .returned (.bool x.right) ∧ Below W.heap.size W w') := fun W hW => vright_any hx7 W hW hxb hcl
    have CRK : Hid (∀ W, Below W7.heap.size W7 W → Calls Try.prog 21 #[x.val xp] W fun e w' => e = .returned (.bool x.known) ∧ Below W.heap.size W w') := fun W hW => vknown_any hx7 W hW hxb
    obtain ⟨FN, hFN⟩ : ∃ FN, FN = x.find key := ⟨_, rfl⟩
    have CF : Hid (∀ W, Below W7.heap.size W7 W → Calls Try.prog 22 #[x.val xp, .string key] W fun e w' => e = .returned (.int .i64 FN) ∧ Below W.heap.size W w') := fun W hW => by rw [hFN]; exact vfind_any hx7 W hW hxb hcl key
    have HHK : Hid (decide (0 ≤ FN) = HK) := by show _ = _; rw [hFN, HK0.out]; exact find_hasK x key
    unfold V.val at CU CRD CRS CRR CRK CF
    clear hx7 hr7 hX7 hU7 hFN HK0 hb7 hxb hcl hone hone6 st6 hg hb5
    clear b5
    generalize ((x.deep : Nat) : Int) = XD at *
    generalize ((x.size : Nat) : Int) = XS at *
    generalize x.right = XR at *
    generalize x.known = XK at *
    refine wp_region_held_drew (S := fun w' => Below W7.heap.size W7 w') (by kernel_rfl) (Below.drew (Below.refl _ _)) (fun hSS => ?_)
    refine wpAnyH_take (i := 0) (v := ?_) rfl (by kernel_rfl) (by kernel_rfl) (by kernel_rfl) (fun _ _ _ h => h) (Or.inl ⟨by rfl, ?_⟩) hSS ?_
    rotate_left
    · intro wz hSz
      obtain ⟨p0, p1, p2, p3, p4, p5, p6, p7⟩ := HBX.out _ hSz
      go_simp
      try with_reducible rfl
    simp only [List.getElem_toArray, List.getElem_cons_zero, Act.put, List.setIfInBounds_toArray, List.set_cons_zero, List.set_cons_succ]
    refine wpAnyH_take (i := 1) (v := ?_) rfl (by kernel_rfl) (by kernel_rfl) (by kernel_rfl) (fun _ _ _ h => h) (Or.inl ⟨by rfl, ?_⟩) hSS ?_
    rotate_left
    · intro wz hSz
      obtain ⟨p0, p1, p2, p3, p4, p5, p6, p7⟩ := HBX.out _ hSz
      go_simp
      try with_reducible rfl
    simp only [List.getElem_toArray, List.getElem_cons_zero, List.getElem_cons_succ, Act.put, List.setIfInBounds_toArray, List.set_cons_zero, List.set_cons_succ]
    refine wpAnyH_ready (rs := [2]) (by kernel_rfl) (by simp) (AllReadyH.cons rfl (fun K1 hK1 => ?_) AllReadyH.nil)
    refine step_wanted (by rfl) ?_
    simp only [List.getElem_toArray, List.getElem_cons_zero, List.getElem_cons_succ]
    go_simp
    go_at_call 13
    refine (CU.out _ hSS).mono ?_
    rintro e w21 ⟨rfl, hbk⟩
    go_simp
    refine hK1.out _ _ (hSS.trans (hbk.mono hSS.size)) (fun hSS => ?_)
    clear hbk hK1
    refine wpAnyH_take (i := 3) (v := (.bool true)) rfl (by kernel_rfl) (by kernel_rfl) (by kernel_rfl) (fun _ _ _ h => h) (Or.inl ⟨by rfl, ?_⟩) hSS ?_
    · intro wz hSz
      go_simp
    simp only [List.getElem_toArray, List.getElem_cons_zero, List.getElem_cons_succ, Act.put, List.setIfInBounds_toArray, List.set_cons_zero, List.set_cons_succ]
    refine wpAnyH_take (i := 4) (v := (.bool true)) rfl (by kernel_rfl) (by kernel_rfl) (by kernel_rfl) (fun _ _ _ h => h) (Or.inl ⟨by rfl, ?_⟩) hSS ?_
    · intro wz hSz
      go_simp
    simp only [List.getElem_toArray, List.getElem_cons_zero, List.getElem_cons_succ, Act.put, List.setIfInBounds_toArray, List.set_cons_zero, List.set_cons_succ]
    refine wpAnyH_take (i := 5) (v := ?_) rfl (by kernel_rfl) (by kernel_rfl) (by kernel_rfl) (fun _ _ _ h => h) (Or.inl ⟨by rfl, ?_⟩) hSS ?_
    rotate_left
    · intro wz hSz
      obtain ⟨p0, p1, p2, p3, p4, p5, p6, p7⟩ := HBX.out _ hSz
      go_simp
      try with_reducible rfl
    simp only [List.getElem_toArray, List.getElem_cons_zero, List.getElem_cons_succ, Act.put, List.setIfInBounds_toArray, List.set_cons_zero, List.set_cons_succ]
    refine wpAnyH_take (i := 7) (v := ?_) rfl (by kernel_rfl) (by kernel_rfl) (by kernel_rfl) (fun _ _ _ h => h) (Or.inl ⟨by rfl, ?_⟩) hSS ?_
    rotate_left
    · intro wz hSz
      obtain ⟨p0, p1, p2, p3, p4, p5, p6, p7⟩ := HBX.out _ hSz
      go_simp
      try with_reducible rfl
    simp only [List.getElem_toArray, List.getElem_cons_zero, List.getElem_cons_succ, Act.put, List.setIfInBounds_toArray, List.set_cons_zero, List.set_cons_succ]
    refine wpAnyH_ready (rs := [6]) (by kernel_rfl) (by simp) (AllReadyH.cons rfl (fun K2 hK2 => ?_) AllReadyH.nil)
    refine step_wanted (by rfl) ?_
    simp only [List.getElem_toArray, List.getElem_cons_zero, List.getElem_cons_succ]
    go_simp
    go_at_call 14
    refine (CGD.out _ hSS).mono ?_
    rintro e w22 ⟨rfl, hbk⟩
    go_simp
    refine hK2.out _ _ (hSS.trans (hbk.mono hSS.size)) (fun hSS => ?_)
    clear hbk hK2
    refine wpAnyH_ready (rs := [8]) (by kernel_rfl) (by simp) (AllReadyH.cons rfl (fun K3 hK3 => ?_) AllReadyH.nil)
    refine step_wanted (by rfl) ?_
    simp only [List.getElem_toArray, List.getElem_cons_zero, List.getElem_cons_succ]
    go_simp
    go_at_call 15
    refine (CRD.out _ hSS).mono ?_
    rintro e w23 ⟨rfl, hbk⟩
    go_simp
    refine hK3.out _ _ (hSS.trans (hbk.mono hSS.size)) (fun hSS => ?_)
    clear hbk hK3
    refine wpAnyH_take (i := 9) (v := (.bool true)) rfl (by kernel_rfl) (by kernel_rfl) (by kernel_rfl) (fun _ _ _ h => h) (Or.inl ⟨by rfl, ?_⟩) hSS ?_
    · intro wz hSz
      go_simp
    simp only [List.getElem_toArray, List.getElem_cons_zero, List.getElem_cons_succ, Act.put, List.setIfInBounds_toArray, List.set_cons_zero, List.set_cons_succ]
    refine wpAnyH_take (i := 10) (v := (.bool true)) rfl (by kernel_rfl) (by kernel_rfl) (by kernel_rfl) (fun _ _ _ h => h) (Or.inl ⟨by rfl, ?_⟩) hSS ?_
    · intro wz hSz
      go_simp
    simp only [List.getElem_toArray, List.getElem_cons_zero, List.getElem_cons_succ, Act.put, List.setIfInBounds_toArray, List.set_cons_zero, List.set_cons_succ]
    refine wpAnyH_take (i := 11) (v := (.bool true)) rfl (by kernel_rfl) (by kernel_rfl) (by kernel_rfl) (fun _ _ _ h => h) (Or.inl ⟨by rfl, ?_⟩) hSS ?_
    · intro wz hSz
      go_simp
    simp only [List.getElem_toArray, List.getElem_cons_zero, List.getElem_cons_succ, Act.put, List.setIfInBounds_toArray, List.set_cons_zero, List.set_cons_succ]
    refine wpAnyH_take (i := 12) (v := ?_) rfl (by kernel_rfl) (by kernel_rfl) (by kernel_rfl) (fun _ _ _ h => h) (Or.inl ⟨by rfl, ?_⟩) hSS ?_
    rotate_left
    · intro wz hSz
      obtain ⟨p0, p1, p2, p3, p4, p5, p6, p7⟩ := HBX.out _ hSz
      go_simp
      try with_reducible rfl
    simp only [List.getElem_toArray, List.getElem_cons_zero, List.getElem_cons_succ, Act.put, List.setIfInBounds_toArray, List.set_cons_zero, List.set_cons_succ]
    refine wpAnyH_take (i := 14) (v := ?_) rfl (by kernel_rfl) (by kernel_rfl) (by kernel_rfl) (fun _ _ _ h => h) (Or.inl ⟨by rfl, ?_⟩) hSS ?_
    rotate_left
    · intro wz hSz
      obtain ⟨p0, p1, p2, p3, p4, p5, p6, p7⟩ := HBX.out _ hSz
      go_simp
      try with_reducible rfl
    simp only [List.getElem_toArray, List.getElem_cons_zero, List.getElem_cons_succ, Act.put, List.setIfInBounds_toArray, List.set_cons_zero, List.set_cons_succ]
    refine wpAnyH_ready (rs := [13]) (by kernel_rfl) (by simp) (AllReadyH.cons rfl (fun K4 hK4 => ?_) AllReadyH.nil)
    refine step_wanted (by rfl) ?_
    simp only [List.getElem_toArray, List.getElem_cons_zero, List.getElem_cons_succ]
    go_simp
    go_at_call 16
    refine (CGS.out _ hSS).mono ?_
    rintro e w24 ⟨rfl, hbk⟩
    go_simp
    refine hK4.out _ _ (hSS.trans (hbk.mono hSS.size)) (fun hSS => ?_)
    clear hbk hK4
    refine wpAnyH_ready (rs := [15]) (by kernel_rfl) (by simp) (AllReadyH.cons rfl (fun K5 hK5 => ?_) AllReadyH.nil)
    refine step_wanted (by rfl) ?_
    simp only [List.getElem_toArray, List.getElem_cons_zero, List.getElem_cons_succ]
    go_simp
    go_at_call 17
    refine (CRS.out _ hSS).mono ?_
    rintro e w25 ⟨rfl, hbk⟩
    go_simp
    refine hK5.out _ _ (hSS.trans (hbk.mono hSS.size)) (fun hSS => ?_)
    clear hbk hK5
    refine wpAnyH_take (i := 16) (v := (.bool true)) rfl (by kernel_rfl) (by kernel_rfl) (by kernel_rfl) (fun _ _ _ h => h) (Or.inl ⟨by rfl, ?_⟩) hSS ?_
    · intro wz hSz
      go_simp
    simp only [List.getElem_toArray, List.getElem_cons_zero, List.getElem_cons_succ, Act.put, List.setIfInBounds_toArray, List.set_cons_zero, List.set_cons_succ]
    refine wpAnyH_take (i := 17) (v := (.bool true)) rfl (by kernel_rfl) (by kernel_rfl) (by kernel_rfl) (fun _ _ _ h => h) (Or.inl ⟨by rfl, ?_⟩) hSS ?_
    · intro wz hSz
      go_simp
    simp only [List.getElem_toArray, List.getElem_cons_zero, List.getElem_cons_succ, Act.put, List.setIfInBounds_toArray, List.set_cons_zero, List.set_cons_succ]
    refine wpAnyH_take (i := 18) (v := (.bool true)) rfl (by kernel_rfl) (by kernel_rfl) (by kernel_rfl) (fun _ _ _ h => h) (Or.inl ⟨by rfl, ?_⟩) hSS ?_
    · intro wz hSz
      go_simp
    simp only [List.getElem_toArray, List.getElem_cons_zero, List.getElem_cons_succ, Act.put, List.setIfInBounds_toArray, List.set_cons_zero, List.set_cons_succ]
    refine wpAnyH_take (i := 19) (v := ?_) rfl (by kernel_rfl) (by kernel_rfl) (by kernel_rfl) (fun _ _ _ h => h) (Or.inl ⟨by rfl, ?_⟩) hSS ?_
    rotate_left
    · intro wz hSz
      obtain ⟨p0, p1, p2, p3, p4, p5, p6, p7⟩ := HBX.out _ hSz
      go_simp
      try with_reducible rfl
    simp only [List.getElem_toArray, List.getElem_cons_zero, List.getElem_cons_succ, Act.put, List.setIfInBounds_toArray, List.set_cons_zero, List.set_cons_succ]
    refine wpAnyH_take (i := 21) (v := ?_) rfl (by kernel_rfl) (by kernel_rfl) (by kernel_rfl) (fun _ _ _ h => h) (Or.inl ⟨by rfl, ?_⟩) hSS ?_
    rotate_left
    · intro wz hSz
      obtain ⟨p0, p1, p2, p3, p4, p5, p6, p7⟩ := HBX.out _ hSz
      go_simp
      try with_reducible rfl
    simp only [List.getElem_toArray, List.getElem_cons_zero, List.getElem_cons_succ, Act.put, List.setIfInBounds_toArray, List.set_cons_zero, List.set_cons_succ]
    refine wpAnyH_ready (rs := [20]) (by kernel_rfl) (by simp) (AllReadyH.cons rfl (fun K6 hK6 => ?_) AllReadyH.nil)
    refine step_wanted (by rfl) ?_
    simp only [List.getElem_toArray, List.getElem_cons_zero, List.getElem_cons_succ]
    go_simp
    go_at_call 18
    refine (CGR.out _ hSS).mono ?_
    rintro e w26 ⟨rfl, hbk⟩
    go_simp
    refine hK6.out _ _ (hSS.trans (hbk.mono hSS.size)) (fun hSS => ?_)
    clear hbk hK6
    refine wpAnyH_ready (rs := [22]) (by kernel_rfl) (by simp) (AllReadyH.cons rfl (fun K7 hK7 => ?_) AllReadyH.nil)
    refine step_wanted (by rfl) ?_
    simp only [List.getElem_toArray, List.getElem_cons_zero, List.getElem_cons_succ]
    go_simp
    go_at_call 19
    refine (CRR.out _ hSS).mono ?_
    rintro e w27 ⟨rfl, hbk⟩
    go_simp
    refine hK7.out _ _ (hSS.trans (hbk.mono hSS.size)) (fun hSS => ?_)
    clear hbk hK7
    refine wpAnyH_take (i := 23) (v := (.bool true)) rfl (by kernel_rfl) (by kernel_rfl) (by kernel_rfl) (fun _ _ _ h => h) (Or.inl ⟨by rfl, ?_⟩) hSS ?_
    · intro wz hSz
      go_simp
    simp only [List.getElem_toArray, List.getElem_cons_zero, List.getElem_cons_succ, Act.put, List.setIfInBounds_toArray, List.set_cons_zero, List.set_cons_succ]
    refine wpAnyH_take (i := 24) (v := (.bool true)) rfl (by kernel_rfl) (by kernel_rfl) (by kernel_rfl) (fun _ _ _ h => h) (Or.inl ⟨by rfl, ?_⟩) hSS ?_
    · intro wz hSz
      go_simp
    simp only [List.getElem_toArray, List.getElem_cons_zero, List.getElem_cons_succ, Act.put, List.setIfInBounds_toArray, List.set_cons_zero, List.set_cons_succ]
    refine wpAnyH_take (i := 25) (v := (.bool true)) rfl (by kernel_rfl) (by kernel_rfl) (by kernel_rfl) (fun _ _ _ h => h) (Or.inl ⟨by rfl, ?_⟩) hSS ?_
    · intro wz hSz
      go_simp
    simp only [List.getElem_toArray, List.getElem_cons_zero, List.getElem_cons_succ, Act.put, List.setIfInBounds_toArray, List.set_cons_zero, List.set_cons_succ]
    refine wpAnyH_take (i := 26) (v := ?_) rfl (by kernel_rfl) (by kernel_rfl) (by kernel_rfl) (fun _ _ _ h => h) (Or.inl ⟨by rfl, ?_⟩) hSS ?_
    rotate_left
    · intro wz hSz
      obtain ⟨p0, p1, p2, p3, p4, p5, p6, p7⟩ := HBX.out _ hSz
      go_simp
      try with_reducible rfl
    simp only [List.getElem_toArray, List.getElem_cons_zero, List.getElem_cons_succ, Act.put, List.setIfInBounds_toArray, List.set_cons_zero, List.set_cons_succ]
    refine wpAnyH_take (i := 28) (v := ?_) rfl (by kernel_rfl) (by kernel_rfl) (by kernel_rfl) (fun _ _ _ h => h) (Or.inl ⟨by rfl, ?_⟩) hSS ?_
    rotate_left
    · intro wz hSz
      obtain ⟨p0, p1, p2, p3, p4, p5, p6, p7⟩ := HBX.out _ hSz
      go_simp
      try with_reducible rfl
    simp only [List.getElem_toArray, List.getElem_cons_zero, List.getElem_cons_succ, Act.put, List.setIfInBounds_toArray, List.set_cons_zero, List.set_cons_succ]
    refine wpAnyH_ready (rs := [27]) (by kernel_rfl) (by simp) (AllReadyH.cons rfl (fun K8 hK8 => ?_) AllReadyH.nil)
    refine step_wanted (by rfl) ?_
    simp only [List.getElem_toArray, List.getElem_cons_zero, List.getElem_cons_succ]
    go_simp
    go_at_call 20
    refine (CGK.out _ hSS).mono ?_
    rintro e w28 ⟨rfl, hbk⟩
    go_simp
    refine hK8.out _ _ (hSS.trans (hbk.mono hSS.size)) (fun hSS => ?_)
    clear hbk hK8
    refine wpAnyH_ready (rs := [29]) (by kernel_rfl) (by simp) (AllReadyH.cons rfl (fun K9 hK9 => ?_) AllReadyH.nil)
    refine step_wanted (by rfl) ?_
    simp only [List.getElem_toArray, List.getElem_cons_zero, List.getElem_cons_succ]
    go_simp
    go_at_call 21
    refine (CRK.out _ hSS).mono ?_
    rintro e w29 ⟨rfl, hbk⟩
    go_simp
    refine hK9.out _ _ (hSS.trans (hbk.mono hSS.size)) (fun hSS => ?_)
    clear hbk hK9
    refine wpAnyH_take (i := 30) (v := (.bool true)) rfl (by kernel_rfl) (by kernel_rfl) (by kernel_rfl) (fun _ _ _ h => h) (Or.inl ⟨by rfl, ?_⟩) hSS ?_
    · intro wz hSz
      go_simp
    simp only [List.getElem_toArray, List.getElem_cons_zero, List.getElem_cons_succ, Act.put, List.setIfInBounds_toArray, List.set_cons_zero, List.set_cons_succ]
    refine wpAnyH_take (i := 31) (v := (.bool true)) rfl (by kernel_rfl) (by kernel_rfl) (by kernel_rfl) (fun _ _ _ h => h) (Or.inl ⟨by rfl, ?_⟩) hSS ?_
    · intro wz hSz
      go_simp
    simp only [List.getElem_toArray, List.getElem_cons_zero, List.getElem_cons_succ, Act.put, List.setIfInBounds_toArray, List.set_cons_zero, List.set_cons_succ]
    refine wpAnyH_take (i := 32) (v := (.bool true)) rfl (by kernel_rfl) (by kernel_rfl) (by kernel_rfl) (fun _ _ _ h => h) (Or.inl ⟨by rfl, ?_⟩) hSS ?_
    · intro wz hSz
      go_simp
    simp only [List.getElem_toArray, List.getElem_cons_zero, List.getElem_cons_succ, Act.put, List.setIfInBounds_toArray, List.set_cons_zero, List.set_cons_succ]
    refine wpAnyH_take (i := 33) (v := ?_) rfl (by kernel_rfl) (by kernel_rfl) (by kernel_rfl) (fun _ _ _ h => h) (Or.inl ⟨by rfl, ?_⟩) hSS ?_
    rotate_left
    · intro wz hSz
      go_simp
      try with_reducible rfl
    simp only [List.getElem_toArray, List.getElem_cons_zero, List.getElem_cons_succ, Act.put, List.setIfInBounds_toArray, List.set_cons_zero, List.set_cons_succ]
    refine wpAnyH_take (i := 34) (v := ?_) rfl (by kernel_rfl) (by kernel_rfl) (by kernel_rfl) (fun _ _ _ h => h) (Or.inl ⟨by rfl, ?_⟩) hSS ?_
    rotate_left
    · intro wz hSz
      obtain ⟨p0, p1, p2, p3, p4, p5, p6, p7⟩ := HBX.out _ hSz
      go_simp
      try with_reducible rfl
    simp only [List.getElem_toArray, List.getElem_cons_zero, List.getElem_cons_succ, Act.put, List.setIfInBounds_toArray, List.set_cons_zero, List.set_cons_succ]
    refine wpAnyH_take (i := 35) (v := ?_) rfl (by kernel_rfl) (by kernel_rfl) (by kernel_rfl) (fun _ _ _ h => h) (Or.inl ⟨by rfl, ?_⟩) hSS ?_
    rotate_left
    · intro wz hSz
      go_simp
      try with_reducible rfl
    simp only [List.getElem_toArray, List.getElem_cons_zero, List.getElem_cons_succ, Act.put, List.setIfInBounds_toArray, List.set_cons_zero, List.set_cons_succ]
    refine wpAnyH_ready (rs := [36]) (by kernel_rfl) (by simp) (AllReadyH.cons rfl (fun K10 hK10 => ?_) AllReadyH.nil)
    refine step_wanted (by rfl) ?_
    simp only [List.getElem_toArray, List.getElem_cons_zero, List.getElem_cons_succ]
    go_simp
    go_at_call 22
    refine (CF.out _ hSS).mono ?_
    rintro e w30 ⟨rfl, hbk⟩
    go_simp
    refine hK10.out _ _ (hSS.trans (hbk.mono hSS.size)) (fun hSS => ?_)
    clear hbk hK10
    refine wpAnyH_take (i := 37) (v := (.bool HK)) rfl (by kernel_rfl) (by kernel_rfl) (by kernel_rfl) (fun _ _ _ h => h) (Or.inl ⟨by rfl, ?_⟩) hSS ?_
    · intro wz hSz
      have hhk := HHK.out
      go_simp
    simp only [List.getElem_toArray, List.getElem_cons_zero, List.getElem_cons_succ, Act.put, List.setIfInBounds_toArray, List.set_cons_zero, List.set_cons_succ]
    refine wpAnyH_take (i := 38) (v := (.bool true)) rfl (by kernel_rfl) (by kernel_rfl) (by kernel_rfl) (fun _ _ _ h => h) (Or.inl ⟨by rfl, ?_⟩) hSS ?_
    · intro wz hSz
      go_simp
    simp only [List.getElem_toArray, List.getElem_cons_zero, List.getElem_cons_succ, Act.put, List.setIfInBounds_toArray, List.set_cons_zero, List.set_cons_succ]
    refine wpAnyH_take (i := 39) (v := (.bool true)) rfl (by kernel_rfl) (by kernel_rfl) (by kernel_rfl) (fun _ _ _ h => h) (Or.inl ⟨by rfl, ?_⟩) hSS ?_
    · intro wz hSz
      go_simp
    simp only [List.getElem_toArray, List.getElem_cons_zero, List.getElem_cons_succ, Act.put, List.setIfInBounds_toArray, List.set_cons_zero, List.set_cons_succ]
    refine wpAnyH_take (i := 40) (v := (.bool true)) rfl (by kernel_rfl) (by kernel_rfl) (by kernel_rfl) (fun _ _ _ h => h) (Or.inl ⟨by rfl, ?_⟩) hSS ?_
    · intro wz hSz
      go_simp
    simp only [List.getElem_toArray, List.getElem_cons_zero, List.getElem_cons_succ, Act.put, List.setIfInBounds_toArray, List.set_cons_zero, List.set_cons_succ]
    refine wpAnyH_done (by kernel_rfl) ?_ _
    go_wp2_with fail
    go_ret
    exact ⟨rfl, hb6.trans (hSS.mono hb6.size)⟩
end Go.Proofs.Ytnoioafgbofbnaa
