/- What alike answers of any two values. Conditions: values of at most 1048576 values and letters. -/
import Derived.Test.YtepohbcpepkboaaGreatVAlike
namespace Go.Proofs.YtepohbcpepkboaaGreat
open Go.RowKit Go.Maps Go.WideMaps

set_option maxRecDepth 100000 in
theorem guard_nil (x y : Operand) (W : World) : (eqGuard .eql 20 x y .nilIface .nilIface).run Tryz.prog W = .ok () W := by
  have h : ∀ d, (Op.eqGuardIn (d + 1) 20 .nilIface .nilIface).run Tryz.prog W = .ok false W := fun d => by simp [Op.eqGuardIn, run_underlying Tryz.underlying20]
  simp [eqGuard, Op.maxDepth, h 9999]
set_option maxRecDepth 100000 in
theorem leaf_shape {h : Value} {v : V} (hl : Leaf h v) : h = .nilIface ∨ ∃ t z, h = .iface t z := by
  rcases hl with ⟨rfl, -⟩ | ⟨rfl, -⟩ | ⟨b, rfl, -⟩ | ⟨n, rfl, -⟩ | ⟨n, m, -, -, rfl, -⟩ | ⟨s, rfl, -⟩
  · exact Or.inl rfl
  all_goals exact Or.inr ⟨_, _, rfl⟩
set_option maxRecDepth 100000 in
theorem rep_shape {w : World} {h : Value} {v : V} (hr : Rep w (fun _ => True) h v) : h = .nilIface ∨ ∃ t z, h = .iface t z := by
  rcases hr.held with h | ⟨B, l, H, a, c, G, -, rfl, -⟩ | ⟨B, l, q, H, a, c, ka, kc, G, -, -, -, -, -, rfl, -⟩
  · exact leaf_shape h
  all_goals exact Or.inr ⟨_, _, rfl⟩
set_option maxRecDepth 100000 in
theorem guard_held {w : World} {a b : Value} {v u : V} (ha : Rep w (fun _ => True) a v) (hb : Rep w (fun _ => True) b u) (x y : Operand) : ∀ W, (eqGuard .eql 20 x y a b).run Tryz.prog W = .ok () W := by
  rcases rep_shape ha with rfl | ⟨t, z, rfl⟩
  · rcases rep_shape hb with rfl | ⟨t, z, rfl⟩
    · exact guard_nil x y
    · intro W; simp [eqGuard]
  · exact guard_iface _ _ _ _ _
set_option maxRecDepth 100000 in
theorem leaf_k {h : Value} {v : V} (hl : Leaf h v) : v.k ≤ 5 := by
  rcases hl with ⟨-, rfl⟩ | ⟨-, rfl⟩ | ⟨b, -, rfl⟩ | ⟨n, -, rfl⟩ | ⟨n, m, -, -, -, rfl⟩ | ⟨s, -, rfl⟩ <;> simp [V.null]
set_option maxRecDepth 100000 in
set_option maxHeartbeats 3200000 in
theorem alike_same {w W : World} {Cb M : Nat} {WS : Value} {ws S : List (Nat × Nat)} (hC : Cmp w W Cb M WS ws S) {a b : Value} {x y : V} (ra : Rep w (fun _ => True) a x) (rb : Rep w (fun _ => True) b y) (heq : ∀ W, Below w.heap.size w W → (binOp .eql 20 a b).run Tryz.prog W = .ok (.bool true) W) (hxy : x = y) :
    Calls Tryz.prog 48 #[.pointer (some ⟨Cb, 0, none⟩), .agg #[a], .agg #[b]] W (AlikeDoes w Cb M WS ws S x y W) := by
  have hone1 := ra.one
  have hone2 := rb.one
  have hbel := hC.bel
  have hszw := hbel.size
  have hA1 : Below W.heap.size W (W.alloc (.cells #[a] 34)) := (Below.refl _ _).alloc (Nat.le_refl _) _
  have hA2 : Below W.heap.size W ((W.alloc (.cells #[a] 34)).alloc (.cells #[b] 34)) := hA1.alloc (by simp) _
  have X1 : ((W.alloc (.cells #[a] 34)).alloc (.cells #[b] 34)).heap[W.heap.size]? = some (.cells #[a] 34 (0, 0)) := (Below.heap_alloc _ _ _ (by simp)).trans (heap_alloc_new W _)
  have X2 : ((W.alloc (.cells #[a] 34)).alloc (.cells #[b] 34)).heap[W.heap.size + 1]? = some (.cells #[b] 34 (0, 0)) := by simpa using heap_alloc_new (W.alloc (.cells #[a] 34)) (.cells #[b] 34)
  have HEQ := heq _ (hbel.trans (hA2.mono hszw))
  have HG := guard_held ra rb (.tmp 15) (.tmp 17)
  have xc := cell_of_row _ _ 0 _ _ _ X1
  have yc := cell_of_row _ _ 0 _ _ _ X2
  simp only [List.getElem?_cons_zero, List.getElem?_toArray] at xc yc
  have hl1 := (Array.getElem?_eq_some_iff.1 X1).1
  have hl2 := (Array.getElem?_eq_some_iff.1 X2).1
  clear heq
  go_enter Tryz.func48, Tryz.ntmps48
  go_wp2_with fail
  go_ret
  exact AlikeDoes.plain hC hA2 ⟨(fun e => by cases e), fun _ => Or.inl ⟨rfl, rfl, Or.inl hxy⟩⟩
set_option maxRecDepth 100000 in
set_option maxHeartbeats 3200000 in
theorem alike_kind {w W : World} {Cb M : Nat} {WS : Value} {ws S : List (Nat × Nat)} (hC : Cmp w W Cb M WS ws S) {a b : Value} {x y : V} (ra : Rep w (fun _ => True) a x) (rb : Rep w (fun _ => True) b y) (heq : ∀ W, Below w.heap.size w W → (binOp .eql 20 a b).run Tryz.prog W = .ok (.bool false) W) (hk : x.k ≠ y.k) :
    Calls Tryz.prog 48 #[.pointer (some ⟨Cb, 0, none⟩), .agg #[a], .agg #[b]] W (AlikeDoes w Cb M WS ws S x y W) := by
  have hone1 := ra.one
  have hone2 := rb.one
  have hbel := hC.bel
  have hszw := hbel.size
  have hA1 : Below W.heap.size W (W.alloc (.cells #[a] 34)) := (Below.refl _ _).alloc (Nat.le_refl _) _
  have hA2 : Below W.heap.size W ((W.alloc (.cells #[a] 34)).alloc (.cells #[b] 34)) := hA1.alloc (by simp) _
  have X1 : ((W.alloc (.cells #[a] 34)).alloc (.cells #[b] 34)).heap[W.heap.size]? = some (.cells #[a] 34 (0, 0)) := (Below.heap_alloc _ _ _ (by simp)).trans (heap_alloc_new W _)
  have X2 : ((W.alloc (.cells #[a] 34)).alloc (.cells #[b] 34)).heap[W.heap.size + 1]? = some (.cells #[b] 34 (0, 0)) := by simpa using heap_alloc_new (W.alloc (.cells #[a] 34)) (.cells #[b] 34)
  have HEQ := heq _ (hbel.trans (hA2.mono hszw))
  have HG := guard_held ra rb (.tmp 15) (.tmp 17)
  have xc := cell_of_row _ _ 0 _ _ _ X1
  have yc := cell_of_row _ _ 0 _ _ _ X2
  simp only [List.getElem?_cons_zero, List.getElem?_toArray] at xc yc
  have hl1 := (Array.getElem?_eq_some_iff.1 X1).1
  have hl2 := (Array.getElem?_eq_some_iff.1 X2).1
  have CK1 : Hid (∀ W, Calls Tryz.prog 16 #[.agg #[a]] W fun e w' => e = .returned (.int .i64 x.k) ∧ Below W.heap.size W w') := fun W => kind_any ra W
  have CK2 : Hid (∀ W, Calls Tryz.prog 16 #[.agg #[b]] W fun e w' => e = .returned (.int .i64 y.k) ∧ Below W.heap.size W w') := fun W => kind_any rb W
  have hne : x ≠ y := fun e => hk (by rw [e])
  clear heq
  go_enter Tryz.func48, Tryz.ntmps48
  go_upto_region 3 with fail
  generalize hW1 : (W.alloc (.cells #[a] 34)).alloc (.cells #[b] 34) = W1 at *
  have HXY : Hid (∀ W', Below W1.heap.size W1 W' → W'.cell? ⟨W.heap.size, 0, none⟩ = some a ∧ W'.cell? ⟨W.heap.size + 1, 0, none⟩ = some b) := fun W' hW => ⟨(hW.cell (p := ⟨W.heap.size, 0, none⟩) hl1).trans xc, (hW.cell (p := ⟨W.heap.size + 1, 0, none⟩) hl2).trans yc⟩
  have hw1 := hbel.trans (hA2.mono hszw)
  refine wp_region_held_drew (S := fun w' => Below W1.heap.size W1 w') (by kernel_rfl) (Below.drew (Below.refl _ _)) (fun hSS => ?_)
  refine wpAnyH_take (i := 0) (v := ?_) rfl (by kernel_rfl) (by kernel_rfl) (by kernel_rfl) (fun _ _ _ h => h) (Or.inl ⟨by rfl, ?_⟩) hSS ?_
  rotate_left
  · intro wz hSz
    obtain ⟨p0, p1⟩ := HXY.out _ hSz
    go_simp
    try with_reducible rfl
  simp only [List.getElem_toArray, List.getElem_cons_zero, Act.put, List.setIfInBounds_toArray, List.set_cons_zero, List.set_cons_succ]
  refine wpAnyH_take (i := 2) (v := ?_) rfl (by kernel_rfl) (by kernel_rfl) (by kernel_rfl) (fun _ _ _ h => h) (Or.inl ⟨by rfl, ?_⟩) hSS ?_
  rotate_left
  · intro wz hSz
    obtain ⟨p0, p1⟩ := HXY.out _ hSz
    go_simp
    try with_reducible rfl
  simp only [List.getElem_toArray, List.getElem_cons_zero, List.getElem_cons_succ, Act.put, List.setIfInBounds_toArray, List.set_cons_zero, List.set_cons_succ]
  refine wpAnyH_ready (rs := [1]) (by kernel_rfl) (by simp) (AllReadyH.cons rfl (fun K1 hK1 => ?_) AllReadyH.nil)
  refine step_want (by rfl) ?_
  simp only [List.getElem_toArray, List.getElem_cons_zero, List.getElem_cons_succ]
  go_simp
  go_at_call 16
  refine (CK1.out _).mono ?_
  rintro e wk1 ⟨rfl, hbk⟩
  go_simp
  refine hK1.out _ _ (hSS.trans (hbk.mono hSS.size)) (fun hSS => ?_)
  clear hbk hK1
  refine wpAnyH_ready (rs := [3]) (by kernel_rfl) (by simp) (AllReadyH.cons rfl (fun K2 hK2 => ?_) AllReadyH.nil)
  refine step_want (by rfl) ?_
  simp only [List.getElem_toArray, List.getElem_cons_zero, List.getElem_cons_succ]
  go_simp
  go_at_call 16
  refine (CK2.out _).mono ?_
  rintro e wk2 ⟨rfl, hbk⟩
  go_simp
  refine hK2.out _ _ (hSS.trans (hbk.mono hSS.size)) (fun hSS => ?_)
  clear hbk hK2
  refine wpAnyH_take (i := 4) (v := (.bool true)) rfl (by kernel_rfl) (by kernel_rfl) (by kernel_rfl) (fun _ _ _ h => h) (Or.inl ⟨by rfl, ?_⟩) hSS ?_
  · intro wz hSz
    have hk2 : ¬ x.k = y.k := hk
    go_simp
  simp only [List.getElem_toArray, List.getElem_cons_zero, List.getElem_cons_succ, Act.put, List.setIfInBounds_toArray, List.set_cons_zero, List.set_cons_succ]
  refine wpAnyH_done (by kernel_rfl) ?_ _
  go_wp2_with fail
  go_ret
  exact AlikeDoes.plain hC (hA2.trans (hSS.mono hA2.size)) ⟨fun _ => hne, fun e => by cases e⟩
set_option maxRecDepth 100000 in
set_option maxHeartbeats 3200000 in
theorem alike_leaf {w W : World} {Cb M : Nat} {WS : Value} {ws S : List (Nat × Nat)} (hC : Cmp w W Cb M WS ws S) {a b : Value} {x y : V} (ra : Rep w (fun _ => True) a x) (rb : Rep w (fun _ => True) b y) (heq : ∀ W, Below w.heap.size w W → (binOp .eql 20 a b).run Tryz.prog W = .ok (.bool false) W) (hk : x.k = y.k) (hne : x ≠ y) (la : Leaf a x) (lb : Leaf b y) :
    Calls Tryz.prog 48 #[.pointer (some ⟨Cb, 0, none⟩), .agg #[a], .agg #[b]] W (AlikeDoes w Cb M WS ws S x y W) := by
  have hone1 := ra.one
  have hone2 := rb.one
  have hbel := hC.bel
  have hszw := hbel.size
  have hA1 : Below W.heap.size W (W.alloc (.cells #[a] 34)) := (Below.refl _ _).alloc (Nat.le_refl _) _
  have hA2 : Below W.heap.size W ((W.alloc (.cells #[a] 34)).alloc (.cells #[b] 34)) := hA1.alloc (by simp) _
  have X1 : ((W.alloc (.cells #[a] 34)).alloc (.cells #[b] 34)).heap[W.heap.size]? = some (.cells #[a] 34 (0, 0)) := (Below.heap_alloc _ _ _ (by simp)).trans (heap_alloc_new W _)
  have X2 : ((W.alloc (.cells #[a] 34)).alloc (.cells #[b] 34)).heap[W.heap.size + 1]? = some (.cells #[b] 34 (0, 0)) := by simpa using heap_alloc_new (W.alloc (.cells #[a] 34)) (.cells #[b] 34)
  have HEQ := heq _ (hbel.trans (hA2.mono hszw))
  have HG := guard_held ra rb (.tmp 15) (.tmp 17)
  have xc := cell_of_row _ _ 0 _ _ _ X1
  have yc := cell_of_row _ _ 0 _ _ _ X2
  simp only [List.getElem?_cons_zero, List.getElem?_toArray] at xc yc
  have hl1 := (Array.getElem?_eq_some_iff.1 X1).1
  have hl2 := (Array.getElem?_eq_some_iff.1 X2).1
  have CK1 : Hid (∀ W, Calls Tryz.prog 16 #[.agg #[a]] W fun e w' => e = .returned (.int .i64 x.k) ∧ Below W.heap.size W w') := fun W => kind_any ra W
  have CK2 : Hid (∀ W, Calls Tryz.prog 16 #[.agg #[b]] W fun e w' => e = .returned (.int .i64 x.k) ∧ Below W.heap.size W w') := fun W => by rw [hk]; exact kind_any rb W
  clear heq hk
  go_enter Tryz.func48, Tryz.ntmps48
  go_upto_region 3 with fail
  generalize hW1 : (W.alloc (.cells #[a] 34)).alloc (.cells #[b] 34) = W1 at *
  have HXY : Hid (∀ W', Below W1.heap.size W1 W' → W'.cell? ⟨W.heap.size, 0, none⟩ = some a ∧ W'.cell? ⟨W.heap.size + 1, 0, none⟩ = some b) := fun W' hW => ⟨(hW.cell (p := ⟨W.heap.size, 0, none⟩) hl1).trans xc, (hW.cell (p := ⟨W.heap.size + 1, 0, none⟩) hl2).trans yc⟩
  have hw1 := hbel.trans (hA2.mono hszw)
  refine wp_region_held_drew (S := fun w' => Below W1.heap.size W1 w') (by kernel_rfl) (Below.drew (Below.refl _ _)) (fun hSS => ?_)
  refine wpAnyH_take (i := 0) (v := ?_) rfl (by kernel_rfl) (by kernel_rfl) (by kernel_rfl) (fun _ _ _ h => h) (Or.inl ⟨by rfl, ?_⟩) hSS ?_
  rotate_left
  · intro wz hSz
    obtain ⟨p0, p1⟩ := HXY.out _ hSz
    go_simp
    try with_reducible rfl
  simp only [List.getElem_toArray, List.getElem_cons_zero, Act.put, List.setIfInBounds_toArray, List.set_cons_zero, List.set_cons_succ]
  refine wpAnyH_take (i := 2) (v := ?_) rfl (by kernel_rfl) (by kernel_rfl) (by kernel_rfl) (fun _ _ _ h => h) (Or.inl ⟨by rfl, ?_⟩) hSS ?_
  rotate_left
  · intro wz hSz
    obtain ⟨p0, p1⟩ := HXY.out _ hSz
    go_simp
    try with_reducible rfl
  simp only [List.getElem_toArray, List.getElem_cons_zero, List.getElem_cons_succ, Act.put, List.setIfInBounds_toArray, List.set_cons_zero, List.set_cons_succ]
  refine wpAnyH_ready (rs := [1]) (by kernel_rfl) (by simp) (AllReadyH.cons rfl (fun K1 hK1 => ?_) AllReadyH.nil)
  refine step_want (by rfl) ?_
  simp only [List.getElem_toArray, List.getElem_cons_zero, List.getElem_cons_succ]
  go_simp
  go_at_call 16
  refine (CK1.out _).mono ?_
  rintro e wk1 ⟨rfl, hbk⟩
  go_simp
  refine hK1.out _ _ (hSS.trans (hbk.mono hSS.size)) (fun hSS => ?_)
  clear hbk hK1
  refine wpAnyH_ready (rs := [3]) (by kernel_rfl) (by simp) (AllReadyH.cons rfl (fun K2 hK2 => ?_) AllReadyH.nil)
  refine step_want (by rfl) ?_
  simp only [List.getElem_toArray, List.getElem_cons_zero, List.getElem_cons_succ]
  go_simp
  go_at_call 16
  refine (CK2.out _).mono ?_
  rintro e wk2 ⟨rfl, hbk⟩
  go_simp
  refine hK2.out _ _ (hSS.trans (hbk.mono hSS.size)) (fun hSS => ?_)
  clear hbk hK2
  refine wpAnyH_take (i := 4) (v := (.bool false)) rfl (by kernel_rfl) (by kernel_rfl) (by kernel_rfl) (fun _ _ _ h => h) (Or.inl ⟨by rfl, ?_⟩) hSS ?_
  · intro wz hSz
    go_simp
  simp only [List.getElem_toArray, List.getElem_cons_zero, List.getElem_cons_succ, Act.put, List.setIfInBounds_toArray, List.set_cons_zero, List.set_cons_succ]
  refine wpAnyH_done (by kernel_rfl) ?_ _
  obtain ⟨c1, c2⟩ := HXY.out _ hSS
  go_wp2_with fail
  refine (inside_leaf la _).mono ?_
  rintro e w4 ⟨rfl, hb4⟩
  replace hSS := hSS.trans (hb4.mono hSS.size)
  clear c1 c2 hb4
  obtain ⟨c1, c2⟩ := HXY.out _ hSS
  go_wp2_with fail
  refine (inside_leaf lb _).mono ?_
  rintro e w5 ⟨rfl, hb5⟩
  replace hSS := hSS.trans (hb5.mono hSS.size)
  clear c1 c2 hb5
  go_wp2_with fail
  go_ret
  exact AlikeDoes.plain hC (hA2.trans (hSS.mono hA2.size)) ⟨fun _ => hne, fun e => by cases e⟩
set_option maxRecDepth 100000 in
theorem alike_any {w W : World} {Cb M : Nat} {WS : Value} {ws S : List (Nat × Nat)} (hC : Cmp w W Cb M WS ws S) {a b : Value} {x y : V} (ra : Rep w (fun _ => True) a x) (rb : Rep w (fun _ => True) b y) (hS : ∀ p ∈ S, PlainP w p) (hws : ws.length ≤ 1048576) :
    Calls Tryz.prog 48 #[.pointer (some ⟨Cb, 0, none⟩), .agg #[a], .agg #[b]] W (AlikeDoes w Cb M WS ws S x y W) := by
  obtain ⟨r, heq, h1, h2⟩ := held_eq ra rb
  cases r
  · by_cases hk : x.k = y.k
    · rcases ra.held with la | ⟨B, l, H, a1, c1, G, PT, rfl, rfl⟩ | ⟨B, l, q, H, a1, c1, ka, kc, G, PT, hq, hks, hc5, hsr, rfl, rfl⟩ <;>
      rcases rb.held with lb | ⟨B', l', H', a1', c1', G', PT', rfl, rfl⟩ | ⟨B', l', q', H', a1', c1', ka', kc', G', PT', hq', hks', hc5', hsr', rfl, rfl⟩
      · exact alike_leaf hC ra rb heq hk (fun e => by have := h2 rfl e; have := leaf_k la; omega) la lb
      · have := leaf_k la; simp at hk; omega
      · have := leaf_k la; simp at hk; omega
      · have := leaf_k lb; simp at hk; omega
      · exact alike_grp hC hS ra rb heq hk G G' (Or.inl ⟨rfl, PT⟩) (Or.inl ⟨rfl, PT'⟩) (ka := none) (kac := 0) (kb := none) (kbc := 0) (fun W _ => inside_list B W) (fun W _ => inside_list B' W) (SRow.nil _ _ _) (SRow.nil _ _ _) (fun e _ => by simp at e; rw [e]) (by simp) hws
      · simp at hk
      · have := leaf_k lb; simp at hk; omega
      · simp at hk
      · exact alike_grp hC hS ra rb heq hk G G' (Or.inr ⟨rfl, PT⟩) (Or.inr ⟨rfl, PT'⟩) (ka := ka) (kac := kc) (kb := ka') (kbc := kc') (fun W hW => inside_map B ka q.length kc W ((hW.cell (World.block_lt_of_cell? _ _ hc5)).trans hc5)) (fun W hW => inside_map B' ka' q'.length kc' W ((hW.cell (World.block_lt_of_cell? _ _ hc5')).trans hc5')) hsr hsr' (fun e1 e2 => by simp at e1 e2; rw [e1, e2]) (Nat.le_trans hks.2.1 (Nat.le_trans hks.2.2 (by unfold maxLen; omega))) hws
    · exact alike_kind hC ra rb heq hk
  · have e := h1 rfl
    subst e
    exact alike_same hC ra rb heq (ra.inj _ rb)
end Go.Proofs.YtepohbcpepkboaaGreat

