/- Same answers whether two values are the same. Condition: a value of at most 1048576 values and letters. -/
import Derived.Test.YtepohbcpepkboaaGreatVAlikeB
import Derived.Deep.LoopGhost
namespace Go.Proofs.YtepohbcpepkboaaGreat
open Go.RowKit Go.Maps Go.WideMaps

set_option maxRecDepth 100000 in
theorem Wt.len {w : World} {ws : List (Nat × Nat)} {n : Nat} (h : Wt w ws n) : ws.length ≤ n := by
  obtain ⟨xs, h1, -, h3⟩ := h
  have : ∀ l : List V, l.length ≤ (l.map V.size).sum := by
    intro l
    induction l with
    | nil => simp
    | cons a r ih =>
      have : 1 ≤ a.size := by cases a; simp only [V.size]; omega
      simp only [List.length_cons, List.map_cons, List.sum_cons]; omega
  have := this xs
  omega
set_option maxRecDepth 100000 in
theorem pcells_at : ∀ (ps : List (Nat × Nat)) (p : Nat × Nat), (pcellsV (ps ++ [p]))[ps.length * 2]? = some (.pointer (some ⟨p.1, 0, none⟩)) ∧ (pcellsV (ps ++ [p]))[ps.length * 2 + 1]? = some (.pointer (some ⟨p.2, 0, none⟩)) := fun ps p => by
  have h := pcells_len ps
  rw [pcells_snoc]
  refine ⟨?_, ?_⟩
  · rw [List.getElem?_append_right (by omega), h]; simp
  · rw [List.getElem?_append_right (by omega), h]; simp
set_option maxRecDepth 100000 in
theorem sizePS : ∀ W, (sizeOf (Tryz.prog.elem 91)).run Tryz.prog W = .ok 2 W := fun W => by
  have e : Tryz.prog.elem 91 = 96 := by kernel_rfl
  rw [e]; simp [go_sem]
set_option maxRecDepth 100000 in
theorem cutP (g n cap j : Nat) (hj : j ≤ cap) (W : World) : (Instr.slice 91 (.slice (some ⟨g, 0, none⟩) n cap) none (some (.int .i64 (j : Int))) none).run Tryz.prog W = .ok (.slice (some ⟨g, 0, none⟩) j cap) W := by
  rw [run_slice_h W 91 (some ⟨g, 0, none⟩) n cap Tryz.underlying91 .i64 (j : Int) (by omega) (by omega), sizePS]
  simp [Result.andThen, sliced, Addr.add_lit]
set_option maxRecDepth 100000 in
theorem own_cut {W : World} {X g cap : Nat} {ws : List (Nat × Nat)} {p : Nat × Nat} (h : W.ownsRow X 96 2 (.slice (some ⟨g, 0, none⟩) (ws.length + 1) cap) (ws ++ [p]).length (pcellsV (ws ++ [p]))) : W.ownsRow X 96 2 (.slice (some ⟨g, 0, none⟩) ws.length cap) ws.length (pcellsV ws) := by
  obtain ⟨h0, h⟩ := h
  refine ⟨pcells_len ws, ?_⟩
  rcases h with ⟨h, -⟩ | ⟨g', cap', cur, e, h1, h2, h3, h4, h5, h6⟩
  · simp at h
  · simp at e
    obtain ⟨rfl, rfl⟩ := e
    refine Or.inr ⟨g, cap, cur, rfl, h1, h2, by simp at h3; omega, h4, h5, ?_⟩
    have h7 := congrArg (List.take (ws.length * 2)) h6
    have h8 : List.take (ws.length * 2) (pcellsV (ws ++ [p])) = pcellsV ws := by
      rw [pcells_snoc, ← pcells_len ws]; exact List.take_left
    rw [List.take_take, h8, Nat.min_eq_left (by simp; omega)] at h7
    exact h7
set_option maxRecDepth 100000 in
theorem size_take_le : ∀ (l : List V) (j : Nat), V.size.go (l.take j) ≤ V.size.go l
  | [], j => by simp
  | a :: r, 0 => by simp [V.size.go]
  | a :: r, j + 1 => by have := size_take_le r j; simp only [List.take_succ_cons, V.size.go]; omega
set_option maxRecDepth 100000 in
/-- The group of a value of a pair. -/
theorem grp_of {w : World} {h : Value} {x : V} {B : Nat} (hr : Rep w (fun _ => True) h x) (hg : GPtr w h B) : ∃ H a c, Grp w B x H a c := by
  rcases hr.held with hl | ⟨B', l, H, a, c, G, -, e, rfl⟩ | ⟨B', l, q, H, a, c, ka, kc, G, -, -, -, -, -, e, rfl⟩ <;> rcases hg with ⟨rfl, -⟩ | ⟨rfl, -⟩
  · exact (leaf_no_list hl).elim
  · exact (leaf_no_map hl).elim
  · simp at e; subst e; exact ⟨H, a, c, G⟩
  · simp at e
  · simp at e
  · simp at e; subst e; exact ⟨H, a, c, G⟩
set_option maxRecDepth 100000 in
set_option maxHeartbeats 6400000 in
theorem same_any {w : World} {a b : Value} {v u : V} (ra : Rep w (fun _ => True) a v) (rb : Rep w (fun _ => True) b u) (hbk : v.bulk ≤ 1048576) :
    Calls Tryz.prog 20 #[.agg #[a], .agg #[b]] w fun e w' => (∃ r : Bool, e = .returned (.bool r) ∧ (r = true ↔ v = u)) ∧ Below w.heap.size w w' := by
  have hsz : v.size ≤ 1048576 := Nat.le_trans v.size_le hbk
  have hone1 := ra.one
  have hone2 := rb.one
  have hA : Below w.heap.size w ((((w.alloc (.cells #[a] 34)).alloc (.cells #[b] 34)).alloc (.map #[] 0)).alloc (.cells #[.slice none 0 0, .map (some (w.heap.size + 2))] 93)) := ((((Below.refl _ _).alloc (Nat.le_refl _) _).alloc (by simp only [World.size_alloc]; omega) _).alloc (by simp only [World.size_alloc]; omega) _).alloc (by simp only [World.size_alloc]; omega) _
  have X0 : ((((w.alloc (.cells #[a] 34)).alloc (.cells #[b] 34)).alloc (.map #[] 0)).alloc (.cells #[.slice none 0 0, .map (some (w.heap.size + 2))] 93)).heap[w.heap.size]? = some (.cells #[a] 34 (0, 0)) := (Below.heap_alloc _ _ _ (by simp only [World.size_alloc]; omega)).trans ((Below.heap_alloc _ _ _ (by simp only [World.size_alloc]; omega)).trans ((Below.heap_alloc _ _ _ (by simp only [World.size_alloc]; omega)).trans (heap_alloc_new w _)))
  have X1 : ((((w.alloc (.cells #[a] 34)).alloc (.cells #[b] 34)).alloc (.map #[] 0)).alloc (.cells #[.slice none 0 0, .map (some (w.heap.size + 2))] 93)).heap[w.heap.size + 1]? = some (.cells #[b] 34 (0, 0)) := (Below.heap_alloc _ _ _ (by simp only [World.size_alloc]; omega)).trans ((Below.heap_alloc _ _ _ (by simp only [World.size_alloc]; omega)).trans (by simpa using heap_alloc_new (w.alloc (.cells #[a] 34)) (.cells #[b] 34)))
  have X2 : ((((w.alloc (.cells #[a] 34)).alloc (.cells #[b] 34)).alloc (.map #[] 0)).alloc (.cells #[.slice none 0 0, .map (some (w.heap.size + 2))] 93)).heap[w.heap.size + 2]? = some (.map #[] 0) := (Below.heap_alloc _ _ _ (by simp only [World.size_alloc]; omega)).trans (by simpa using heap_alloc_new ((w.alloc (.cells #[a] 34)).alloc (.cells #[b] 34)) (.map #[] 0))
  have X3 : ((((w.alloc (.cells #[a] 34)).alloc (.cells #[b] 34)).alloc (.map #[] 0)).alloc (.cells #[.slice none 0 0, .map (some (w.heap.size + 2))] 93)).heap[w.heap.size + 3]? = some (.cells #[.slice none 0 0, .map (some (w.heap.size + 2))] 93 (0, 0)) := by simpa using heap_alloc_new (((w.alloc (.cells #[a] 34)).alloc (.cells #[b] 34)).alloc (.map #[] 0)) (.cells #[.slice none 0 0, .map (some (w.heap.size + 2))] 93)
  have hC0 : Cmp w ((((w.alloc (.cells #[a] 34)).alloc (.cells #[b] 34)).alloc (.map #[] 0)).alloc (.cells #[.slice none 0 0, .map (some (w.heap.size + 2))] 93)) (w.heap.size + 3) (w.heap.size + 2) (.slice none 0 0) [] [] := ⟨X3, World.ownsRow_nil _ _ _ _, ⟨#[], 0, X2, rfl, by simp⟩, hA, by omega, by omega, by omega, by simp [Value.ownBlock], by simp [Value.ownBlock]⟩
  have CA0 := alike_any hC0 ra rb (by simp) (by simp)
  have x0 := cell_of_row _ _ 0 _ _ _ X0
  have x1 := cell_of_row _ _ 0 _ _ _ X1
  simp only [List.getElem?_cons_zero, List.getElem?_toArray] at x0 x1
  clear X0 X1 X2 X3 hC0 hbk
  have hmk : ∀ W : World, (Instr.makeMap 90 none).run Tryz.prog W = .ok (.map (some W.heap.size)) (W.alloc (.map #[] 0)) := fun W => by simp [Instr.makeMap, newObj, Sem.run]
  go_enter Tryz.func20, Tryz.ntmps20
  go_wp2_with fail
  refine CA0.mono ?_
  rintro e w1 ⟨r, WS, ws, S, rfl, hC, ht, -⟩
  clear CA0 x0 x1 hA
  cases r
  · have hne := ht.1 rfl
    have hbel := hC.bel
    clear hC ht
    go_wp2_with fail
    go_ret
    exact ⟨⟨false, rfl, by simpa using hne⟩, hbel⟩
  · have hinv := Inv.start ht
    have hwt := (Wt.nil w 0).told ht
    rw [Nat.zero_add] at hwt
    clear hmk ht hone1 hone2
    go_wp2_with fail
    generalize hCb : w.heap.size + 1 + 1 + 1 = Cb
    have h3 : w.heap.size + 3 = Cb := hCb
    rw [h3] at hC
    obtain ⟨M, hM⟩ : ∃ M, M = w.heap.size + 2 := ⟨_, rfl⟩
    rw [← hM] at hC
    clear hM h3 hCb
    go_loopg [6] v.size (fun k _ wr => ∃ WS ws S, Cmp w wr Cb M WS ws S ∧ Inv w v u none 0 ws S ∧ Wt w ws k ∧ k ≤ 1048576)
    case atStart => exact ⟨WS, ws, S, hC, hinv, hwt, hsz⟩
    case round =>
      clear hC hinv hwt WS ws S
      obtain ⟨WS, ws, S, hC, hinv, hwt, hgk⟩ := hrel
      have hlenw := hwt.len
      have c0 := cell_of_row _ _ 0 _ _ _ hC.blk
      simp only [List.getElem?_cons_zero, List.getElem?_toArray] at c0
      have hbel := hC.bel
      rcases List.eq_nil_or_concat ws with rfl | ⟨ws0, p, hws⟩
      · obtain ⟨wa, wc, rfl⟩ : ∃ wa wc, WS = .slice wa 0 wc := by
          rcases hC.own.2 with ⟨h, -⟩ | ⟨g, cap, cur, h, -⟩
          · exact ⟨none, 0, h⟩
          · exact ⟨some ⟨g, 0, none⟩, cap, h⟩
        have hvu := hinv.done
        clear hC hinv hwt
        go_wp2_with fail
        go_ret
        exact ⟨⟨true, rfl, by simpa using hvu⟩, hbel⟩
      · rw [List.concat_eq_append] at hws
        subst hws
        obtain ⟨g, cap, hWS, hcap, hcm, hgx, hgl⟩ : ∃ g cap, WS = .slice (some ⟨g, 0, none⟩) (ws0.length + 1) cap ∧ ws0.length + 1 ≤ cap ∧ cap ≤ maxLen ∧ w.heap.size ≤ g ∧ g < wr.heap.size := by
          rcases hC.own.2 with ⟨-, h⟩ | ⟨g, cap, cur, h, h1, h2, h3, h4, -⟩
          · simp at h
          · exact ⟨g, cap, by rw [h]; simp, by simpa using h3, h4, h1, (Array.getElem?_eq_some_iff.1 h2).1⟩
        have hcells := hC.own.cells (g := g) (by rw [hWS]; rfl)
        obtain ⟨e0, e1⟩ := pcells_at ws0 p
        have p0 := hcells _ _ e0
        have p1 := hcells _ _ e1
        rw [Addr.add_lit] at p0 p1
        simp only [Nat.zero_add] at p0 p1
        have hpS : p ∈ S := hinv.sub p (by simp)
        obtain ⟨x, y, hpar, hsh⟩ := hinv.all p hpS
        obtain ⟨m, hwt0, hmk⟩ := hwt.pop hpar
        have hinv0 := hinv.pop
        obtain ⟨⟨hx, rx, gx⟩, hy, ry, gy⟩ := id hpar
        obtain ⟨HX, xa, xc, GX⟩ := grp_of rx gx
        obtain ⟨HY, ya, yc, GY⟩ := grp_of ry gy
        have hlen0 : ws0.length ≤ 1048576 := by simp at hlenw; omega
        have hcut := cutP g (ws0.length + 1) cap ws0.length (by omega)
        subst hWS
        have hgC : g ≠ Cb := fun e => hC.wc (by rw [e]; rfl)
        have hgM : g ≠ M := fun e => hC.wm (by rw [e]; rfl)
        have hClt := (Array.getElem?_eq_some_iff.1 hC.blk).1
        have f0 := frozen_of_row _ _ 0 _ _ hC.blk
        have hgS : wr.grownBy (wr.setCell ⟨Cb, 0, none⟩ (.slice (some ⟨g, 0, none⟩) ws0.length cap)) (some Cb) := ⟨rfl, rfl, rfl, by simp, fun k hk hne => heap_setCell_other _ _ _ _ (fun e => hne (congrArg some (by first | exact e | exact e.symm)))⟩
        have hC1 : Cmp w (wr.setCell ⟨Cb, 0, none⟩ (.slice (some ⟨g, 0, none⟩) ws0.length cap)) Cb M (.slice (some ⟨g, 0, none⟩) ws0.length cap) ws0 S :=
          ⟨heap_setCell_same _ _ 0 _ _ _ hC.blk, own_grown (own_cut hC.own) hgS (fun k hk e => by injection hk with hk; have e2 : some g = some k := e; injection e2 with e2; exact hgC (e2.trans hk.symm)), hC.seen.grown hgS (fun e => by injection e with e; exact hC.hne e.symm), hC.bel.grown hgS hC.bel.size (fun k hk => by injection hk with hk; subst hk; exact hC.hC), hC.hC, hC.hM, hC.hne, (fun e => by have e2 : some g = some Cb := e; injection e2 with e2; exact hgC e2), (fun e => by have e2 : some g = some M := e; injection e2 with e2; exact hgM e2)⟩
        have hC2 := hC1.below ((Below.refl _ (wr.setCell ⟨Cb, 0, none⟩ (.slice (some ⟨g, 0, none⟩) ws0.length cap))).alloc (Nat.le_refl _) (.cells #[.pointer (some ⟨p.1, 0, none⟩), .pointer (some ⟨p.2, 0, none⟩)] 96))
        have XP2 := heap_alloc_new (wr.setCell ⟨Cb, 0, none⟩ (.slice (some ⟨g, 0, none⟩) ws0.length cap)) (.cells #[.pointer (some ⟨p.1, 0, none⟩), .pointer (some ⟨p.2, 0, none⟩)] 96)
        simp only [World.size_setCell] at XP2
        have hlt2 := (Array.getElem?_eq_some_iff.1 XP2).1
        have hb2 := hC2.bel
        have cc : ∀ {q : Addr} {u : Value}, w.cell? q = some u → ((wr.setCell ⟨Cb, 0, none⟩ (.slice (some ⟨g, 0, none⟩) ws0.length cap)).alloc (.cells #[.pointer (some ⟨p.1, 0, none⟩), .pointer (some ⟨p.2, 0, none⟩)] 96)).cell? q = some u := fun h => (hb2.cell (World.block_lt_of_cell? _ _ h)).trans h
        have d4 := cc GX.c4
        have q0 := cell_of_row _ _ 0 _ _ _ XP2
        have q1 := cell_of_row _ _ 1 _ _ _ XP2
        simp only [List.getElem?_cons_zero, List.getElem?_cons_succ, List.getElem?_toArray] at q0 q1
        have hgP : g ≠ wr.heap.size := by omega
        have hPC : wr.heap.size ≠ Cb := by omega
        have hPM : wr.heap.size ≠ M := fun e => by have := hC.seen.lt; omega
        clear cc hgS hC1 hwt hcells hinv hC e0 e1
        go_upto_region 8 with fail
        generalize (wr.setCell ⟨Cb, 0, none⟩ (.slice (some ⟨g, 0, none⟩) ws0.length cap)).alloc (.cells #[.pointer (some ⟨p.1, 0, none⟩), .pointer (some ⟨p.2, 0, none⟩)] 96) = W2 at *
        generalize hP7 : wr.heap.size = P7 at *
        have hlxy := hsh.1
        have HLXY : Hid (x.l.length = y.l.length) := hlxy
        have hxs : x.size = 1 + V.size.go x.l := by cases x; rfl
        have hxl : x.l.length ≤ 9223372036854775807 := Nat.le_trans GX.ok.2.1 (Nat.le_trans GX.ok.2.2 (by unfold maxLen; omega))
        clear hlxy hP7 p0 p1 hcut c0 hcap hcm hgx hgl hClt f0 hlt2 hb2 hbel hlenw
        go_wp2_with fail
        clear d4 q0 q1
        go_loopw [40] (fun si wq => ∃ (j : Nat) (WS : Value) (ws S : List (Nat × Nat)), j ≤ x.l.length ∧ si = .int .i64 j ∧ Cmp w wq Cb M WS ws S ∧ Inv w v u (some p) j ws S ∧ p ∈ S ∧ Wt w ws (m + V.size.go (x.l.take j)) ∧ wq.heap[P7]? = some (.cells #[.pointer (some ⟨p.1, 0, none⟩), .pointer (some ⟨p.2, 0, none⟩)] 96 (0, 0)) ∧ WS.ownBlock ≠ some P7) (fun si _ => x.l.length - (intOf si).toNat)
        case atStart => exact ⟨0, _, ws0, S, by omega, rfl, hC2, hinv0, hpS, by simpa [V.size.go] using hwt0, XP2, fun e => by have e2 : some g = some P7 := e; injection e2 with e2; exact hgP e2⟩
        case round =>
          clear hC2 hinv0 hpS hwt0 XP2 hgP hgC hgM
          obtain ⟨j, WS, ws, S, hj, rfl, hC, hinv, hpS, hwt, XP, hWP⟩ := hrel
          obtain ⟨wq, rfl⟩ : ∃ wq, wq = wr := ⟨_, rfl⟩
          have hbel := hC.bel
          by_cases hlt : j < x.l.length
          · have hlty : j < y.l.length := by have := HLXY.out; omega
            obtain ⟨rb1, ro, rfl, -, hrx⟩ := GX.row (by omega)
            obtain ⟨sb, so, hya, -, hry⟩ := GY.row (by omega)
            have rj := GX.rep j hlt
            have sj := GY.rep j hlty
            have h1 := hrx j hlt
            have h2 := hry j hlty
            have h3 := GY.c4
            rw [hya] at h3
            have hone := rj.one
            have st := store_new 34 (HX j) .nilIface hone wq
            have e1 := (hbel.cell (World.block_lt_of_cell? _ _ h1)).trans h1
            have hAl : Below wq.heap.size wq (wq.alloc (.cells #[HX j] 34)) := (Below.refl _ _).alloc (Nat.le_refl _) _
            have hdr : Below wq.heap.size wq (wq.alloc (.cells #[HX j] 34)).drew := Below.drew hAl
            have hC3 := hC.below hdr
            have XB : (wq.alloc (.cells #[HX j] 34)).drew.heap[wq.heap.size]? = some (.cells #[HX j] 34 (0, 0)) := heap_alloc_new wq _
            have XP3 := (hdr.block P7 (Array.getElem?_eq_some_iff.1 XP).1).trans XP
            have hPl := (Array.getElem?_eq_some_iff.1 XP).1
            have hlen2 : ws.length ≤ 1048576 := by
              have h5 := hwt.len
              have h6 : V.size.go (x.l.take j) ≤ V.size.go x.l := size_take_le x.l j
              omega
            have CAL := alike_any hC3 rj sj (fun q hq => by obtain ⟨x', y', ⟨⟨_, _, g1⟩, _, _, g2⟩, -⟩ := hinv.all q hq; exact ⟨g1.plain, g2.plain⟩) hlen2
            have HF : Hid (∀ W', Below w.heap.size w W' → W'.heap[P7]? = some (.cells #[.pointer (some ⟨p.1, 0, none⟩), .pointer (some ⟨p.2, 0, none⟩)] 96 (0, 0)) → W'.heap[wq.heap.size]? = some (.cells #[HX j] 34 (0, 0)) → W'.cell? ⟨wq.heap.size, 0, none⟩ = some (HX j) ∧ W'.cell? ⟨P7, 1, none⟩ = some (.pointer (some ⟨p.2, 0, none⟩)) ∧ W'.cell? ⟨p.2, 4, none⟩ = some (.slice (some ⟨sb, so, none⟩) y.l.length yc) ∧ W'.cell? ⟨sb, so + j, none⟩ = some (HY j)) := fun W' hw hp hb => ⟨cell_of_row _ _ 0 _ _ _ hb, cell_of_row _ _ 1 _ _ _ hp, (hw.cell (World.block_lt_of_cell? _ _ h3)).trans h3, (hw.cell (World.block_lt_of_cell? _ _ h2)).trans h2⟩
            have hyl : (j : Int) < (y.l.length : Int) := by omega
            have hWq : ∀ k, WS.ownBlock = some k → k < wq.heap.size := fun k hk => (hC.own.lt k hk).2
            have hMq := hC.seen.lt
            have hCq := (Array.getElem?_eq_some_iff.1 hC.blk).1
            clear hAl h1 h2 h3 hrx hry
            go_upto_region 11 with fail
            refine wp_region_held_drew (S := fun w' => w'.cell? ⟨wq.heap.size, 0, none⟩ = some (HX j) ∧ w'.cell? ⟨P7, 1, none⟩ = some (.pointer (some ⟨p.2, 0, none⟩)) ∧ w'.cell? ⟨p.2, 4, none⟩ = some (.slice (some ⟨sb, so, none⟩) y.l.length yc) ∧ w'.cell? ⟨sb, so + j, none⟩ = some (HY j)) (by kernel_rfl) (HF.out _ hC3.bel XP3 XB) (fun hSS => ?_)
            generalize (wq.alloc (.cells #[HX j] 34)).drew = W3 at *
            refine wpAnyH_take (i := 0) (v := ?_) rfl (by kernel_rfl) (by kernel_rfl) (by kernel_rfl) (fun _ _ _ h => h) (Or.inl ⟨by rfl, ?_⟩) hSS ?_
            rotate_left
            · intro wz hSz
              obtain ⟨p0, p1, p2, p3⟩ := hSz
              go_simp
              try with_reducible rfl
            simp only [List.getElem_toArray, List.getElem_cons_zero, Act.put, List.setIfInBounds_toArray, List.set_cons_zero, List.set_cons_succ]
            refine wpAnyH_take (i := 1) (v := ?_) rfl (by kernel_rfl) (by kernel_rfl) (by kernel_rfl) (fun _ _ _ h => h) (Or.inl ⟨by rfl, ?_⟩) hSS ?_
            rotate_left
            · intro wz hSz
              go_simp
              try with_reducible rfl
            simp only [List.getElem_toArray, List.getElem_cons_zero, List.getElem_cons_succ, Act.put, List.setIfInBounds_toArray, List.set_cons_zero, List.set_cons_succ]
            refine wpAnyH_take (i := 2) (v := ?_) rfl (by kernel_rfl) (by kernel_rfl) (by kernel_rfl) (fun _ _ _ h => h) (Or.inl ⟨by rfl, ?_⟩) hSS ?_
            rotate_left
            · intro wz hSz
              obtain ⟨p0, p1, p2, p3⟩ := hSz
              go_simp
              try with_reducible rfl
            simp only [List.getElem_toArray, List.getElem_cons_zero, List.getElem_cons_succ, Act.put, List.setIfInBounds_toArray, List.set_cons_zero, List.set_cons_succ]
            refine wpAnyH_take (i := 3) (v := ?_) rfl (by kernel_rfl) (by kernel_rfl) (by kernel_rfl) (fun _ _ _ h => h) (Or.inl ⟨by rfl, ?_⟩) hSS ?_
            rotate_left
            · intro wz hSz
              go_simp
              try with_reducible rfl
            simp only [List.getElem_toArray, List.getElem_cons_zero, List.getElem_cons_succ, Act.put, List.setIfInBounds_toArray, List.set_cons_zero, List.set_cons_succ]
            refine wpAnyH_take (i := 4) (v := ?_) rfl (by kernel_rfl) (by kernel_rfl) (by kernel_rfl) (fun _ _ _ h => h) (Or.inl ⟨by rfl, ?_⟩) hSS ?_
            rotate_left
            · intro wz hSz
              go_simp
              try with_reducible rfl
            simp only [List.getElem_toArray, List.getElem_cons_zero, List.getElem_cons_succ, Act.put, List.setIfInBounds_toArray, List.set_cons_zero, List.set_cons_succ]
            refine wpAnyH_take (i := 5) (v := ?_) rfl (by kernel_rfl) (by kernel_rfl) (by kernel_rfl) (fun _ _ _ h => h) (Or.inl ⟨by rfl, ?_⟩) hSS ?_
            rotate_left
            · intro wz hSz
              obtain ⟨p0, p1, p2, p3⟩ := hSz
              go_simp
              try with_reducible rfl
            simp only [List.getElem_toArray, List.getElem_cons_zero, List.getElem_cons_succ, Act.put, List.setIfInBounds_toArray, List.set_cons_zero, List.set_cons_succ]
            refine wpAnyH_take (i := 6) (v := ?_) rfl (by kernel_rfl) (by kernel_rfl) (by kernel_rfl) (fun _ _ _ h => h) (Or.inl ⟨by rfl, ?_⟩) hSS ?_
            rotate_left
            · intro wz hSz
              go_simp
              try with_reducible rfl
            simp only [List.getElem_toArray, List.getElem_cons_zero, List.getElem_cons_succ, Act.put, List.setIfInBounds_toArray, List.set_cons_zero, List.set_cons_succ]
            refine wpAnyH_take (i := 7) (v := ?_) rfl (by kernel_rfl) (by kernel_rfl) (by kernel_rfl) (fun _ _ _ h => h) (Or.inl ⟨by rfl, ?_⟩) hSS ?_
            rotate_left
            · intro wz hSz
              go_simp
              try with_reducible rfl
            simp only [List.getElem_toArray, List.getElem_cons_zero, List.getElem_cons_succ, Act.put, List.setIfInBounds_toArray, List.set_cons_zero, List.set_cons_succ]
            refine wpAnyH_take (i := 8) (v := ?_) rfl (by kernel_rfl) (by kernel_rfl) (by kernel_rfl) (fun _ _ _ h => h) (Or.inl ⟨by rfl, ?_⟩) hSS ?_
            rotate_left
            · intro wz hSz
              obtain ⟨p0, p1, p2, p3⟩ := hSz
              go_simp
              try with_reducible rfl
            simp only [List.getElem_toArray, List.getElem_cons_zero, List.getElem_cons_succ, Act.put, List.setIfInBounds_toArray, List.set_cons_zero, List.set_cons_succ]
            refine wpAnyH_ready (rs := [9]) (by kernel_rfl) (by simp) (AllReadyH.cons rfl (fun K1 hK1 => ?_) AllReadyH.nil)
            refine step_want (by rfl) ?_
            simp only [List.getElem_toArray, List.getElem_cons_zero, List.getElem_cons_succ]
            go_simp
            go_at_call 48
            refine CAL.mono ?_
            rintro e w9 ⟨r, WS', ws', S', rfl, hC9, ht, hK⟩
            have hb9 := hC9.bel
            have hs3 := hdr.size
            have XP9 := (hK.block P7 (by omega) hPC hPM hWP).trans XP3
            have XB9 := (hK.block wq.heap.size (Array.getElem?_eq_some_iff.1 XB).1 (by omega) (by omega) (fun e => by have := hWq _ e; omega)).trans XB
            go_simp
            refine hK1.out _ _ (HF.out _ hb9 XP9 XB9) (fun hSS => ?_)
            clear hK1 CAL XB9 HF
            cases r
            all_goals
              refine wpAnyH_take (i := 10) (v := ?_) rfl (by kernel_rfl) (by kernel_rfl) (by kernel_rfl) (fun _ _ _ h => h) (Or.inl ⟨by rfl, ?_⟩) hSS ?_
              rotate_left
              · intro wz hSz
                go_simp
                try with_reducible rfl
              simp only [List.getElem_toArray, List.getElem_cons_zero, List.getElem_cons_succ, Act.put, List.setIfInBounds_toArray, List.set_cons_zero, List.set_cons_succ]
              refine wpAnyH_done (by kernel_rfl) ?_ _
            · have hne := hinv.fall hpar hpS hlt hlty ht
              go_wp2_with fail
              go_ret
              exact ⟨⟨false, rfl, by simpa using hne⟩, hb9⟩
            · have hS2 : p ∈ S' := by
                rcases ht.2 rfl with ⟨-, rfl, -⟩ | ⟨q, -, -, rfl, -, -⟩
                · exact hpS
                · simp [hpS]
              have hi2 := hinv.step hpar hpS hlt hlty ht
              have hw2 := hwt.told ht
              rw [Nat.add_assoc, ← size_take hlt] at hw2
              have hWP2 : WS'.ownBlock ≠ some P7 := fun e => by
                rcases hK.own with h | ⟨k, h5, h6⟩
                · exact hWP (by rw [← h, e])
                · rw [h6] at e; injection e with e; have := hdr.size; omega
              clear hinv ht hwt hC hK
              go_wp2_with fail
              go_roundw
              case rel => exact ⟨j + 1, WS', ws', S', by omega, by go_num, hC9, hi2, hS2, hw2, XP9, hWP2⟩
              case measure => simp [intOf]; omega
          · obtain rfl : j = x.l.length := by omega
            rw [List.take_length] at hwt
            have hfull := hinv.full hpar (Nat.le_refl _)
            clear hinv
            go_wp2_with fail
            go_roundg (m + V.size.go x.l)
            case measure => omega
            case rel => exact ⟨WS, ws, S, hC, hfull, hwt, by omega⟩
end Go.Proofs.YtepohbcpepkboaaGreat

