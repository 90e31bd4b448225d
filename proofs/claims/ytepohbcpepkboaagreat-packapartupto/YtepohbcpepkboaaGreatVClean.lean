/- What the document's Clean makes of a value: a clean one, in memory of its own. Condition: a value of at most 1048576 values and letters. -/
import Derived.Test.YtepohbcpepkboaaGreatVClean7
import Derived.Deep.RegionHeld
import Derived.Deep.RegionLaw
import Derived.Deep.CutRange
namespace Go.Proofs.YtepohbcpepkboaaGreat
open Go.RowKit Go.Maps Go.WideMaps
set_option maxRecDepth 100000 in
set_option maxHeartbeats 6400000 in
theorem clean_any {w0 : World} {ok : Nat → Prop} {v : V} {p : VP} (h : VIn w0 ok v p) : ∀ w, Below w0.heap.size w0 w → v.bulk ≤ 1048576 →
    Calls Tryz.prog 9 #[v.val p] w fun e w' => ∃ p', e = .returned (v.clean.val p') ∧ VIn w' (fun b => w.heap.size ≤ b) v.clean p' ∧ Below w.heap.size w w' := by
  induction h using VIn.ind with
  | mk k b n m s l q p P hk hn hm hs hl hq hkeys hc hin ih =>
    intro w hb0 hbk
    have hB0 := BC.start w (V.mk k b n m s l q) p
    obtain ⟨la, lc, ka, kc⟩ := p
    have hbx : Below w.heap.size w ((w.alloc (.cells #[.int .i64 k, .bool b, .int .i64 n, .int .i64 m, .string s, .slice la l.length lc, .slice ka q.length kc] 25)).alloc (.cells #[.int .i64 0, .bool false, .int .i64 0, .int .i64 0, .string ByteArray.empty, .slice none 0 0, .slice none 0 0] 25)) := hB0.2.2
    unfold V.val
    dsimp only [V.k, V.b, V.n, V.m, V.s, V.l, V.keys] at *
    by_cases h1 : k = 1
    · subst h1
      have HC : Hid ((V.mk 1 b n m s l q).clean = .mk 1 false 0 0 ByteArray.empty [] []) := by show V.clean _ = _; simp [V.clean]
      have HV : Hid (∀ W, VIn W (fun b => w.heap.size ≤ b) (V.mk 1 false 0 0 ByteArray.empty [] []) ⟨none, 0, none, 0⟩) := fun W => VIn.plain W _ _ _ _ _ _ (by unfold I64; omega) i64_0 i64_0 empty_max
      have hbR : Below w.heap.size w ((w.alloc (.cells #[.int .i64 1, .bool b, .int .i64 n, .int .i64 m, .string s, .slice la l.length lc, .slice ka q.length kc] 25)).alloc (.cells #[.int .i64 1, .bool false, .int .i64 0, .int .i64 0, .string ByteArray.empty, .slice none 0 0, .slice none 0 0] 25)) := ((Below.refl _ _).alloc (Nat.le_refl _) _).alloc (by simp) _
      clear hk hn hm hs hl hq hkeys hc hin ih hbk hb0 hB0 hbx
      rw [HC.out]
      go_enter Tryz.func9, Tryz.ntmps9
      go_wp2_with fail
      exact bodyPost_ret (v := .agg #[.int .i64 1, .bool false, .int .i64 0, .int .i64 0, .string ByteArray.empty, .slice none 0 0, .slice none 0 0]) (by simp [results, Tryz.results9, go_sem] <;> rfl) rfl ⟨_, rfl, HV.out _, hbR⟩
    by_cases h2 : k = 2
    · subst h2
      have HC : Hid ((V.mk 2 b n m s l q).clean = .mk 2 b 0 0 ByteArray.empty [] []) := by show V.clean _ = _; simp [V.clean]
      have HV : Hid (∀ W, VIn W (fun b => w.heap.size ≤ b) (V.mk 2 b 0 0 ByteArray.empty [] []) ⟨none, 0, none, 0⟩) := fun W => VIn.plain W _ _ _ _ _ _ (by unfold I64; omega) i64_0 i64_0 empty_max
      have hbR : Below w.heap.size w ((w.alloc (.cells #[.int .i64 2, .bool b, .int .i64 n, .int .i64 m, .string s, .slice la l.length lc, .slice ka q.length kc] 25)).alloc (.cells #[.int .i64 2, .bool b, .int .i64 0, .int .i64 0, .string ByteArray.empty, .slice none 0 0, .slice none 0 0] 25)) := ((Below.refl _ _).alloc (Nat.le_refl _) _).alloc (by simp) _
      clear hk hn hm hs hl hq hkeys hc hin ih hbk hb0 hB0 hbx
      rw [HC.out]
      go_enter Tryz.func9, Tryz.ntmps9
      go_wp2_with fail
      exact bodyPost_ret (v := .agg #[.int .i64 2, .bool b, .int .i64 0, .int .i64 0, .string ByteArray.empty, .slice none 0 0, .slice none 0 0]) (by simp [results, Tryz.results9, go_sem] <;> rfl) rfl ⟨_, rfl, HV.out _, hbR⟩
    by_cases h3 : k = 3
    · subst h3
      have HC : Hid ((V.mk 3 b n m s l q).clean = .mk 3 false n 0 ByteArray.empty [] []) := by show V.clean _ = _; simp [V.clean]
      have HV : Hid (∀ W, VIn W (fun b => w.heap.size ≤ b) (V.mk 3 false n 0 ByteArray.empty [] []) ⟨none, 0, none, 0⟩) := fun W => VIn.plain W _ _ _ _ _ _ (by unfold I64; omega) hn i64_0 empty_max
      have hbR : Below w.heap.size w ((w.alloc (.cells #[.int .i64 3, .bool b, .int .i64 n, .int .i64 m, .string s, .slice la l.length lc, .slice ka q.length kc] 25)).alloc (.cells #[.int .i64 3, .bool false, .int .i64 n, .int .i64 0, .string ByteArray.empty, .slice none 0 0, .slice none 0 0] 25)) := ((Below.refl _ _).alloc (Nat.le_refl _) _).alloc (by simp) _
      clear hk hn hm hs hl hq hkeys hc hin ih hbk hb0 hB0 hbx
      rw [HC.out]
      go_enter Tryz.func9, Tryz.ntmps9
      go_wp2_with fail
      exact bodyPost_ret (v := .agg #[.int .i64 3, .bool false, .int .i64 n, .int .i64 0, .string ByteArray.empty, .slice none 0 0, .slice none 0 0]) (by simp [results, Tryz.results9, go_sem] <;> rfl) rfl ⟨_, rfl, HV.out _, hbR⟩
    by_cases h4 : k = 4
    · subst h4
      have HC : Hid ((V.mk 4 b n m s l q).clean = .mk 4 false (min (max n (-9007199254740992)) 9007199254740992) (min (max m (-9007199254740992)) 9007199254740992) ByteArray.empty [] []) := by show V.clean _ = _; simp [V.clean]
      have HV : Hid (∀ W, VIn W (fun b => w.heap.size ≤ b) (V.mk 4 false (min (max n (-9007199254740992)) 9007199254740992) (min (max m (-9007199254740992)) 9007199254740992) ByteArray.empty [] []) ⟨none, 0, none, 0⟩) := fun W => VIn.plain W _ _ _ _ _ _ (by unfold I64; omega) (by unfold I64; omega) (by unfold I64; omega) empty_max
      have hbR : Below w.heap.size w ((w.alloc (.cells #[.int .i64 4, .bool b, .int .i64 n, .int .i64 m, .string s, .slice la l.length lc, .slice ka q.length kc] 25)).alloc (.cells #[.int .i64 4, .bool false, .int .i64 (min (max n (-9007199254740992)) 9007199254740992), .int .i64 (min (max m (-9007199254740992)) 9007199254740992), .string ByteArray.empty, .slice none 0 0, .slice none 0 0] 25)) := ((Below.refl _ _).alloc (Nat.le_refl _) _).alloc (by simp) _
      clear hk hn hm hs hl hq hkeys hc hin ih hbk hb0 hB0 hbx
      rw [HC.out]
      go_enter Tryz.func9, Tryz.ntmps9
      go_wp2_with fail
      exact bodyPost_ret (v := .agg #[.int .i64 4, .bool false, .int .i64 (min (max n (-9007199254740992)) 9007199254740992), .int .i64 (min (max m (-9007199254740992)) 9007199254740992), .string ByteArray.empty, .slice none 0 0, .slice none 0 0]) (by simp [results, Tryz.results9, go_sem] <;> rfl) rfl ⟨_, rfl, HV.out _, hbR⟩
    by_cases h5 : k = 5
    · subst h5
      have HC : Hid ((V.mk 5 b n m s l q).clean = .mk 5 false 0 0 s [] []) := by show V.clean _ = _; simp [V.clean]
      have HV : Hid (∀ W, VIn W (fun b => w.heap.size ≤ b) (V.mk 5 false 0 0 s [] []) ⟨none, 0, none, 0⟩) := fun W => VIn.plain W _ _ _ _ _ _ (by unfold I64; omega) i64_0 i64_0 hs
      have hbR : Below w.heap.size w ((w.alloc (.cells #[.int .i64 5, .bool b, .int .i64 n, .int .i64 m, .string s, .slice la l.length lc, .slice ka q.length kc] 25)).alloc (.cells #[.int .i64 5, .bool false, .int .i64 0, .int .i64 0, .string s, .slice none 0 0, .slice none 0 0] 25)) := ((Below.refl _ _).alloc (Nat.le_refl _) _).alloc (by simp) _
      clear hk hn hm hs hl hq hkeys hc hin ih hbk hb0 hB0 hbx
      rw [HC.out]
      go_enter Tryz.func9, Tryz.ntmps9
      go_wp2_with fail
      exact bodyPost_ret (v := .agg #[.int .i64 5, .bool false, .int .i64 0, .int .i64 0, .string s, .slice none 0 0, .slice none 0 0]) (by simp [results, Tryz.results9, go_sem] <;> rfl) rfl ⟨_, rfl, HV.out _, hbR⟩
    by_cases h6 : k = 6
    · subst h6
      have hll : l.length ≤ 1048576 := by have := len_le_bulkL l; simp only [V.bulk] at hbk; omega
      have hbl : V.bulk.go l ≤ 1048576 := by simp only [V.bulk] at hbk; omega
      have HC : Hid ((V.mk 6 b n m s l q).clean = .mk 6 false 0 0 ByteArray.empty (V.clean.go l) []) := by show V.clean _ = _; simp [V.clean]
      have CC : Hid (∀ (W : World) (j : Nat) (hj : j < l.length), Below w0.heap.size w0 W → Calls Tryz.prog 9 #[l[j].val (P j)] W fun e w' => ∃ p', e = .returned (l[j].clean.val p') ∧ VIn w' (fun b => W.heap.size ≤ b) l[j].clean p' ∧ Below W.heap.size W w') := fun W j hj hW => ih j hj W hW (Nat.le_trans (bulk_mem (List.getElem_mem hj)) hbl)
      obtain ⟨i0, hi, hz0, hz1, hz2⟩ := info_parts7 infoV
      have HX : Hid ((((w.alloc (.cells #[.int .i64 6, .bool b, .int .i64 n, .int .i64 m, .string s, .slice la l.length lc, .slice ka q.length kc] 25)).alloc (.cells #[.int .i64 0, .bool false, .int .i64 0, .int .i64 0, .string ByteArray.empty, .slice none 0 0, .slice none 0 0] 25)).alloc (.cells #[.int .i64 6, .bool false, .int .i64 0, .int .i64 0, .string ByteArray.empty, .slice none 0 0, .slice none 0 0] 25)).heap[w.heap.size + 2]? = some (.cells #[.int .i64 6, .bool false, .int .i64 0, .int .i64 0, .string ByteArray.empty, .slice none 0 0, .slice none 0 0] 25 (0, 0))) := by
        have := heap_alloc_new ((w.alloc (.cells #[.int .i64 6, .bool b, .int .i64 n, .int .i64 m, .string s, .slice la l.length lc, .slice ka q.length kc] 25)).alloc (.cells #[.int .i64 0, .bool false, .int .i64 0, .int .i64 0, .string ByteArray.empty, .slice none 0 0, .slice none 0 0] 25)) (.cells #[.int .i64 6, .bool false, .int .i64 0, .int .i64 0, .string ByteArray.empty, .slice none 0 0, .slice none 0 0] 25)
        simp only [World.size_alloc] at this
        exact this
      have hB1 := hB0.below ((Below.refl _ _).alloc (Nat.le_refl _) (.cells #[.int .i64 6, .bool false, .int .i64 0, .int .i64 0, .string ByteArray.empty, .slice none 0 0, .slice none 0 0] 25))
      rw [HC.out]
      clear hk hn hm hs hl hq hkeys hin ih hbk hB0 hbx HC hbl
      go_enter Tryz.func9, Tryz.ntmps9
      go_wp2_with fail
      go_loopw [4] (fun si wr => ∃ (j : Nat) (SV : Value), j ≤ l.length ∧ si = .int .i64 j ∧ VLOwn wr (w.heap.size + 3) SV (V.clean.go (l.take j)) ∧ wr.heap[w.heap.size + 2]? = some (.cells #[.int .i64 6, .bool false, .int .i64 0, .int .i64 0, .string ByteArray.empty, SV, .slice none 0 0] 25 (0, 0)) ∧ BC w wr (V.mk 6 b n m s l q) ⟨la, lc, ka, kc⟩) (fun si _ => l.length - (intOf si).toNat)
      case atStart => exact ⟨0, _, by omega, rfl, VLOwn.nil _ _, HX.out, hB1⟩
      case round =>
        obtain ⟨j, SV, hj, rfl, hO, hX, hB⟩ := hrel
        have b5 := hB.cells 5
        have x5 := cell_of_row _ _ 5 _ _ _ hX
        have x5f := frozen_of_row _ _ 5 _ _ hX
        simp only [V.cells, List.getElem?_cons_succ, List.getElem?_cons_zero, List.getElem?_toArray] at b5 x5
        clear hB1 HX
        by_cases hlt : j < l.length
        · have hbw := hb0.trans (hB.2.2.mono hb0.size)
          obtain ⟨bl, off, rfl, -, hcc⟩ := hc (by intro e; subst e; simp at hlt)
          obtain ⟨c0, c1, c2, c3, c4, c5, c6⟩ := (hcc j hlt).below hbw
          have C : Hid (∀ W, Below wr.heap.size wr W → Calls Tryz.prog 9 #[l[j].val (P j)] W fun e w' => ∃ p', e = .returned (l[j].clean.val p') ∧ VIn w' (fun b => wr.heap.size ≤ b) l[j].clean p' ∧ Below wr.heap.size wr w') := fun W hW => by
            refine (CC.out W j hlt (hbw.trans (hW.mono hbw.size))).mono ?_
            rintro e w' ⟨p', rfl, h1, h2⟩
            exact ⟨p', rfl, h1.mono (fun b hb _ => by have := hW.size; omega), hW.trans (h2.mono hW.size)⟩
          have HT : Hid (V.clean.go (l.take (j + 1)) = V.clean.go (l.take j) ++ [l[j].clean]) := by show V.clean.go _ = _; rw [cleanL_map, cleanL_map, List.take_succ_eq_append_getElem hlt, List.map_append]; rfl
          have hlen : (V.clean.go (l.take j)).length = j := by rw [cleanL_map, List.length_map, List.length_take]; omega
          obtain ⟨ps, hps, ho, hre⟩ := hO
          have hlt2 := hB.lt
          have hlt3 : w.heap.size + 2 < wr.heap.size := (Array.getElem?_eq_some_iff.1 hX).1
          clear hcc hc CC
          generalize hxx : l[j].clean = x at *
          generalize l[j] = xo at *
          generalize P j = xp at *
          unfold V.val at C
          go_upto_region 17 with fail
          go_region_law (first
            | (go_simp; go_at_call 9; refine (C.out _ (Below.drew (Below.refl _ _))).mono ?_; rintro e w5 ⟨yp, rfl, hv5, hb5⟩; have hlt5 : w.heap.size + 2 < w5.heap.size := Nat.lt_of_lt_of_le hlt3 hb5.size; have y5 := (hb5.cell (p := ⟨w.heap.size + 2, 5, none⟩) hlt3).trans x5; have y5f := (hb5.frozen (p := ⟨w.heap.size + 2, 5, none⟩) hlt3).trans x5f; have ho5 := (own_below7 ho hb5).alloc (.cells #[.int .i64 x.k, .bool x.b, .int .i64 x.n, .int .i64 x.m, .string x.s, .slice yp.la x.l.length yp.lc, .slice yp.ka x.keys.length yp.kc] 25); go_simp)
            | (refine step_append_lies _ (by rfl) _ _ _ (by rfl) (w.heap.size + 3) 25 i0 _ 7 96 Tryz.underlying22 hi hz0 hz1 hz2 rfl (by omega) SV (V.clean.go (l.take j)).length (vcells ps) (by rfl) ho5 ⟨w5.heap.size, 0, none⟩ 1 1 (x.cells yp) (by rfl) (by rfl) (new_cells w5 x yp) (fun u hu => vcells_one [(x, yp)] u (by simpa [vcells] using hu)) (by omega) (by unfold maxLen; omega) (by omega) (by have := hb5.size; simp; omega) _ rfl ?_; intro g gc w7 hown7 hgrow7 hat7 hlt7; have hX7 := (hgrow7.block (w.heap.size + 2) (by have := hb5.size; simp; omega) (fun e => by have := (ho.lt _ e.symm).1; omega)).trans ((Below.heap_alloc w5 _ _ (by have := hb5.size; omega)).trans ((hb5.block _ hlt3).trans hX)); have u5 := cell_of_row _ _ 5 _ _ _ hX7; have u5f := frozen_of_row _ _ 5 _ _ hX7; simp only [List.getElem?_cons_succ, List.getElem?_cons_zero, List.getElem?_toArray] at u5)
            | fail)
          all_goals
            have hO7 := VLOwn.snoc hps ho hre hb5 hv5 (by omega) _ hown7 hgrow7 (hat7.elim (fun h => Or.inl h.symm) (fun h => Or.inr (by rw [h]; rfl)))
            have hB7 := ((hB.below hb5).below ((Below.refl _ w5).alloc (Nat.le_refl _) _)).grown hgrow7 (fun k hk => by have := (ho.lt k hk).1; omega)
            have hX8 := heap_setCell_same _ _ 5 _ _ (.slice (some ⟨g, 0, none⟩) ((V.clean.go (l.take j)).length + 1) gc) hX7
            have hB8 := hB7.set (i := 5) (k := w.heap.size + 2) (Nat.le_refl _) (.slice (some ⟨g, 0, none⟩) ((V.clean.go (l.take j)).length + 1) gc)
            have hO8 : VLOwn (w7.setCell ⟨w.heap.size + 2, 5, none⟩ (.slice (some ⟨g, 0, none⟩) ((V.clean.go (l.take j)).length + 1) gc)) (w.heap.size + 3) (.slice (some ⟨g, 0, none⟩) ((V.clean.go (l.take j)).length + 1) gc) (V.clean.go (l.take (j + 1))) := by
              rw [HT.out]
              exact hO7.setBelow (by omega) _
            rw [hlen] at hO8 hX8 hB8
            clear hO7 hB7 hown7 hgrow7 hat7 hv5 ho5 ho hre hB hX hX7 HT C
            go_wp2_with fail
            go_roundw
            case rel => exact ⟨j + 1, _, by omega, by go_num, hO8, hX8, hB8⟩
            case measure => simp [intOf]; omega
        · obtain rfl : j = l.length := by omega
          rw [List.take_length] at hO
          obtain ⟨a5, c5, rfl, hsl, P5, hrr, hri⟩ := hO.row
          have x0 := cell_of_row _ _ 0 _ _ _ hX
          have x1 := cell_of_row _ _ 1 _ _ _ hX
          have x2 := cell_of_row _ _ 2 _ _ _ hX
          have x3 := cell_of_row _ _ 3 _ _ _ hX
          have x4 := cell_of_row _ _ 4 _ _ _ hX
          have x6 := cell_of_row _ _ 6 _ _ _ hX
          have y0 := cell_of_row _ _ 0 _ _ _ hB.2.1
          have y1 := cell_of_row _ _ 1 _ _ _ hB.2.1
          have y2 := cell_of_row _ _ 2 _ _ _ hB.2.1
          have y3 := cell_of_row _ _ 3 _ _ _ hB.2.1
          have y4 := cell_of_row _ _ 4 _ _ _ hB.2.1
          have y5 := cell_of_row _ _ 5 _ _ _ hB.2.1
          have y6 := cell_of_row _ _ 6 _ _ _ hB.2.1
          have yf := fun o => frozen_of_row _ _ o _ _ hB.2.1
          simp only [List.getElem?_cons_succ, List.getElem?_cons_zero, List.getElem?_toArray] at x0 x1 x2 x3 x4 x6 y0 y1 y2 y3 y4 y5 y6
          obtain ⟨g1, g2, g3⟩ := set7 hB (.int .i64 6) (.bool false) (.int .i64 0) (.int .i64 0) (.string ByteArray.empty) (.slice a5 (V.clean.go l).length c5) (.slice none 0 0) (VIn.mk 6 false 0 0 ByteArray.empty (V.clean.go l) [] ⟨a5, c5, none, 0⟩ P5 (by unfold I64; omega) i64_0 i64_0 empty_max hsl ⟨fun _ => ⟨rfl, rfl⟩, Nat.le_refl _, by simp [maxLen]⟩ (SRow.nil _ _ _) hrr hri)
          have d0 := cell_of_row _ _ 0 _ _ _ g1
          have d1 := cell_of_row _ _ 1 _ _ _ g1
          have d2 := cell_of_row _ _ 2 _ _ _ g1
          have d3 := cell_of_row _ _ 3 _ _ _ g1
          have d4 := cell_of_row _ _ 4 _ _ _ g1
          have d5 := cell_of_row _ _ 5 _ _ _ g1
          have d6 := cell_of_row _ _ 6 _ _ _ g1
          simp only [List.getElem?_cons_succ, List.getElem?_cons_zero, List.getElem?_toArray] at d0 d1 d2 d3 d4 d5 d6
          clear CC hc hrr hri
          go_wp2_with fail
          exact bodyPost_ret (v := .agg #[.int .i64 6, .bool false, .int .i64 0, .int .i64 0, .string ByteArray.empty, .slice a5 (V.clean.go l).length c5, .slice none 0 0]) (by simp [results, Tryz.results9, go_sem, d0, d1, d2, d3, d4, d5, d6]) rfl ⟨⟨a5, c5, none, 0⟩, rfl, g3, g2⟩
    by_cases h7 : k = 7
    · subst h7
      have hbl : V.bulk.go l ≤ 1048576 := by simp only [V.bulk] at hbk; omega
      have C7 := clean_map (lc := lc) (kc := kc) (b := b) (n := n) (m := m) (s := s) hkeys hc w hb0 hbk (fun W j hj hW => ih j hj W hW (Nat.le_trans (bulk_mem (List.getElem_mem hj)) hbl))
      unfold V.val at C7
      exact C7
    · have e1 : (k == 1) = false := by simpa using h1
      have e2 : (k == 2) = false := by simpa using h2
      have e3 : (k == 3) = false := by simpa using h3
      have e4 : (k == 4) = false := by simpa using h4
      have e5 : (k == 5) = false := by simpa using h5
      have e6 : (k == 6) = false := by simpa using h6
      have e7 : (k == 7) = false := by simpa using h7
      have HC : Hid ((V.mk k b n m s l q).clean = .mk 0 false 0 0 ByteArray.empty [] []) := by show V.clean _ = _; simp [V.clean, h1, h2, h3, h4, h5, h6, h7, V.null]
      have HV : Hid (∀ W, VIn W (fun b => w.heap.size ≤ b) (V.mk 0 false 0 0 ByteArray.empty [] []) ⟨none, 0, none, 0⟩) := fun W => VIn.plain W _ _ _ _ _ _ (by unfold I64; omega) i64_0 i64_0 empty_max
      have hbR : Below w.heap.size w ((w.alloc (.cells #[.int .i64 k, .bool b, .int .i64 n, .int .i64 m, .string s, .slice la l.length lc, .slice ka q.length kc] 25)).alloc (.cells #[.int .i64 0, .bool false, .int .i64 0, .int .i64 0, .string ByteArray.empty, .slice none 0 0, .slice none 0 0] 25)) := ((Below.refl _ _).alloc (Nat.le_refl _) _).alloc (by simp) _
      clear hk hn hm hs hl hq hkeys hc hin ih hbk hb0 hB0 hbx
      rw [HC.out]
      go_enter Tryz.func9, Tryz.ntmps9
      go_wp2_with fail
      exact bodyPost_ret (v := .agg #[.int .i64 0, .bool false, .int .i64 0, .int .i64 0, .string ByteArray.empty, .slice none 0 0, .slice none 0 0]) (by simp [results, Tryz.results9, go_sem] <;> rfl) rfl ⟨_, rfl, HV.out _, hbR⟩
end Go.Proofs.YtepohbcpepkboaaGreat

