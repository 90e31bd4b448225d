/- ValueMaps, walked: of any keys, values and numbers it answers true. Condition: keys and values of together at most 1048572 values and letters. -/
import Derived.Test.YtnoioafgbofbnaaVMakes
import Derived.Test.YtnoioafgbofbnaaVMapsP
namespace Go.Proofs.Ytnoioafgbofbnaa
open Go.RowKit Go.Maps Go.WideMaps

set_option maxRecDepth 100000 in
set_option maxHeartbeats 6400000 in
theorem maps_walk {w : World} {q : List ByteArray} {ka : Option Addr} {kc : Nat} {l : List V} {la : Option Addr} {lc : Nat} (hq : SRow w (fun _ => True) ka q) (hqs : SliceOk ka q.length kc) (hl : VRow w (fun _ => True) la l) (hls : SliceOk la l.length lc) {re im : Int} (hre : I64 re) (him : I64 im) (hbk : V.bulk.go l + (q.map (fun s => 1 + s.size)).sum ≤ 1048572) :
    Calls Try.prog 7 #[.slice ka q.length kc, .slice la l.length lc, .int .i64 re, .int .i64 im] w fun e w' => e = .returned (.bool true) ∧ Below w.heap.size w w' := by
  have CA : Hid (∀ W, Calls Try.prog 9 #[] W fun e w' => e = .returned (.bool true) ∧ Below W.heap.size W w') := awake4_any
  by_cases h1 : 40 < q.length
  · have h1' : (40 : Int) < (q.length : Int) := by omega
    clear hq hl hbk
    go_enter Try.func7, Try.ntmps7
    go_wp2_with fail
    refine (CA.out _).mono ?_
    rintro e w2 ⟨rfl, hb2⟩
    go_wp2_with fail
    go_ret
    exact ⟨rfl, hb2⟩
  have h1' : ¬ (40 : Int) < (q.length : Int) := by omega
  by_cases h2 : 40 < l.length
  · have h2' : (40 : Int) < (l.length : Int) := by omega
    clear hq hl hbk
    go_enter Try.func7, Try.ntmps7
    go_wp2_with fail
    refine (CA.out _).mono ?_
    rintro e w2 ⟨rfl, hb2⟩
    go_wp2_with fail
    go_ret
    exact ⟨rfl, hb2⟩
  have h2' : ¬ (40 : Int) < (l.length : Int) := by omega
  obtain ⟨P, hc, hin⟩ := hl
  have hbl : V.bulk.go l ≤ 1048576 := by omega
  have CG : Hid (∀ (W : World) (j : Nat) (hj : j < l.length), Below w.heap.size w W → Calls Try.prog 8 #[l[j].val (P j)] W fun e w' => (∃ g : Int, e = .returned (.int .i64 g)) ∧ Below W.heap.size W w') := fun W j hj hW => great_v (hin j hj) W hW (Nat.le_trans (bulk_mem (List.getElem_mem hj)) hbl)
  have CC : Hid (∀ (W : World) (j : Nat) (hj : j < l.length), Below w.heap.size w W → Calls Try.prog 10 #[l[j].val (P j)] W fun e w' => ∃ p', e = .returned (l[j].clean.val p') ∧ VIn w' (fun b => W.heap.size ≤ b) l[j].clean p' ∧ Below W.heap.size W w') := fun W j hj hW => clean_any (hin j hj) W hW (Nat.le_trans (bulk_mem (List.getElem_mem hj)) hbl)
  have CT : Hid (∀ (j : Nat) (hj : j < l.length) (W : World) (xp : VP) (ok : Nat → Prop), VIn W ok l[j].clean xp → Calls Try.prog 11 #[l[j].clean.val xp] W fun e w' => ∃ u, e = .returned (.agg #[u]) ∧ u.oneCell' = true ∧ Rep w' (fun b => W.heap.size ≤ b) u l[j].clean ∧ Below W.heap.size W w') := fun j hj W xp ok hx => by
    refine (to_any hx W (Below.refl _ _) (Nat.le_trans (clean_bulk _) (Nat.le_trans (bulk_mem (List.getElem_mem hj)) hbl)) (clean_cl _)).mono ?_
    rintro e w' ⟨u, rfl, h1, h2⟩
    exact ⟨u, rfl, h1.one, h1, h2⟩
  go_enter Try.func7, Try.ntmps7
  go_wp2_with fail
  refine (CA.out _).mono ?_
  rintro e w2 ⟨rfl, hb2⟩
  go_wp2_with fail
  go_loopw [9, 10] (fun s9 si wr => ∃ (j : Nat) (SV : Value), j ≤ l.length ∧ si = .int .i64 j ∧ SV = s9 ∧ VOwn wr w.heap.size SV ((l.take j).map V.clean) ∧ Below w.heap.size w wr) (fun _ si _ => l.length - (intOf si).toNat)
  case atStart => exact ⟨0, _, by omega, rfl, rfl, VOwn.nil _ _, hb2⟩
  case round =>
    clear hb2
    obtain ⟨j, SV, hj, rfl, rfl, hO, hB⟩ := hrel
    have hsW := hB.size
    by_cases hlt : j < l.length
    · obtain ⟨bl, off, rfl, -, hcc⟩ := hc (by intro e; subst e; simp at hlt)
      obtain ⟨c0, c1, c2, c3, c4, c5, c6⟩ := (hcc j hlt).below hB
      have C1 := CG.out _ j hlt hB
      have C2 : Hid (∀ W, Below w.heap.size w W → Calls Try.prog 10 #[l[j].val (P j)] W fun e w' => ∃ p', e = .returned (l[j].clean.val p') ∧ VIn w' (fun b => W.heap.size ≤ b) l[j].clean p' ∧ Below W.heap.size W w') := fun W hW => CC.out W j hlt hW
      have C3 := CT.out j hlt
      have hrd : Hid (∀ W, Below w.heap.size w W → VAt W bl off j l[j] (P j)) := fun W hW => (hcc j hlt).below hW
      have HT : Hid ((l.take (j + 1)).map V.clean = (l.take j).map V.clean ++ [l[j].clean]) := by show List.map _ _ = _; rw [List.take_succ_eq_append_getElem hlt, List.map_append]; rfl
      have hlen : ((l.take j).map V.clean).length = j := by simp; omega
      clear hcc hc CG CC CT hin hq
      generalize l[j].clean = x at *
      generalize l[j] = xe at *
      generalize P j = xp at *
      unfold V.val at C1 C2
      unfold VAt at hrd
      go_wp2_with fail
      refine C1.mono ?_
      rintro e w3 ⟨⟨g, rfl⟩, hb3⟩
      have hB3 := hB.trans (hb3.mono hsW)
      replace hO := hO.below hb3
      clear c0 c1 c2 c3 c4 c5 c6 C1 hb3
      obtain ⟨c0, c1, c2, c3, c4, c5, c6⟩ := hrd.out _ hB3
      by_cases hg : 0 < g
      · go_wp2_with fail
        go_ret
        exact ⟨rfl, hB3⟩
      · go_wp2_with fail
        refine (C2.out _ hB3).mono ?_
        rintro e w4 ⟨yp, rfl, hx4, hb4⟩
        have hB4 := hB3.trans (hb4.mono hB3.size)
        replace hO := hO.below hb4
        have C4 := C3 w4 yp _ hx4
        unfold V.val at C4
        clear c0 c1 c2 c3 c4 c5 c6 C2 C3 hb4 hrd
        go_wp2_with fail
        refine C4.mono ?_
        rintro e w5 ⟨u, rfl, hu1, hu, hb5⟩
        have hB5 := hB4.trans (hb5.mono hB4.size)
        have hs4 := hB4.size
        have hs5 := hb5.size
        obtain ⟨us, ho, hus, hre5⟩ := hO
        have ho5 := (cown_below ho hb5).alloc (.cells #[u] 30)
        have hcr : CRow (w5.alloc (.cells #[u] 30)) (fun _ => True) (some ⟨w5.heap.size, 0, none⟩) [u] := fun _ => ⟨w5.heap.size, 0, rfl, trivial, fun i v' hi => by
          rw [cell_of_row _ _ _ _ _ _ (heap_alloc_new w5 _)]
          simpa using hi⟩
        clear C4
        go_wp2_with (at_builtin; go_must (refine wpList_append_at rfl (.tmp 46) (.tmp 53) 57 30 _ _ Try.underlying57 infoVal rfl (by decide) rfl w.heap.size SV ((l.take j).map V.clean).length us rfl ho5 (some ⟨w5.heap.size, 0, none⟩) [u] 1 1 rfl rfl hcr (by intro e; cases e) (by simpa using hu1) (by omega) (by simp; omega) ?_; intro v6 w6 hown6 hgrow6 hat6))
        have hO6 := VOwn.snoc hre5 hus ho hb5 hu (by omega) hown6 hgrow6 hat6
        have hB6 := (hB5.alloc (by omega) (.cells #[u] 30)).grown hgrow6 (by simp; omega) (fun k hk => (ho.lt k hk).1)
        rw [← HT.out] at hO6
        clear hgrow6 hown6 hat6 hre5 ho ho5 hB hB5 hB3 hB4 hu hx4 hcr hb5
        go_wp2_with fail
        go_roundw
        case rel => exact ⟨j + 1, v6, by omega, by go_num, rfl, hO6, hB6⟩
        case measure => simp [intOf]; omega
    · obtain rfl : j = l.length := by omega
      rw [List.take_length] at hO
      obtain ⟨a9, c9, rfl, hrr, hsl⟩ := hO.row
      have hml : (l.map V.clean).length = l.length := by simp
      obtain ⟨wl, rfl⟩ : ∃ wl, wl = wr := ⟨_, rfl⟩
      have hcb : V.bulk.go (l.map V.clean) ≤ 1048576 := by rw [← cleanL_map]; exact Nat.le_trans (clean_good.2 l).2 hbl
      have CM : Hid (Calls Try.prog 32 #[.slice ka q.length kc, .slice a9 l.length c9] wl fun e w' => ∃ u pe v, e = .returned (.tuple #[.agg #[u], .int .i64 pe]) ∧ u.oneCell' = true ∧ Rep w' (fun _ => True) u v ∧ MpOk q (l.map V.clean) pe v ∧ Below wl.heap.size wl w') := by
        have := map_any ka q kc a9 (l.map V.clean) c9 wl (hq.below hB) hrr hcb
        rw [hml] at this
        exact this
      have VALL : Hid (∀ W, Below w.heap.size w W → VIn W (fun _ => True) (V.mk 7 false 0 0 ByteArray.empty l q) ⟨la, lc, ka, kc⟩) := fun W hW => (VIn.mk 7 false 0 0 ByteArray.empty l q ⟨la, lc, ka, kc⟩ P (by unfold I64; omega) (by unfold I64; omega) (by unfold I64; omega) (by simp [maxLen]) hls hqs hq hc hin).stays hW
      have hbq : (V.mk 7 false 0 0 ByteArray.empty l q).bulk ≤ 1048576 := by simp only [V.bulk, ByteArray.size_empty]; omega
      have HQ : Hid (∀ i (hi : i < q.length), ∃ kb ko, ka = some ⟨kb, ko, none⟩ ∧ ∀ i (hi : i < q.length) W, Below w.heap.size w W → W.cell? ⟨kb, ko + i, none⟩ = some (.string q[i])) := fun i hi => by
        obtain ⟨kb, ko, e, -, hcc⟩ := hq.2 (by intro e; subst e; simp at hi)
        exact ⟨kb, ko, e, fun i hi W hW => (hW.cell (p := ⟨kb, ko + i, none⟩) (World.block_lt_of_cell? _ _ (hcc i hi))).trans (hcc i hi)⟩
      clear hO hrr hsl hc hin CG CC CT CA hq hcb
      rw [hml]
      go_wp2_with fail
      refine CM.out.mono ?_
      rintro e w3 ⟨u, pe, v, rfl, hu1, hu, hmp, hb3⟩
      have HMP : Hid (MpOk q (l.map V.clean) pe v) := hmp
      have hB3 := hB.trans (hb3.mono hB.size)
      have st3 := store_new 30 u .nilIface hu1 w3
      have hU3 := heap_alloc_new w3 (.cells #[u] 30)
      clear CM hmp hb3 hB hml
      obtain ⟨R, hR⟩ : ∃ R, R = (partB re && partB im) := ⟨_, rfl⟩
      have HR : Hid (R = (partB re && partB im)) := hR
      have CP : Hid (∀ W, Calls Try.prog 33 #[.int .i64 re, .int .i64 im] W fun e w' => ∃ pu pp pv, e = .returned (.tuple #[.agg #[pu], .int .i64 pp]) ∧ pu.oneCell' = true ∧ Rep w' (fun _ => True) pu pv ∧ PtOk re im R pp pv ∧ Below W.heap.size W w') := by rw [hR]; exact point_any re im
      clear hR
      go_wp2_with fail
      refine (CP.out _).mono ?_
      rintro e w4 ⟨pu, pp, pv, rfl, hp1, hp, hpt, hb4⟩
      have hU4 := (hb4.block w3.heap.size (by simp)).trans hU3
      have hb34 : Below w3.heap.size w3 w4 := ((Below.refl _ _).alloc (Nat.le_refl _) (.cells #[u] 30)).trans (hb4.mono (by simp))
      have hB4 := hB3.trans (hb34.mono hB3.size)
      have hu4 := hu.stays hb34
      have hl4 : w3.heap.size < w4.heap.size := (Array.getElem?_eq_some_iff.1 hU4).1
      have st4 := store_new 30 pu .nilIface hp1 w4
      have hU5 := (Below.heap_alloc w4 (.cells #[pu] 30) _ hl4).trans hU4
      have hP5 := heap_alloc_new w4 (.cells #[pu] 30)
      have ha4 : Below w4.heap.size w4 (w4.alloc (.cells #[pu] 30)) := (Below.refl _ _).alloc (Nat.le_refl _) _
      have hB5 := hB4.trans (ha4.mono hB4.size)
      have hu5 := hu4.stays ha4
      have CGP : Hid (∀ W, Calls Try.prog 34 #[.agg #[pu]] W fun e w' => e = .returned (.tuple #[.int .i64 pv.gre, .int .i64 pv.gim, .bool (pv.isK 4)]) ∧ Below W.heap.size W w') := fun W => gpoint_any hp W
      clear CP hb4 hU3 hU4 hb34 hB3 hB4 hu hu4 ha4 hu1 hp1 st3
      go_upto_region 12 with fail
      generalize hW5 : w4.alloc (.cells #[pu] 30) = W5 at *
      go_cut [15] from 67 to 80 (fun s15 wx => s15 = .bool R ∧ wx = W5)
      case first =>
        have hRv := HR.out
        clear HR CGP HQ VALL HMP hpt hu5 hp hB5 hU5 hP5 st4 hW5
        unfold partB at hRv
        by_cases r1 : -9007199254740992 ≤ re
        · by_cases r2 : re ≤ 9007199254740992
          · by_cases r3 : -9007199254740992 ≤ im
            · by_cases r4 : im ≤ 9007199254740992
              · have hRw : R = true := by rw [hRv]; simp [r1, r2, r3, r4]
                subst hRw
                clear hRv
                go_wp2_with fail
                go_meet
                exact ⟨rfl, rfl⟩
              · have hRw : R = false := by rw [hRv]; simp [r1, r2, r3, r4]
                subst hRw
                clear hRv
                go_wp2_with fail
                go_meet
                exact ⟨rfl, rfl⟩
            · have hRw : R = false := by rw [hRv]; simp [r1, r2, r3]
              subst hRw
              clear hRv
              go_wp2_with fail
              go_meet
              exact ⟨rfl, rfl⟩
          · have hRw : R = false := by rw [hRv]; simp [r1, r2]
            subst hRw
            clear hRv
            go_wp2_with fail
            go_meet
            exact ⟨rfl, rfl⟩
        · have hRw : R = false := by rw [hRv]; simp [r1]
          subst hRw
          clear hRv
          go_wp2_with fail
          go_meet
          exact ⟨rfl, rfl⟩
      case rest =>
        obtain ⟨rfl, rfl⟩ := hcut
        have c5 := cell_of_row _ _ 0 _ _ _ hP5
        simp only [List.getElem?_cons_zero, List.getElem?_toArray] at c5
        go_wp2_with fail
        refine (CGP.out _).mono ?_
        rintro e w6 ⟨rfl, hb6⟩
        have hU6 := (hb6.block w3.heap.size (Array.getElem?_eq_some_iff.1 hU5).1).trans hU5
        have hB6 := hB5.trans (hb6.mono hB5.size)
        have hu6 := hu5.stays hb6
        obtain ⟨hp0, hp2, hpk, hpn⟩ := hpt
        rw [hpk]
        generalize pv.gre = gr at *
        generalize pv.gim = gi at *
        clear CGP hU5 hP5 hB5 hu5 hp c5 hb6 hpk HR st4 hW5 hl4
        go_upto_region 14 with fail
        go_cut [116] from 87 to 116 (fun s116 wx => s116 = .bool false ∧ wx = w6)
        case first =>
          clear HQ VALL HMP hu6 hB6 hU6
          cases R
          · obtain rfl := hp2 rfl
            clear hp0 hp2 hpn
            go_wp2_with fail
            go_meet
            exact ⟨rfl, rfl⟩
          · obtain rfl := hp0.2 rfl
            obtain ⟨rfl, rfl⟩ := hpn rfl
            clear hp0 hp2 hpn
            go_wp2_with fail
            go_meet
            exact ⟨rfl, rfl⟩
        case rest =>
          obtain ⟨rfl, rfl⟩ := hcut
          clear hp0 hp2 hpn
          have c6 := cell_of_row _ _ 0 _ _ _ hU6
          simp only [List.getElem?_cons_zero, List.getElem?_toArray] at c6
          have CK : Hid (∀ W, Calls Try.prog 27 #[.agg #[u]] W fun e w' => e = .returned (.int .i64 v.k) ∧ Below W.heap.size W w') := fun W => kind_any hu6 W
          by_cases hne : q.length = l.length
          · have hne' : ((q.length : Int) == (l.length : Int)) = true := by rw [hne]; simp
            have HMP2 : Hid ((¬ q.Nodup ∧ pe = 9 ∧ v.k = 0) ∨ (q.Nodup ∧ pe = 0 ∧ v = V.map (pick q (l.map V.clean)) (sortK q))) := by
              rcases HMP.out with ⟨h, _⟩ | ⟨_, h⟩ | ⟨_, h⟩
              · exact absurd (by simpa using hne) h
              · exact Or.inl h
              · exact Or.inr h
            have HNE : Hid (q.length = l.length) := hne
            clear HMP hne
            obtain ⟨wz, rfl⟩ : ∃ wz, wz = wc := ⟨_, rfl⟩
            go_wp2_with fail
            go_loopw [19, 20] (fun si _ wr => ∃ i : Nat, i ≤ q.length ∧ si = .int .i64 i ∧ Hid ((q.take i).Nodup) ∧ Below wz.heap.size wz wr) (fun si _ _ => q.length - (intOf si).toNat)
            case atStart => exact ⟨0, by omega, rfl, by show List.Nodup _; simp, Below.refl _ _⟩
            case round =>
              obtain ⟨i, hi, rfl, hnd, hbi⟩ := hrel
              by_cases hiq : i < q.length
              · obtain ⟨wo, rfl⟩ : ∃ wo, wo = wr := ⟨_, rfl⟩
                obtain ⟨kb, ko, rfl, hkc⟩ := HQ.out i hiq
                have HKC : Hid (∀ i (hi : i < q.length) W, Below w.heap.size w W → W.cell? ⟨kb, ko + i, none⟩ = some (.string q[i])) := hkc
                have hbo := hB6.trans (hbi.mono hB6.size)
                clear hkc HQ
                go_wp2_with fail
                go_loopw [20] (fun sk wr => ∃ k : Nat, k ≤ i ∧ sk = .int .i64 k ∧ Hid (∀ k' (h : k' < q.length), k' < k → q[k'] ≠ q[i]) ∧ Below wo.heap.size wo wr) (fun sk _ => i - (intOf sk).toNat)
                case atStart => exact ⟨0, by omega, rfl, fun k' _ h => by omega, Below.refl _ _⟩
                case round =>
                  obtain ⟨k, hk, rfl, hdf, hbk2⟩ := hrel
                  by_cases hki : k < i
                  · have hkq : k < q.length := by omega
                    have hbw := hbo.trans (hbk2.mono hbo.size)
                    have HR1 : Hid (∀ W, Below wr.heap.size wr W → W.cell? ⟨kb, ko + i, none⟩ = some (.string q[i]) ∧ W.cell? ⟨kb, ko + k, none⟩ = some (.string q[k])) := fun W hW => ⟨HKC.out i hiq W (hbw.trans (hW.mono hbw.size)), HKC.out k hkq W (hbw.trans (hW.mono hbw.size))⟩
                    by_cases heq : q[i] = q[k]
                    · have hdup : ¬ q.Nodup := fun hn => by
                        exact (List.pairwise_iff_getElem.1 hn) k i hkq hiq hki heq.symm
                      obtain ⟨rfl, hvk⟩ : pe = 9 ∧ v.k = 0 := by
                        rcases HMP2.out with ⟨_, h⟩ | ⟨h, _⟩
                        · exact h
                        · exact absurd h hdup
                      have hteq := toList_eq heq
                      have hU8 := ((hbi.trans (hbk2.mono hbi.size)).block w3.heap.size (Array.getElem?_eq_some_iff.1 hU6).1).trans hU6
                      have HU8 : Hid (∀ W, Below wr.heap.size wr W → W.cell? ⟨w3.heap.size, 0, none⟩ = some u) := fun W hW => cell_of_row _ _ 0 _ _ _ ((hW.block _ (Array.getElem?_eq_some_iff.1 hU8).1).trans hU8)
                      generalize q[i] = y1 at *
                      generalize q[k] = y2 at *
                      clear HKC HMP2 VALL hdf hnd hdup heq hU8 hU6
                      go_upto_region 24 with fail
                      go_cut [148] from 140 to 148 (fun sb wx => sb = .bool true ∧ Below wr.heap.size wr wx)
                      case first =>
                        refine wp_region_held_drew (S := fun w' => Below wr.heap.size wr w') (by kernel_rfl) (Below.drew (Below.refl _ _)) (fun hSS => ?_)
                        refine wpAnyH_take (i := 0) (v := ?_) rfl (by kernel_rfl) (by kernel_rfl) (by kernel_rfl) (fun _ _ _ h => h) (Or.inl ⟨by rfl, ?_⟩) hSS ?_
                        rotate_left
                        · intro wz hSz
                          go_simp
                          try with_reducible rfl
                        simp only [List.getElem_toArray, List.getElem_cons_zero, Act.put, List.setIfInBounds_toArray, List.set_cons_zero, List.set_cons_succ]
                        refine wpAnyH_take (i := 1) (v := ?_) rfl (by kernel_rfl) (by kernel_rfl) (by kernel_rfl) (fun _ _ _ h => h) (Or.inl ⟨by rfl, ?_⟩) hSS ?_
                        rotate_left
                        · intro wz hSz
                          go_simp
                          try with_reducible rfl
                        simp only [List.getElem_toArray, List.getElem_cons_zero, List.getElem_cons_succ, Act.put, List.setIfInBounds_toArray, List.set_cons_zero, List.set_cons_succ]
                        refine wpAnyH_take (i := 2) (v := ?_) rfl (by kernel_rfl) (by kernel_rfl) (by kernel_rfl) (fun _ _ _ h => h) (Or.inl ⟨by rfl, ?_⟩) hSS ?_
                        rotate_left
                        · intro wz hSz
                          go_simp
                          try with_reducible rfl
                        simp only [List.getElem_toArray, List.getElem_cons_zero, List.getElem_cons_succ, Act.put, List.setIfInBounds_toArray, List.set_cons_zero, List.set_cons_succ]
                        refine wpAnyH_take (i := 3) (v := ?_) rfl (by kernel_rfl) (by kernel_rfl) (by kernel_rfl) (fun _ _ _ h => h) (Or.inl ⟨by rfl, ?_⟩) hSS ?_
                        rotate_left
                        · intro wz hSz
                          obtain ⟨p0, p1⟩ := HR1.out _ hSz
                          go_simp
                          try with_reducible rfl
                        simp only [List.getElem_toArray, List.getElem_cons_zero, List.getElem_cons_succ, Act.put, List.setIfInBounds_toArray, List.set_cons_zero, List.set_cons_succ]
                        refine wpAnyH_take (i := 4) (v := ?_) rfl (by kernel_rfl) (by kernel_rfl) (by kernel_rfl) (fun _ _ _ h => h) (Or.inl ⟨by rfl, ?_⟩) hSS ?_
                        rotate_left
                        · intro wz hSz
                          go_simp
                          try with_reducible rfl
                        simp only [List.getElem_toArray, List.getElem_cons_zero, List.getElem_cons_succ, Act.put, List.setIfInBounds_toArray, List.set_cons_zero, List.set_cons_succ]
                        refine wpAnyH_take (i := 5) (v := ?_) rfl (by kernel_rfl) (by kernel_rfl) (by kernel_rfl) (fun _ _ _ h => h) (Or.inl ⟨by rfl, ?_⟩) hSS ?_
                        rotate_left
                        · intro wz hSz
                          go_simp
                          try with_reducible rfl
                        simp only [List.getElem_toArray, List.getElem_cons_zero, List.getElem_cons_succ, Act.put, List.setIfInBounds_toArray, List.set_cons_zero, List.set_cons_succ]
                        refine wpAnyH_take (i := 6) (v := ?_) rfl (by kernel_rfl) (by kernel_rfl) (by kernel_rfl) (fun _ _ _ h => h) (Or.inl ⟨by rfl, ?_⟩) hSS ?_
                        rotate_left
                        · intro wz hSz
                          go_simp
                          try with_reducible rfl
                        simp only [List.getElem_toArray, List.getElem_cons_zero, List.getElem_cons_succ, Act.put, List.setIfInBounds_toArray, List.set_cons_zero, List.set_cons_succ]
                        refine wpAnyH_take (i := 7) (v := ?_) rfl (by kernel_rfl) (by kernel_rfl) (by kernel_rfl) (fun _ _ _ h => h) (Or.inl ⟨by rfl, ?_⟩) hSS ?_
                        rotate_left
                        · intro wz hSz
                          obtain ⟨p0, p1⟩ := HR1.out _ hSz
                          go_simp
                          try with_reducible rfl
                        simp only [List.getElem_toArray, List.getElem_cons_zero, List.getElem_cons_succ, Act.put, List.setIfInBounds_toArray, List.set_cons_zero, List.set_cons_succ]
                        refine wpAnyH_take (i := 8) (v := (.bool true)) rfl (by kernel_rfl) (by kernel_rfl) (by kernel_rfl) (fun _ _ _ h => h) (Or.inl ⟨by rfl, ?_⟩) hSS ?_
                        · intro wz hSz
                          go_simp
                        simp only [List.getElem_toArray, List.getElem_cons_zero, List.getElem_cons_succ, Act.put, List.setIfInBounds_toArray, List.set_cons_zero, List.set_cons_succ]
                        refine wpAnyH_done (by kernel_rfl) ?_ _
                        go_wp2_with fail
                        go_meet
                        exact ⟨rfl, hSS⟩
                      case rest =>
                        obtain ⟨rfl, hbc⟩ := hcut
                        have c8 := HU8.out _ hbc
                        go_wp2_with fail
                        refine (CK.out _).mono ?_
                        rintro e w9 ⟨rfl, hb9⟩
                        rw [hvk]
                        go_wp2_with fail
                        go_ret
                        exact ⟨rfl, hbw.trans ((hbc.trans (hb9.mono hbc.size)).mono hbw.size)⟩
                    · have hteq := toList_ne heq
                      have hdf2 : Hid (∀ k' (h : k' < q.length), k' < k + 1 → q[k'] ≠ q[i]) := fun k' h1 h2 => by
                        by_cases h3 : k' < k
                        · exact hdf.out k' h1 h3
                        · obtain rfl : k' = k := by omega
                          exact fun e => heq e.symm
                      generalize q[i] = y1 at *
                      generalize q[k] = y2 at *
                      clear HKC HMP2 VALL hdf heq
                      go_upto_region 24 with fail
                      go_cut [148] from 140 to 148 (fun sb wx => sb = .bool false ∧ Below wr.heap.size wr wx)
                      case first =>
                        refine wp_region_held_drew (S := fun w' => Below wr.heap.size wr w') (by kernel_rfl) (Below.drew (Below.refl _ _)) (fun hSS => ?_)
                        refine wpAnyH_take (i := 0) (v := ?_) rfl (by kernel_rfl) (by kernel_rfl) (by kernel_rfl) (fun _ _ _ h => h) (Or.inl ⟨by rfl, ?_⟩) hSS ?_
                        rotate_left
                        · intro wz hSz
                          go_simp
                          try with_reducible rfl
                        simp only [List.getElem_toArray, List.getElem_cons_zero, Act.put, List.setIfInBounds_toArray, List.set_cons_zero, List.set_cons_succ]
                        refine wpAnyH_take (i := 1) (v := ?_) rfl (by kernel_rfl) (by kernel_rfl) (by kernel_rfl) (fun _ _ _ h => h) (Or.inl ⟨by rfl, ?_⟩) hSS ?_
                        rotate_left
                        · intro wz hSz
                          go_simp
                          try with_reducible rfl
                        simp only [List.getElem_toArray, List.getElem_cons_zero, List.getElem_cons_succ, Act.put, List.setIfInBounds_toArray, List.set_cons_zero, List.set_cons_succ]
                        refine wpAnyH_take (i := 2) (v := ?_) rfl (by kernel_rfl) (by kernel_rfl) (by kernel_rfl) (fun _ _ _ h => h) (Or.inl ⟨by rfl, ?_⟩) hSS ?_
                        rotate_left
                        · intro wz hSz
                          go_simp
                          try with_reducible rfl
                        simp only [List.getElem_toArray, List.getElem_cons_zero, List.getElem_cons_succ, Act.put, List.setIfInBounds_toArray, List.set_cons_zero, List.set_cons_succ]
                        refine wpAnyH_take (i := 3) (v := ?_) rfl (by kernel_rfl) (by kernel_rfl) (by kernel_rfl) (fun _ _ _ h => h) (Or.inl ⟨by rfl, ?_⟩) hSS ?_
                        rotate_left
                        · intro wz hSz
                          obtain ⟨p0, p1⟩ := HR1.out _ hSz
                          go_simp
                          try with_reducible rfl
                        simp only [List.getElem_toArray, List.getElem_cons_zero, List.getElem_cons_succ, Act.put, List.setIfInBounds_toArray, List.set_cons_zero, List.set_cons_succ]
                        refine wpAnyH_take (i := 4) (v := ?_) rfl (by kernel_rfl) (by kernel_rfl) (by kernel_rfl) (fun _ _ _ h => h) (Or.inl ⟨by rfl, ?_⟩) hSS ?_
                        rotate_left
                        · intro wz hSz
                          go_simp
                          try with_reducible rfl
                        simp only [List.getElem_toArray, List.getElem_cons_zero, List.getElem_cons_succ, Act.put, List.setIfInBounds_toArray, List.set_cons_zero, List.set_cons_succ]
                        refine wpAnyH_take (i := 5) (v := ?_) rfl (by kernel_rfl) (by kernel_rfl) (by kernel_rfl) (fun _ _ _ h => h) (Or.inl ⟨by rfl, ?_⟩) hSS ?_
                        rotate_left
                        · intro wz hSz
                          go_simp
                          try with_reducible rfl
                        simp only [List.getElem_toArray, List.getElem_cons_zero, List.getElem_cons_succ, Act.put, List.setIfInBounds_toArray, List.set_cons_zero, List.set_cons_succ]
                        refine wpAnyH_take (i := 6) (v := ?_) rfl (by kernel_rfl) (by kernel_rfl) (by kernel_rfl) (fun _ _ _ h => h) (Or.inl ⟨by rfl, ?_⟩) hSS ?_
                        rotate_left
                        · intro wz hSz
                          go_simp
                          try with_reducible rfl
                        simp only [List.getElem_toArray, List.getElem_cons_zero, List.getElem_cons_succ, Act.put, List.setIfInBounds_toArray, List.set_cons_zero, List.set_cons_succ]
                        refine wpAnyH_take (i := 7) (v := ?_) rfl (by kernel_rfl) (by kernel_rfl) (by kernel_rfl) (fun _ _ _ h => h) (Or.inl ⟨by rfl, ?_⟩) hSS ?_
                        rotate_left
                        · intro wz hSz
                          obtain ⟨p0, p1⟩ := HR1.out _ hSz
                          go_simp
                          try with_reducible rfl
                        simp only [List.getElem_toArray, List.getElem_cons_zero, List.getElem_cons_succ, Act.put, List.setIfInBounds_toArray, List.set_cons_zero, List.set_cons_succ]
                        refine wpAnyH_take (i := 8) (v := (.bool false)) rfl (by kernel_rfl) (by kernel_rfl) (by kernel_rfl) (fun _ _ _ h => h) (Or.inl ⟨by rfl, ?_⟩) hSS ?_
                        · intro wz hSz
                          go_simp
                        simp only [List.getElem_toArray, List.getElem_cons_zero, List.getElem_cons_succ, Act.put, List.setIfInBounds_toArray, List.set_cons_zero, List.set_cons_succ]
                        refine wpAnyH_done (by kernel_rfl) ?_ _
                        go_wp2_with fail
                        go_meet
                        exact ⟨rfl, hSS⟩
                      case rest =>
                        obtain ⟨rfl, hbc⟩ := hcut
                        go_wp2_with fail
                        go_roundw
                        case rel => exact ⟨k + 1, by omega, by go_num, hdf2, hbk2.trans (hbc.mono hbk2.size)⟩
                        case measure => simp [intOf]; omega
                  · obtain rfl : k = i := by omega
                    have hnd2 : Hid ((q.take (k + 1)).Nodup) := by
                      show List.Nodup _
                      rw [List.take_succ_eq_append_getElem hiq, List.nodup_append]
                      refine ⟨hnd.out, by simp, fun a ha b hb => ?_⟩
                      simp at hb
                      subst hb
                      obtain ⟨m, hm, rfl⟩ := List.getElem_of_mem ha
                      have hm' : m < k := by simp at hm; omega
                      rw [List.getElem_take]
                      exact hdf.out m (by omega) hm'
                    clear HKC HMP2 VALL hdf hnd
                    go_wp2_with fail
                    go_roundw
                    case rel => exact ⟨k + 1, by omega, by go_num, hnd2, hbi.trans (hbk2.mono hbi.size)⟩
                    case measure => simp [intOf]; omega
              · obtain rfl : i = q.length := by omega
                have hn : q.Nodup := by simpa using hnd.out
                obtain ⟨rfl, hve⟩ : pe = 0 ∧ v = V.map (pick q (l.map V.clean)) (sortK q) := by
                  rcases HMP2.out with ⟨h, _⟩ | ⟨_, h⟩
                  · exact absurd hn h
                  · exact h
                have hcv : (V.mk 7 false 0 0 ByteArray.empty l q).clean = v := by rw [hve]; exact clean_map7 _ _ _ _ HNE.out hn
                have hb05 := hB6.trans (hbi.mono hB6.size)
                have hU9 := (hbi.block w3.heap.size (Array.getElem?_eq_some_iff.1 hU6).1).trans hU6
                have HU : Hid (∀ W, Below wr.heap.size wr W → W.cell? ⟨w3.heap.size, 0, none⟩ = some u) := fun W hW => cell_of_row _ _ 0 _ _ _ ((hW.block _ (Array.getElem?_eq_some_iff.1 hU9).1).trans hU9)
                have hur := hu6.stays hbi
                have CCL : Hid (∀ W, Below wr.heap.size wr W → Calls Try.prog 10 #[(V.mk 7 false 0 0 ByteArray.empty l q).val ⟨la, lc, ka, kc⟩] W fun e w' => ∃ p', e = .returned (v.val p') ∧ VIn w' (fun _ => True) v p' ∧ Below W.heap.size W w') := fun W hW => by
                  have h1 := VALL.out W (hb05.trans (hW.mono hb05.size))
                  refine (clean_any h1 W (Below.refl _ _) hbq).mono ?_
                  rw [hcv]
                  rintro e w' ⟨p', rfl, h2, h3⟩
                  exact ⟨p', rfl, h2.mono (fun _ _ _ => trivial), h3⟩
                have hvb : v.bulk ≤ 1048576 := by rw [← hcv]; exact Nat.le_trans (clean_bulk _) hbq
                have hvc : v.cl := by rw [← hcv]; exact clean_cl _
                have CUL : Hid (∀ (W : World) (yp : VP), Below wr.heap.size wr W → VIn W (fun _ => True) v yp → Calls Try.prog 13 #[.agg #[u], v.val yp] W fun e w' => e = .returned (.int .i64 0) ∧ Below W.heap.size W w') := fun W yp hW hy => unlike_any hy W u (fun _ => True) (Below.refl _ _) (fun _ _ => trivial) (hur.stays hW) hvb hvc
                clear HMP2 hve hcv hvb hvc hur hU9 hU6 hu6 VALL HQ CK hnd hn hbq
                unfold V.val at CCL
                dsimp only [V.k, V.b, V.n, V.m, V.s, V.l, V.keys] at CCL
                go_upto_region 26 with fail
                refine wp_region_held_drew (S := fun w' => Below wr.heap.size wr w') (by kernel_rfl) (Below.drew (Below.refl _ _)) (fun hSS => ?_)
                refine wpAnyH_take (i := 0) (v := ?_) rfl (by kernel_rfl) (by kernel_rfl) (by kernel_rfl) (fun _ _ _ h => h) (Or.inl ⟨by rfl, ?_⟩) hSS ?_
                rotate_left
                · intro wz hSz
                  go_simp
                  try with_reducible rfl
                simp only [List.getElem_toArray, List.getElem_cons_zero, Act.put, List.setIfInBounds_toArray, List.set_cons_zero, List.set_cons_succ]
                refine wpAnyH_take (i := 1) (v := (.bool true)) rfl (by kernel_rfl) (by kernel_rfl) (by kernel_rfl) (fun _ _ _ h => h) (Or.inl ⟨by rfl, ?_⟩) hSS ?_
                · intro wz hSz
                  go_simp
                simp only [List.getElem_toArray, List.getElem_cons_zero, List.getElem_cons_succ, Act.put, List.setIfInBounds_toArray, List.set_cons_zero, List.set_cons_succ]
                refine wpAnyH_take (i := 2) (v := (.bool true)) rfl (by kernel_rfl) (by kernel_rfl) (by kernel_rfl) (fun _ _ _ h => h) (Or.inl ⟨by rfl, ?_⟩) hSS ?_
                · intro wz hSz
                  go_simp
                simp only [List.getElem_toArray, List.getElem_cons_zero, List.getElem_cons_succ, Act.put, List.setIfInBounds_toArray, List.set_cons_zero, List.set_cons_succ]
                refine wpAnyH_take (i := 3) (v := ?_) rfl (by kernel_rfl) (by kernel_rfl) (by kernel_rfl) (fun _ _ _ h => h) (Or.inl ⟨by rfl, ?_⟩) hSS ?_
                rotate_left
                · intro wz hSz
                  have p0 := HU.out _ hSz
                  go_simp
                  try with_reducible rfl
                simp only [List.getElem_toArray, List.getElem_cons_zero, List.getElem_cons_succ, Act.put, List.setIfInBounds_toArray, List.set_cons_zero, List.set_cons_succ]
                refine wpAnyH_take (i := 4) (v := ?_) rfl (by kernel_rfl) (by kernel_rfl) (by kernel_rfl) (fun _ _ _ h => h) (Or.inl ⟨by rfl, ?_⟩) hSS ?_
                rotate_left
                · intro wz hSz
                  go_simp
                  try with_reducible rfl
                simp only [List.getElem_toArray, List.getElem_cons_zero, List.getElem_cons_succ, Act.put, List.setIfInBounds_toArray, List.set_cons_zero, List.set_cons_succ]
                refine wpAnyH_take (i := 5) (v := ?_) rfl (by kernel_rfl) (by kernel_rfl) (by kernel_rfl) (fun _ _ _ h => h) (Or.inl ⟨by rfl, ?_⟩) hSS ?_
                rotate_left
                · intro wz hSz
                  go_simp
                  try with_reducible rfl
                simp only [List.getElem_toArray, List.getElem_cons_zero, List.getElem_cons_succ, Act.put, List.setIfInBounds_toArray, List.set_cons_zero, List.set_cons_succ]
                refine wpAnyH_take (i := 6) (v := ?_) rfl (by kernel_rfl) (by kernel_rfl) (by kernel_rfl) (fun _ _ _ h => h) (Or.inl ⟨by rfl, ?_⟩) hSS ?_
                rotate_left
                · intro wz hSz
                  go_simp
                  try with_reducible rfl
                simp only [List.getElem_toArray, List.getElem_cons_zero, List.getElem_cons_succ, Act.put, List.setIfInBounds_toArray, List.set_cons_zero, List.set_cons_succ]
                refine wpAnyH_ready (rs := [7]) (by kernel_rfl) (by simp) (AllReadyH.cons rfl (fun K1 hK1 => ?_) AllReadyH.nil)
                refine step_wanted (by rfl) ?_
                simp only [List.getElem_toArray, List.getElem_cons_zero, List.getElem_cons_succ]
                go_simp
                go_at_call 10
                refine (CCL.out _ hSS).mono ?_
                rintro e w7 ⟨yp, rfl, hy7, hb7⟩
                have hSS7 := hSS.trans (hb7.mono hSS.size)
                have CU := CUL.out _ yp hSS7 hy7
                unfold V.val at CU
                go_simp
                refine hK1.out _ _ hSS7 (fun hSS => ?_)
                clear hK1
                refine wpAnyH_ready (rs := [8]) (by kernel_rfl) (by simp) (AllReadyH.cons rfl (fun K2 hK2 => ?_) AllReadyH.nil)
                refine step_wanted (by rfl) ?_
                simp only [List.getElem_toArray, List.getElem_cons_zero, List.getElem_cons_succ]
                go_simp
                go_at_call 13
                refine CU.mono ?_
                rintro e w8 ⟨rfl, hb8⟩
                go_simp
                refine hK2.out _ _ (hSS.trans (hb8.mono hSS.size)) (fun hSS => ?_)
                clear hK2
                refine wpAnyH_take (i := 9) (v := (.bool true)) rfl (by kernel_rfl) (by kernel_rfl) (by kernel_rfl) (fun _ _ _ h => h) (Or.inl ⟨by rfl, ?_⟩) hSS ?_
                · intro wz hSz
                  go_simp
                simp only [List.getElem_toArray, List.getElem_cons_zero, List.getElem_cons_succ, Act.put, List.setIfInBounds_toArray, List.set_cons_zero, List.set_cons_succ]
                refine wpAnyH_take (i := 10) (v := (.bool true)) rfl (by kernel_rfl) (by kernel_rfl) (by kernel_rfl) (fun _ _ _ h => h) (Or.inl ⟨by rfl, ?_⟩) hSS ?_
                · intro wz hSz
                  go_simp
                simp only [List.getElem_toArray, List.getElem_cons_zero, List.getElem_cons_succ, Act.put, List.setIfInBounds_toArray, List.set_cons_zero, List.set_cons_succ]
                refine wpAnyH_take (i := 11) (v := (.bool true)) rfl (by kernel_rfl) (by kernel_rfl) (by kernel_rfl) (fun _ _ _ h => h) (Or.inl ⟨by rfl, ?_⟩) hSS ?_
                · intro wz hSz
                  go_simp
                simp only [List.getElem_toArray, List.getElem_cons_zero, List.getElem_cons_succ, Act.put, List.setIfInBounds_toArray, List.set_cons_zero, List.set_cons_succ]
                refine wpAnyH_done (by kernel_rfl) ?_ _
                go_wp2_with fail
                go_ret
                exact ⟨rfl, hb05.trans (hSS.mono hb05.size)⟩
          · have hne' : ((q.length : Int) == (l.length : Int)) = false := by rw [beq_eq_false_iff_ne]; omega
            obtain ⟨rfl, hvk⟩ : pe = 1 ∧ v.k = 0 := by
              rcases HMP.out with ⟨_, h⟩ | ⟨h, _⟩ | ⟨h, _⟩
              · exact h
              · exact absurd (by simpa using h) hne
              · exact absurd (by simpa using h) hne
            clear HMP HQ VALL
            go_wp2_with fail
            refine (CK.out _).mono ?_
            rintro e w9 ⟨rfl, hb9⟩
            rw [hvk]
            go_wp2_with fail
            go_ret
            exact ⟨rfl, hB6.trans (hb9.mono hB6.size)⟩
end Go.Proofs.Ytnoioafgbofbnaa
