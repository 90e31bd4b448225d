/- What the document's Decode answers: that of the program's; the fields' bytes are the given ones. Conditions: the slice shows bytes, its capacity can be. -/
import Derived.Test.YteidjnkkjjigoaaRefF
import Derived.Test.YteidjnkkjjigoaaRefC
import Derived.Test.YteidjnkkjjigoaaTo
namespace Go.Proofs.Yteidjnkkjjigoaa
open Go.RowKit

theorem own_baseT {w : World} {T : TypeId} {sz base base' n : Nat} {v : Value} {xs : List Value} (h : w.ownsRow base T sz v n xs) (hb : base' ≤ base) : w.ownsRow base' T sz v n xs := by
  refine ⟨h.1, ?_⟩
  rcases h.2 with h | ⟨g, cap, cur, h1, h2, h3⟩
  · exact Or.inl h
  · exact Or.inr ⟨g, cap, cur, h1, Nat.le_trans hb h2, h3⟩
/-- A row of the call's own stays while only a block below it is written. -/
theorem own_far {w w' : World} {T : TypeId} {sz B base n : Nat} {v : Value} {xs : List Value} (hown : w.ownsRow base T sz v n xs) (hB : B < base) (hg : w.grownBy w' (some B)) : w'.ownsRow base T sz v n xs := by
  refine hown.kept hg ?_
  cases hv : v.ownBlock with
  | none => exact Or.inl rfl
  | some q =>
    right
    intro e
    have e' : q = B := Option.some.inj e
    have := (hown.lt q hv).1
    omega
theorem fits_next {l : List Fld} {f : Fld} (hm : mixedB f = false) : nextE l f = if fitsB f (lastF l) then (if l.length = 64 then 3 else 0) else 1 := by
  unfold nextE; rw [fits_last, hm]; simp
theorem fits_big {f l : Fld} (h : 1000 < f.tag) : fitsB f l = false := by simp [fitsB, h]

set_option maxHeartbeats 12800000 in
set_option maxRecDepth 100000 in
theorem rdecode_any (a : Option Addr) (zs : List Int) (cap : Nat) (w : World) (hr : Row w a zs) (hnil : a = none → zs.length = 0 ∧ cap = 0) (hlc : zs.length ≤ cap) (hcm : cap ≤ maxLen) :
    Calls Try.prog 31 #[.slice a zs.length cap] w fun e w' => ∃ v ps, e = .returned (.tuple #[v, .int .i64 (decM zs).2.1, .int .i64 (decM zs).2.2]) ∧ PickedT 75 w w' w.heap.size v ps ∧ ps.map (·.1) = (decM zs).1 ∧ Below w.heap.size w w' := by
  by_cases hbig : 4096 < zs.length
  · have E : Hid (decM zs = ([], 0, 3)) := by show decM zs = _; simp [decM, hbig]
    clear hr hnil
    go_enter Try.func31, Try.ntmps31
    go_wp2
    go_ret3
    exact ⟨_, [], by rw [E.out]; rfl, PickedT.nil _ _ _ _, by rw [E.out]; rfl, Below.refl _ _⟩
  have E : Hid (decM zs = decF zs.length [] 0 zs) := by show decM zs = _; simp [decM, hbig]
  have h4 : zs.length ≤ 4096 := by omega
  obtain ⟨i0, hi, hz0, hz1, hz2⟩ := info_parts infoRF
  go_enter Try.func31, Try.ntmps31
  go_wp2
  go_loopw [5, 7] (fun v sk wr => ∃ (ps : List (Fld × Option Addr × Nat)) (k f : Nat) (la : Option Addr) (lc : Nat), k ≤ zs.length ∧ sk = .int .i64 k ∧ PickedT 75 w wr (w.heap.size + 1) v ps ∧ ps.length ≤ 64 ∧
      wr.heap[w.heap.size]? = some (.cells #[.int .i64 (lastF (ps.map (·.1))).tag, .bool (lastF (ps.map (·.1))).isB, .int .u64 (lastF (ps.map (·.1))).n, .slice la (lastF (ps.map (·.1))).b.length lc] 75 (0, 0)) ∧
      Hid (decM zs = decF f (ps.map (·.1)) k (zs.drop k) ∧ zs.length - k ≤ f) ∧ Below w.heap.size w wr) (fun _ sk _ => zs.length - (intOf sk).toNat)
  case atStart => exact ⟨[], 0, zs.length, none, 0, by omega, rfl, PickedT.nil _ _ _ _, by simp, heap_alloc_new w _, ⟨E.out, by omega⟩, (Below.refl _ _).alloc (Nat.le_refl _) _⟩
  case round =>
    obtain ⟨ps, k, f, la, lc, hk, rfl, hp, hps, hbx, hid, hb⟩ := hrel
    clear E hbig
    obtain ⟨va, vc, hv, -, -, -, -⟩ := hp.view hb
    subst hv
    by_cases hlt : k < zs.length
    · obtain ⟨f, rfl⟩ : ∃ g, f = g + 1 := by
        have := hid.out.2
        cases f with
        | zero => omega
        | succ g => exact ⟨g, rfl⟩
      have hrk : Row wr a zs := hr.below hb
      have hsl := run_cut_l a zs.length cap k (k : Int) rfl (by omega)
      have CR1 : Hid (∀ W, Row W a zs → Calls Try.prog 17 #[.slice (cutA a cap k) (zs.length - k) (cap - k)] W fun e w' => e = .returned (.tuple #[.int .u64 (rd (zs.drop k)).1, .int .i64 (rd (zs.drop k)).2.1, .int .i64 (rd (zs.drop k)).2.2]) ∧ Below W.heap.size W w') := fun W h => by
        have hrow := cutA_row (cap := cap) k (zs.length - k) hlc W h
        rw [List.take_of_length_le (by simp)] at hrow
        have := rread_any (cutA a cap k) (zs.drop k) (cap - k) W hrow (by simp; omega) (by simp; omega)
        rw [List.length_drop] at this; exact this
      have hne : zs.drop k ≠ [] := by intro h; have := congrArg List.length h; simp at this; omega
      have HD : Hid (decM zs = if (rf (zs.drop k)).2.2 ≠ 0 then ([], (k : Int), (rf (zs.drop k)).2.2) else if nextE (ps.map (·.1)) (rf (zs.drop k)).1 ≠ 0 then ([], (k : Int), nextE (ps.map (·.1)) (rf (zs.drop k)).1) else decF f (ps.map (·.1) ++ [(rf (zs.drop k)).1]) ((k : Int) + (rf (zs.drop k)).2.1) ((zs.drop k).drop (rf (zs.drop k)).2.1.toNat)) := by
        show decM zs = _
        rw [hid.out.1]; simp only [decF, hne, if_false]
      have hf := hid.out.2
      clear hne hid
      by_cases h0 : (rd (zs.drop k)).2.2 = 0
      · obtain ⟨hk0, hk1, hkt, hks⟩ := rd_ok (zs.drop k) (fun c hc => hr.byte c (List.mem_of_mem_drop hc)) h0
        have hl1 := enc_len (rd (zs.drop k)).1
        have hle1 : (enc (rd (zs.drop k)).1).length ≤ zs.length - k := by
          have := congrArg List.length hkt
          simp at this; omega
        obtain ⟨key, s1, hq⟩ : ∃ (key : Int) (s1 : Nat), rd (zs.drop k) = (key, (s1 : Int), 0) := ⟨(rd (zs.drop k)).1, (enc (rd (zs.drop k)).1).length, by rw [← hks, ← h0]⟩
        have hs1 : (enc (rd (zs.drop k)).1).length = s1 := by rw [hq] at hks ⊢; simp only at hks ⊢; omega
        rw [hs1] at hl1 hle1
        rw [hq] at hk0 hk1 CR1
        simp only at hk0 hk1
        dsimp only at CR1
        clear hks hkt hs1 h0
        have HQ : Hid (rd (zs.drop k) = (key, (s1 : Int), 0)) := hq
        clear hq
        have hsl2 := run_cut_l a zs.length cap (k + s1) ((k : Int) + (s1 : Int)) (by omega) (by omega)
        have hw1 : IntKind.i64.wrap ((k : Int) + (s1 : Int)) = (k : Int) + (s1 : Int) := IntWalk.i64_in _ ⟨by omega, by omega⟩
        have CR2 : Hid (∀ W, Row W a zs → Calls Try.prog 17 #[.slice (cutA a cap (k + s1)) (zs.length - (k + s1)) (cap - (k + s1))] W fun e w' => e = .returned (.tuple #[.int .u64 (rd ((zs.drop k).drop s1)).1, .int .i64 (rd ((zs.drop k).drop s1)).2.1, .int .i64 (rd ((zs.drop k).drop s1)).2.2]) ∧ Below W.heap.size W w') := fun W h => by
          have hrow := cutA_row (cap := cap) (k + s1) (zs.length - (k + s1)) hlc W h
          rw [List.take_of_length_le (by simp)] at hrow
          have := rread_any (cutA a cap (k + s1)) (zs.drop (k + s1)) (cap - (k + s1)) W hrow (by simp; omega) (by simp; omega)
          rw [List.length_drop] at this; rw [List.drop_drop]; exact this
        go_wp2_with fail
        refine (CR1.out _ hrk).mono ?_
        rintro e w1 ⟨rfl, hb1⟩
        have hp1 : PickedT 75 w w1 (w.heap.size + 1) (.slice va ps.length vc) ps := ⟨fown_below hp.1 hb1, hp.2⟩
        have hbx1 := box_below hbx hb1
        have hB1 := hb.trans (hb1.mono hb.size)
        have hrk1 := hrk.below hb1
        clear hp hbx hrk hb1 hb CR1 hsl
        go_wp2_with fail
        refine (CR2.out _ hrk1).mono ?_
        rintro e w2 ⟨rfl, hb2⟩
        have hp2 : PickedT 75 w w2 (w.heap.size + 1) (.slice va ps.length vc) ps := ⟨fown_below hp1.1 hb2, hp1.2⟩
        have hbx2 := box_below hbx1 hb2
        have hB2 := hB1.trans (hb2.mono hB1.size)
        have hBx : w.heap.size < w2.heap.size := (Array.getElem?_eq_some_iff.1 hbx2).1
        clear hp1 hbx1 hrk1 hb2 hB1 CR2 hsl2
        by_cases h2 : (rd ((zs.drop k).drop s1)).2.2 = 0
        · obtain ⟨hm0, hm1, hmt, hms⟩ := rd_ok ((zs.drop k).drop s1) (fun c hc => hr.byte c (List.mem_of_mem_drop (List.mem_of_mem_drop hc))) h2
          have hl2 := enc_len (rd ((zs.drop k).drop s1)).1
          have hle2 : (enc (rd ((zs.drop k).drop s1)).1).length ≤ zs.length - k - s1 := by
            have := congrArg List.length hmt
            simp only [List.length_take, List.length_drop] at this; omega
          obtain ⟨m, s2, hq2⟩ : ∃ (m : Int) (s2 : Nat), rd ((zs.drop k).drop s1) = (m, (s2 : Int), 0) := ⟨(rd ((zs.drop k).drop s1)).1, (enc (rd ((zs.drop k).drop s1)).1).length, by rw [← hms, ← h2]⟩
          have hs2 : (enc (rd ((zs.drop k).drop s1)).1).length = s2 := by rw [hq2] at hms ⊢; simp only at hms ⊢; omega
          rw [hs2] at hl2 hle2
          rw [hq2] at hm0 hm1
          simp only at hm0 hm1
          have ER : Hid (rf (zs.drop k) = if key % 2 = 0 then (⟨key / 2, false, m, []⟩, (s1 : Int) + s2, 0) else if ((zs.drop k).length : Int) - ((s1 : Int) + s2) < m then (zeroF, 0, 5) else (⟨key / 2, true, 0, ((zs.drop k).drop (s1 + s2)).take m.toNat⟩, (s1 : Int) + s2 + m, 0)) := by
            have e : ((s1 : Int) + (s2 : Int)).toNat = s1 + s2 := by omega
            show rf (zs.drop k) = _
            simp only [rf, HQ.out, Int.toNat_natCast, hq2, e, ne_eq, not_true_eq_false, if_false]
          rw [hq2]
          clear hms hmt hs2 h2 hq2 HQ
          have hw2 : IntKind.i64.wrap ((k : Int) + (s1 : Int) + (s2 : Int)) = (k : Int) + (s1 : Int) + (s2 : Int) := IntWalk.i64_in _ ⟨by omega, by omega⟩
          have e0 := box_cell hbx2 0
          have e1 := box_cell hbx2 1
          have e2 := box_cell hbx2 2
          have e3 := box_cell hbx2 3
          simp only [List.getElem?_toArray, List.getElem?_cons_zero, List.getElem?_cons_succ] at e0 e1 e2 e3
          by_cases hev : key % 2 = 0
          · have hodd : (key % 2 == 1) = false := by rw [hev]; rfl
            have ER2 : Hid (rf (zs.drop k) = (⟨key / 2, false, m, []⟩, (s1 : Int) + s2, 0)) := by show rf _ = _; rw [ER.out, if_pos hev]
            clear ER
            have HD2 : Hid (decM zs = if nextE (ps.map (·.1)) ⟨key / 2, false, m, []⟩ ≠ 0 then ([], (k : Int), nextE (ps.map (·.1)) ⟨key / 2, false, m, []⟩) else decF f (ps.map (·.1) ++ [⟨key / 2, false, m, []⟩]) ((k : Int) + ((s1 : Int) + s2)) ((zs.drop k).drop ((s1 : Int) + s2).toNat)) := by
              have := HD.out
              rw [ER2.out] at this
              show decM zs = _
              simpa using this
            clear HD ER2 hev
            have HSH : Hid ((⟨key / 2, false, m, []⟩ : Fld).shown w none 0) := ⟨Row.nil _ _, fun _ => ⟨rfl, rfl⟩, Nat.le_refl _, by simp [maxLen]⟩
            by_cases hbk : key < 2002
            · have hok : (⟨key / 2, false, m, []⟩ : Fld).ok := by simp only [Fld.ok]; omega
              have hft : nextE (ps.map (·.1)) (⟨key / 2, false, m, []⟩ : Fld) = if fitsB (⟨key / 2, false, m, []⟩ : Fld) (lastF (ps.map (·.1))) then (if ps.length = 64 then 3 else 0) else 1 := by
                have := fits_next (l := ps.map (·.1)) (f := (⟨key / 2, false, m, []⟩ : Fld)) (by simp [mixedB])
                rw [List.length_map] at this; exact this
              have HFT : Hid (nextE (ps.map (·.1)) (⟨key / 2, false, m, []⟩ : Fld) = if fitsB (⟨key / 2, false, m, []⟩ : Fld) (lastF (ps.map (·.1))) then (if ps.length = 64 then 3 else 0) else 1) := hft
              have CF : Hid (∀ W, Calls Try.prog 44 #[.agg #[.int .i64 (key / 2), .bool false, .int .u64 m, .slice none 0 0], .agg #[.int .i64 (lastF (ps.map (·.1))).tag, .bool (lastF (ps.map (·.1))).isB, .int .u64 (lastF (ps.map (·.1))).n, .slice la (lastF (ps.map (·.1))).b.length lc]] W fun e w' => e = .returned (.bool (fitsB (⟨key / 2, false, m, []⟩ : Fld) (lastF (ps.map (·.1))))) ∧ Below W.heap.size W w') := fun W => by
                have := rfits_any (⟨key / 2, false, m, []⟩ : Fld) none 0 (lastF (ps.map (·.1))) la lc W
                simp only [Fld.val, List.length_nil] at this; exact this
              clear hft
              generalize lastF (ps.map (·.1)) = l at *
              generalize fitsB (⟨key / 2, false, m, []⟩ : Fld) l = ft at *
              go_wp2_with fail
              refine (CF.out _).mono ?_
              rintro e w5 ⟨rfl, hb5⟩
              have hbA : Below w2.heap.size w2 w5 := ((Below.refl _ _).alloc (Nat.le_refl _) (.cells #[.int .i64 (key / 2), .bool false, .int .u64 m, .slice none 0 0] 75)).trans (hb5.mono (by simp))
              have hp5 : w5.ownsRow (w.heap.size + 1) 75 4 (.slice va ps.length vc) ps.length (cellsP ps) := fown_below hp2.1 hbA
              have hbx5 := box_below hbx2 hbA
              have hB5 := hB2.trans (hbA.mono hB2.size)
              have hbxx := box_below (heap_alloc_new w2 (.cells #[.int .i64 (key / 2), .bool false, .int .u64 m, .slice none 0 0] 75)) hb5
              have hlx : w2.heap.size < w5.heap.size := (Array.getElem?_eq_some_iff.1 hbxx).1
              have j0 := box_cell hbxx 0
              have j1 := box_cell hbxx 1
              have j2 := box_cell hbxx 2
              have j3 := box_cell hbxx 3
              simp only [List.getElem?_toArray, List.getElem?_cons_zero, List.getElem?_cons_succ] at j0 j1 j2 j3
              clear CF hb5 hbA e0 e1 e2 e3
              cases ft
              · have HD3 : Hid (decM zs = ([], (k : Int), 1)) := by
                  have := HD2.out
                  rw [HFT.out] at this
                  show decM zs = _
                  simpa using this
                clear HD2 HFT
                go_wp2
                go_ret3
                exact ⟨_, [], by rw [HD3.out]; rfl, PickedT.nil _ _ _ _, by rw [HD3.out]; rfl, hB5⟩
              · by_cases h64 : ps.length = 64
                · have HD3 : Hid (decM zs = ([], (k : Int), 3)) := by
                    have := HD2.out
                    rw [HFT.out] at this
                    show decM zs = _
                    simpa [h64] using this
                  have h64' : ((ps.length : Int) == 64) = true := by rw [h64]; rfl
                  clear HD2 HFT
                  go_wp2
                  go_ret3
                  exact ⟨_, [], by rw [HD3.out]; rfl, PickedT.nil _ _ _ _, by rw [HD3.out]; rfl, hB5⟩
                · have HD3 : Hid (decM zs = decF f (ps.map (·.1) ++ [(⟨key / 2, false, m, []⟩ : Fld)]) ((k : Int) + ((s1 : Int) + s2)) ((zs.drop k).drop (((s1 : Int) + s2)).toNat)) := by
                    have := HD2.out
                    rw [HFT.out] at this
                    show decM zs = _
                    simpa [h64] using this
                  have h64' : ((ps.length : Int) == 64) = false := by rw [beq_eq_false_iff_ne]; omega
                  have h64l : ps.length < 64 := by omega
                  clear HD2 HFT
                  go_wp2_with (at_builtin; go_must (refine wpList_append_own_at _ rfl (.tmp 103) (.tmp 105) 48 rfl (w.heap.size + 1) 75 i0 _ 4 48 Try.underlying48 hi hz0 hz1 hz2 rfl (by decide) _ _ _ rfl (hp5.alloc _) ⟨w5.heap.size, 0, none⟩ 1 1 [.int .i64 (key / 2), .bool false, .int .u64 m, .slice none 0 0] rfl rfl (pcells_new w5 75 ((⟨key / 2, false, m, []⟩ : Fld), none, 0)) (pcells_one ((⟨key / 2, false, m, []⟩ : Fld), none, 0)) (by unfold maxLen; omega) (by omega) (by simp; omega) ?_; intro v6 w6 hown6 hgrow6 _ hat6; have hb6x := (hgrow6.block w.heap.size (by simp; omega) (fun e => by have := (hp5.lt w.heap.size e.symm).1; omega)); have hx6x := (hgrow6.block w2.heap.size (by simp; omega) (fun e => by have := (hp2.1.lt w2.heap.size e.symm).2; omega)); have hbx6 := hb6x.trans ((heap_alloc_old w5 _ (by omega)).trans hbx5); have hxx6 := hx6x.trans ((heap_alloc_old w5 _ hlx).trans hbxx); have k0 := box_cell hxx6 0; have k1 := box_cell hxx6 1; have k2 := box_cell hxx6 2; have k3 := box_cell hxx6 3; have q0 := box_cell hbx6 0; have q1 := box_cell hbx6 1; have q2 := box_cell hbx6 2; have q3 := box_cell hbx6 3; have hfz := fun o => frozen_of_row w6 w.heap.size o _ _ hbx6; simp only [List.getElem?_toArray, List.getElem?_cons_zero, List.getElem?_cons_succ] at k0 k1 k2 k3 q0 q1 q2 q3; clear j0 j1 j2 j3 hb6x hx6x))
                  have hbx7 := box_set4 hbx6 (.int .i64 (key / 2)) (.bool false) (.int .u64 m) (.slice none 0 0)
                  have hg7 := grown_set4 w6 w.heap.size (.int .i64 (key / 2)) (.bool false) (.int .u64 m) (.slice none 0 0)
                  have hB6 : Below w.heap.size w w6 := (hB5.alloc hB5.size _).grown hgrow6 (by have := hB5.size; simp; omega) (fun q hq => by have := (hp5.lt q hq).1; omega)
                  have hB7 := hB6.trans (below_set4 w6 w.heap.size (.int .i64 (key / 2)) (.bool false) (.int .u64 m) (.slice none 0 0))
                  have hown7 := own_far hown6 (Nat.lt_succ_self _) hg7
                  have hlf : lastF (List.map (fun p : Fld × Option Addr × Nat => p.1) (ps ++ [((⟨key / 2, false, m, []⟩ : Fld), none, 0)])) = (⟨key / 2, false, m, []⟩ : Fld) := by rw [List.map_append]; exact lastF_snoc _ _
                  have hok2 := hp2.2
                  have hpx := HSH.out
                  clear hgrow6 hat6 hown6 hg7 hfz k0 k1 k2 k3 q0 q1 q2 q3 hxx6 hbx6 hp5 hbx5 hbxx hp2 hbx2
                  generalize ((((w6.setCell ⟨w.heap.size, 0, none⟩ (.int .i64 (key / 2))).setCell ⟨w.heap.size, 1, none⟩ (.bool false)).setCell ⟨w.heap.size, 2, none⟩ (.int .u64 m)).setCell ⟨w.heap.size, 3, none⟩ (.slice none 0 0)) = w7 at *
                  have hp7 : PickedT 75 w w7 (w.heap.size + 1) v6 (ps ++ [((⟨key / 2, false, m, []⟩ : Fld), none, 0)]) := by
                    refine ⟨?_, ?_⟩
                    · rw [List.length_append, cellsP_snoc]
                      simp only [pcells, List.length_nil, List.length_singleton]
                      exact hown7
                    · intro p hp'
                      rcases List.mem_append.1 hp' with h | h
                      · exact hok2 p h
                      · simp only [List.mem_singleton] at h
                        subst h
                        exact ⟨hok, hpx⟩
                  have hd7 : decM zs = decF f (List.map (fun p : Fld × Option Addr × Nat => p.1) (ps ++ [((⟨key / 2, false, m, []⟩ : Fld), none, 0)])) ((k + s1 + s2 : Nat) : Int) (zs.drop (k + s1 + s2)) := by
                    have q1 : (((s1 : Int) + s2)).toNat = s1 + s2 := by omega
                    have q2 : (k : Int) + ((s1 : Int) + s2) = ((k + s1 + s2 : Nat) : Int) := by omega
                    have q3 : k + (s1 + s2) = k + s1 + s2 := by omega
                    rw [HD3.out, q1, q2, List.drop_drop, q3, List.map_append]; rfl
                  go_roundw
                  case rel => exact ⟨ps ++ [((⟨key / 2, false, m, []⟩ : Fld), none, 0)], k + s1 + s2, f, none, 0, by omega, by go_num, hp7, by simp; omega, by rw [hlf]; simp only [List.length_nil]; exact hbx7, ⟨hd7, by omega⟩, hB7⟩
                  case measure => simp [intOf]; omega
            · have hnx : nextE (ps.map (·.1)) (⟨key / 2, false, m, []⟩ : Fld) = 1 := by
                have := fits_next (l := ps.map (·.1)) (f := (⟨key / 2, false, m, []⟩ : Fld)) (by simp [mixedB])
                rw [this, fits_big (by simp only; omega)]; rfl
              have HD3 : Hid (decM zs = ([], (k : Int), 1)) := by
                have := HD2.out
                rw [hnx] at this
                show decM zs = _
                simpa using this
              have CF : Hid (∀ W, Calls Try.prog 44 #[.agg #[.int .i64 1001, .bool false, .int .u64 m, .slice none 0 0], .agg #[.int .i64 (lastF (ps.map (·.1))).tag, .bool (lastF (ps.map (·.1))).isB, .int .u64 (lastF (ps.map (·.1))).n, .slice la (lastF (ps.map (·.1))).b.length lc]] W fun e w' => e = .returned (.bool false) ∧ Below W.heap.size W w') := fun W => by
                have := rfits_any ⟨1001, false, m, []⟩ none 0 (lastF (ps.map (·.1))) la lc W
                rw [fits_big (by simp)] at this
                simp only [Fld.val, List.length_nil] at this; exact this
              have hbk' : 2002 ≤ key := by omega
              clear hnx HD2 hbk
              generalize lastF (ps.map (·.1)) = l at *
              go_wp2_with fail
              refine (CF.out _).mono ?_
              rintro e w5 ⟨rfl, hb5⟩
              have hbA : Below w2.heap.size w2 w5 := ((Below.refl _ _).alloc (Nat.le_refl _) (.cells #[.int .i64 1001, .bool false, .int .u64 m, .slice none 0 0] 75)).trans (hb5.mono (by simp))
              have hB5 := hB2.trans (hbA.mono hB2.size)
              go_wp2
              go_ret3
              exact ⟨_, [], by rw [HD3.out]; rfl, PickedT.nil _ _ _ _, by rw [HD3.out]; rfl, hB5⟩
          · have hodd : (key % 2 == 1) = true := by
              have : key % 2 = 1 := by omega
              rw [this]; rfl
            have hw3 : IntKind.i64.wrap ((zs.length : Int) - ((k : Int) + (s1 : Int) + (s2 : Int))) = (zs.length : Int) - ((k : Int) + (s1 : Int) + (s2 : Int)) := IntWalk.i64_in _ ⟨by omega, by omega⟩
            have hw4 : IntKind.u64.wrap ((zs.length : Int) - ((k : Int) + (s1 : Int) + (s2 : Int))) = (zs.length : Int) - ((k : Int) + (s1 : Int) + (s2 : Int)) := u64_in _ (by omega) (by omega)
            by_cases hlong : (zs.length : Int) - ((k : Int) + (s1 : Int) + (s2 : Int)) < m
            · have ER2 : Hid (rf (zs.drop k) = (zeroF, 0, 5)) := by show rf _ = _; rw [ER.out, if_neg hev, if_pos (by rw [List.length_drop]; omega)]
              have HD2 : Hid (decM zs = ([], (k : Int), 5)) := by
                have := HD.out
                rw [ER2.out] at this
                show decM zs = _
                simpa using this
              clear HD ER ER2 hev
              go_wp2
              go_ret3
              exact ⟨_, [], by rw [HD2.out]; rfl, PickedT.nil _ _ _ _, by rw [HD2.out]; rfl, hB2⟩
            · obtain ⟨mm, rfl⟩ := Int.eq_ofNat_of_zero_le hm0
              have ER2 : Hid (rf (zs.drop k) = (⟨key / 2, true, 0, (zs.drop (k + s1 + s2)).take mm⟩, (s1 : Int) + s2 + mm, 0)) := by
                show rf _ = _
                rw [ER.out, if_neg hev, if_neg (by rw [List.length_drop]; omega), List.drop_drop, ← Nat.add_assoc]; rfl
              have HD2 : Hid (decM zs = if nextE (ps.map (·.1)) ⟨key / 2, true, 0, (zs.drop (k + s1 + s2)).take mm⟩ ≠ 0 then ([], (k : Int), nextE (ps.map (·.1)) ⟨key / 2, true, 0, (zs.drop (k + s1 + s2)).take mm⟩) else decF f (ps.map (·.1) ++ [⟨key / 2, true, 0, (zs.drop (k + s1 + s2)).take mm⟩]) ((k : Int) + ((s1 : Int) + s2 + mm)) ((zs.drop k).drop ((s1 : Int) + s2 + mm).toNat)) := by
                have := HD.out
                rw [ER2.out] at this
                show decM zs = _
                simpa using this
              clear HD ER ER2 hev
              have hend : k + s1 + s2 + mm ≤ zs.length := by omega
              have hlong' : (mm : Int) ≤ (zs.length : Int) - ((k : Int) + (s1 : Int) + (s2 : Int)) := by omega
              have hmb : (mm : Int) ≤ 4096 := by omega
              have hsl3 := run_cut_lh a zs.length cap (k + s1 + s2) (k + s1 + s2 + mm) ((k : Int) + s1 + s2) ((k : Int) + s1 + s2 + mm) (by omega) (by omega) (by omega) (by omega)
              have hd1 : k + s1 + s2 + mm - (k + s1 + s2) = mm := by omega
              rw [hd1] at hsl3
              have HLM : Hid (((zs.drop (k + s1 + s2)).take mm).length = mm) := by show List.length _ = _; simp; omega
              have hw5 : IntKind.i64.wrap ((k : Int) + (s1 : Int) + (s2 : Int) + (mm : Int)) = (k : Int) + (s1 : Int) + (s2 : Int) + (mm : Int) := IntWalk.i64_in _ ⟨by omega, by omega⟩
              have hw6 : IntKind.i64.wrap (mm : Int) = (mm : Int) := IntWalk.i64_in _ ⟨by omega, by omega⟩
              clear hd1 hlong hm0 hm1 hend
              have HSH : Hid ((⟨key / 2, true, 0, (zs.drop (k + s1 + s2)).take mm⟩ : Fld).shown w (cutA a cap (k + s1 + s2)) (cap - (k + s1 + s2))) := ⟨cutA_row (k + s1 + s2) mm hlc w hr, (fun hn => by have := cutA_nil (k + s1 + s2) hnil hn; simp only [HLM.out]; omega), by simp only [HLM.out]; omega, by omega⟩
              by_cases hbk : key < 2002
              · have hok : (⟨key / 2, true, 0, (zs.drop (k + s1 + s2)).take mm⟩ : Fld).ok := by simp only [Fld.ok]; omega
                have hft : nextE (ps.map (·.1)) (⟨key / 2, true, 0, (zs.drop (k + s1 + s2)).take mm⟩ : Fld) = if fitsB (⟨key / 2, true, 0, (zs.drop (k + s1 + s2)).take mm⟩ : Fld) (lastF (ps.map (·.1))) then (if ps.length = 64 then 3 else 0) else 1 := by
                  have := fits_next (l := ps.map (·.1)) (f := (⟨key / 2, true, 0, (zs.drop (k + s1 + s2)).take mm⟩ : Fld)) (by simp [mixedB])
                  rw [List.length_map] at this; exact this
                have HFT : Hid (nextE (ps.map (·.1)) (⟨key / 2, true, 0, (zs.drop (k + s1 + s2)).take mm⟩ : Fld) = if fitsB (⟨key / 2, true, 0, (zs.drop (k + s1 + s2)).take mm⟩ : Fld) (lastF (ps.map (·.1))) then (if ps.length = 64 then 3 else 0) else 1) := hft
                have CF : Hid (∀ W, Calls Try.prog 44 #[.agg #[.int .i64 (key / 2), .bool true, .int .u64 0, .slice (cutA a cap (k + s1 + s2)) mm (cap - (k + s1 + s2))], .agg #[.int .i64 (lastF (ps.map (·.1))).tag, .bool (lastF (ps.map (·.1))).isB, .int .u64 (lastF (ps.map (·.1))).n, .slice la (lastF (ps.map (·.1))).b.length lc]] W fun e w' => e = .returned (.bool (fitsB (⟨key / 2, true, 0, (zs.drop (k + s1 + s2)).take mm⟩ : Fld) (lastF (ps.map (·.1))))) ∧ Below W.heap.size W w') := fun W => by
                  have := rfits_any (⟨key / 2, true, 0, (zs.drop (k + s1 + s2)).take mm⟩ : Fld) (cutA a cap (k + s1 + s2)) (cap - (k + s1 + s2)) (lastF (ps.map (·.1))) la lc W
                  simp only [Fld.val, HLM.out] at this; exact this
                clear hft
                generalize lastF (ps.map (·.1)) = l at *
                generalize fitsB (⟨key / 2, true, 0, (zs.drop (k + s1 + s2)).take mm⟩ : Fld) l = ft at *
                go_wp2_with fail
                refine (CF.out _).mono ?_
                rintro e w5 ⟨rfl, hb5⟩
                have hbA : Below w2.heap.size w2 w5 := ((Below.refl _ _).alloc (Nat.le_refl _) (.cells #[.int .i64 (key / 2), .bool true, .int .u64 0, .slice (cutA a cap (k + s1 + s2)) mm (cap - (k + s1 + s2))] 75)).trans (hb5.mono (by simp))
                have hp5 : w5.ownsRow (w.heap.size + 1) 75 4 (.slice va ps.length vc) ps.length (cellsP ps) := fown_below hp2.1 hbA
                have hbx5 := box_below hbx2 hbA
                have hB5 := hB2.trans (hbA.mono hB2.size)
                have hbxx := box_below (heap_alloc_new w2 (.cells #[.int .i64 (key / 2), .bool true, .int .u64 0, .slice (cutA a cap (k + s1 + s2)) mm (cap - (k + s1 + s2))] 75)) hb5
                have hlx : w2.heap.size < w5.heap.size := (Array.getElem?_eq_some_iff.1 hbxx).1
                have j0 := box_cell hbxx 0
                have j1 := box_cell hbxx 1
                have j2 := box_cell hbxx 2
                have j3 := box_cell hbxx 3
                simp only [List.getElem?_toArray, List.getElem?_cons_zero, List.getElem?_cons_succ] at j0 j1 j2 j3
                clear CF hb5 hbA e0 e1 e2 e3
                cases ft
                · have HD3 : Hid (decM zs = ([], (k : Int), 1)) := by
                    have := HD2.out
                    rw [HFT.out] at this
                    show decM zs = _
                    simpa using this
                  clear HD2 HFT
                  go_wp2
                  go_ret3
                  exact ⟨_, [], by rw [HD3.out]; rfl, PickedT.nil _ _ _ _, by rw [HD3.out]; rfl, hB5⟩
                · by_cases h64 : ps.length = 64
                  · have HD3 : Hid (decM zs = ([], (k : Int), 3)) := by
                      have := HD2.out
                      rw [HFT.out] at this
                      show decM zs = _
                      simpa [h64] using this
                    have h64' : ((ps.length : Int) == 64) = true := by rw [h64]; rfl
                    clear HD2 HFT
                    go_wp2
                    go_ret3
                    exact ⟨_, [], by rw [HD3.out]; rfl, PickedT.nil _ _ _ _, by rw [HD3.out]; rfl, hB5⟩
                  · have HD3 : Hid (decM zs = decF f (ps.map (·.1) ++ [(⟨key / 2, true, 0, (zs.drop (k + s1 + s2)).take mm⟩ : Fld)]) ((k : Int) + ((s1 : Int) + s2 + mm)) ((zs.drop k).drop (((s1 : Int) + s2 + mm)).toNat)) := by
                      have := HD2.out
                      rw [HFT.out] at this
                      show decM zs = _
                      simpa [h64] using this
                    have h64' : ((ps.length : Int) == 64) = false := by rw [beq_eq_false_iff_ne]; omega
                    have h64l : ps.length < 64 := by omega
                    clear HD2 HFT
                    go_wp2_with (at_builtin; go_must (refine wpList_append_own_at _ rfl (.tmp 103) (.tmp 105) 48 rfl (w.heap.size + 1) 75 i0 _ 4 48 Try.underlying48 hi hz0 hz1 hz2 rfl (by decide) _ _ _ rfl (hp5.alloc _) ⟨w5.heap.size, 0, none⟩ 1 1 [.int .i64 (key / 2), .bool true, .int .u64 0, .slice (cutA a cap (k + s1 + s2)) mm (cap - (k + s1 + s2))] rfl rfl (by have := pcells_new w5 75 ((⟨key / 2, true, 0, (zs.drop (k + s1 + s2)).take mm⟩ : Fld), (cutA a cap (k + s1 + s2)), (cap - (k + s1 + s2))); simp only [pcells, HLM.out] at this; exact this) (by have := pcells_one ((⟨key / 2, true, 0, (zs.drop (k + s1 + s2)).take mm⟩ : Fld), (cutA a cap (k + s1 + s2)), (cap - (k + s1 + s2))); simp only [pcells, HLM.out] at this; exact this) (by unfold maxLen; omega) (by omega) (by simp; omega) ?_; intro v6 w6 hown6 hgrow6 _ hat6; have hb6x := (hgrow6.block w.heap.size (by simp; omega) (fun e => by have := (hp5.lt w.heap.size e.symm).1; omega)); have hx6x := (hgrow6.block w2.heap.size (by simp; omega) (fun e => by have := (hp2.1.lt w2.heap.size e.symm).2; omega)); have hbx6 := hb6x.trans ((heap_alloc_old w5 _ (by omega)).trans hbx5); have hxx6 := hx6x.trans ((heap_alloc_old w5 _ hlx).trans hbxx); have k0 := box_cell hxx6 0; have k1 := box_cell hxx6 1; have k2 := box_cell hxx6 2; have k3 := box_cell hxx6 3; have q0 := box_cell hbx6 0; have q1 := box_cell hbx6 1; have q2 := box_cell hbx6 2; have q3 := box_cell hbx6 3; have hfz := fun o => frozen_of_row w6 w.heap.size o _ _ hbx6; simp only [List.getElem?_toArray, List.getElem?_cons_zero, List.getElem?_cons_succ] at k0 k1 k2 k3 q0 q1 q2 q3; clear j0 j1 j2 j3 hb6x hx6x))
                    have hbx7 := box_set4 hbx6 (.int .i64 (key / 2)) (.bool true) (.int .u64 0) (.slice (cutA a cap (k + s1 + s2)) mm (cap - (k + s1 + s2)))
                    have hg7 := grown_set4 w6 w.heap.size (.int .i64 (key / 2)) (.bool true) (.int .u64 0) (.slice (cutA a cap (k + s1 + s2)) mm (cap - (k + s1 + s2)))
                    have hB6 : Below w.heap.size w w6 := (hB5.alloc hB5.size _).grown hgrow6 (by have := hB5.size; simp; omega) (fun q hq => by have := (hp5.lt q hq).1; omega)
                    have hB7 := hB6.trans (below_set4 w6 w.heap.size (.int .i64 (key / 2)) (.bool true) (.int .u64 0) (.slice (cutA a cap (k + s1 + s2)) mm (cap - (k + s1 + s2))))
                    have hown7 := own_far hown6 (Nat.lt_succ_self _) hg7
                    have hlf : lastF (List.map (fun p : Fld × Option Addr × Nat => p.1) (ps ++ [((⟨key / 2, true, 0, (zs.drop (k + s1 + s2)).take mm⟩ : Fld), (cutA a cap (k + s1 + s2)), (cap - (k + s1 + s2)))])) = (⟨key / 2, true, 0, (zs.drop (k + s1 + s2)).take mm⟩ : Fld) := by rw [List.map_append]; exact lastF_snoc _ _
                    have hok2 := hp2.2
                    have hpx := HSH.out
                    clear hgrow6 hat6 hown6 hg7 hfz k0 k1 k2 k3 q0 q1 q2 q3 hxx6 hbx6 hp5 hbx5 hbxx hp2 hbx2
                    generalize ((((w6.setCell ⟨w.heap.size, 0, none⟩ (.int .i64 (key / 2))).setCell ⟨w.heap.size, 1, none⟩ (.bool true)).setCell ⟨w.heap.size, 2, none⟩ (.int .u64 0)).setCell ⟨w.heap.size, 3, none⟩ (.slice (cutA a cap (k + s1 + s2)) mm (cap - (k + s1 + s2)))) = w7 at *
                    have hp7 : PickedT 75 w w7 (w.heap.size + 1) v6 (ps ++ [((⟨key / 2, true, 0, (zs.drop (k + s1 + s2)).take mm⟩ : Fld), (cutA a cap (k + s1 + s2)), (cap - (k + s1 + s2)))]) := by
                      refine ⟨?_, ?_⟩
                      · rw [List.length_append, cellsP_snoc]
                        simp only [pcells, HLM.out, List.length_singleton]
                        exact hown7
                      · intro p hp'
                        rcases List.mem_append.1 hp' with h | h
                        · exact hok2 p h
                        · simp only [List.mem_singleton] at h
                          subst h
                          exact ⟨hok, hpx⟩
                    have hd7 : decM zs = decF f (List.map (fun p : Fld × Option Addr × Nat => p.1) (ps ++ [((⟨key / 2, true, 0, (zs.drop (k + s1 + s2)).take mm⟩ : Fld), (cutA a cap (k + s1 + s2)), (cap - (k + s1 + s2)))])) ((k + s1 + s2 + mm : Nat) : Int) (zs.drop (k + s1 + s2 + mm)) := by
                      have q1 : (((s1 : Int) + s2 + mm)).toNat = s1 + s2 + mm := by omega
                      have q2 : (k : Int) + ((s1 : Int) + s2 + mm) = ((k + s1 + s2 + mm : Nat) : Int) := by omega
                      have q3 : k + (s1 + s2 + mm) = k + s1 + s2 + mm := by omega
                      rw [HD3.out, q1, q2, List.drop_drop, q3, List.map_append]; rfl
                    go_roundw
                    case rel => exact ⟨ps ++ [((⟨key / 2, true, 0, (zs.drop (k + s1 + s2)).take mm⟩ : Fld), (cutA a cap (k + s1 + s2)), (cap - (k + s1 + s2)))], k + s1 + s2 + mm, f, (cutA a cap (k + s1 + s2)), (cap - (k + s1 + s2)), by omega, by go_num, hp7, by simp; omega, by rw [hlf]; simp only [HLM.out]; exact hbx7, ⟨hd7, by omega⟩, hB7⟩
                    case measure => simp [intOf]; omega
              · have hnx : nextE (ps.map (·.1)) (⟨key / 2, true, 0, (zs.drop (k + s1 + s2)).take mm⟩ : Fld) = 1 := by
                  have := fits_next (l := ps.map (·.1)) (f := (⟨key / 2, true, 0, (zs.drop (k + s1 + s2)).take mm⟩ : Fld)) (by simp [mixedB])
                  rw [this, fits_big (by simp only; omega)]; rfl
                have HD3 : Hid (decM zs = ([], (k : Int), 1)) := by
                  have := HD2.out
                  rw [hnx] at this
                  show decM zs = _
                  simpa using this
                have CF : Hid (∀ W, Calls Try.prog 44 #[.agg #[.int .i64 1001, .bool true, .int .u64 0, .slice (cutA a cap (k + s1 + s2)) mm (cap - (k + s1 + s2))], .agg #[.int .i64 (lastF (ps.map (·.1))).tag, .bool (lastF (ps.map (·.1))).isB, .int .u64 (lastF (ps.map (·.1))).n, .slice la (lastF (ps.map (·.1))).b.length lc]] W fun e w' => e = .returned (.bool false) ∧ Below W.heap.size W w') := fun W => by
                  have := rfits_any ⟨1001, true, 0, (zs.drop (k + s1 + s2)).take mm⟩ (cutA a cap (k + s1 + s2)) (cap - (k + s1 + s2)) (lastF (ps.map (·.1))) la lc W
                  rw [fits_big (by simp)] at this
                  simp only [Fld.val, HLM.out] at this; exact this
                have hbk' : 2002 ≤ key := by omega
                clear hnx HD2 hbk
                generalize lastF (ps.map (·.1)) = l at *
                go_wp2_with fail
                refine (CF.out _).mono ?_
                rintro e w5 ⟨rfl, hb5⟩
                have hbA : Below w2.heap.size w2 w5 := ((Below.refl _ _).alloc (Nat.le_refl _) (.cells #[.int .i64 1001, .bool true, .int .u64 0, .slice (cutA a cap (k + s1 + s2)) mm (cap - (k + s1 + s2))] 75)).trans (hb5.mono (by simp))
                have hB5 := hB2.trans (hbA.mono hB2.size)
                go_wp2
                go_ret3
                exact ⟨_, [], by rw [HD3.out]; rfl, PickedT.nil _ _ _ _, by rw [HD3.out]; rfl, hB5⟩
        · have HD2 : Hid (decM zs = ([], (k : Int), (rd ((zs.drop k).drop s1)).2.2)) := by
            have hrf : rf (zs.drop k) = (zeroF, 0, (rd ((zs.drop k).drop s1)).2.2) := by
              have h2' : ¬ (rd (zs.drop (k + s1))).2.2 = 0 := by rw [← List.drop_drop]; exact h2
              simp [rf, HQ.out, h2']
            have := HD.out
            rw [hrf] at this
            rw [if_pos h2] at this
            exact this
          have hne : ((rd ((zs.drop k).drop s1)).2.2 != 0) = true := by simpa using h2
          clear HD HQ h2
          generalize rd ((zs.drop k).drop s1) = q2 at *
          obtain ⟨m, s2, e2⟩ := q2
          simp only at hne
          dsimp only at HD2
          go_wp2
          go_ret3
          exact ⟨_, [], by rw [HD2.out]; rfl, PickedT.nil _ _ _ _, by rw [HD2.out]; rfl, hB2⟩
      · have HD2 : Hid (decM zs = ([], (k : Int), (rd (zs.drop k)).2.2)) := by
          have hrf : rf (zs.drop k) = (zeroF, 0, (rd (zs.drop k)).2.2) := by simp [rf, h0]
          have := HD.out
          rw [hrf] at this
          rw [if_pos h0] at this
          exact this
        have hne : ((rd (zs.drop k)).2.2 != 0) = true := by simpa using h0
        clear HD h0
        generalize rd (zs.drop k) = q1 at *
        obtain ⟨m, s2, e2⟩ := q1
        simp only at hne
        dsimp only at HD2 CR1
        go_wp2_with fail
        refine (CR1.out _ hrk).mono ?_
        rintro e w1 ⟨rfl, hb1⟩
        go_wp2
        go_ret3
        exact ⟨_, [], by rw [HD2.out]; rfl, PickedT.nil _ _ _ _, by rw [HD2.out]; rfl, hb.trans (hb1.mono hb.size)⟩
    · have HD2 : Hid (decM zs = (ps.map (·.1), (ps.length : Int), 0)) := by
        have := hid.out.1
        rw [List.drop_eq_nil_of_le (by omega), decF_nil, List.length_map] at this
        exact this
      clear hid hr
      go_wp2
      go_ret3
      have hp0 : PickedT 75 w wr w.heap.size (.slice va ps.length vc) ps := ⟨own_baseT hp.1 (Nat.le_succ _), hp.2⟩
      refine ⟨.slice va ps.length vc, ?_, ps, hp0, ?_, hb⟩
      · rw [HD2.out]; rfl
      · rw [HD2.out]
end Go.Proofs.Yteidjnkkjjigoaa
