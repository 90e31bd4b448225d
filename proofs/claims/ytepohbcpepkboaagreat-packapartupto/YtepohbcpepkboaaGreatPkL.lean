/- The value of bytes, made: valueOf. No conditions but bytes in memory. -/
import Derived.Test.YtepohbcpepkboaaGreatPkK
namespace Go.Proofs.YtepohbcpepkboaaGreat
open Go.RowKit Go.Maps Go.WideMaps

set_option maxRecDepth 100000 in
theorem fin_box {W w3 : World} {u : Value} {y : V} (hH3 : w3.heap[W.heap.size]? = some (.cells #[.nilIface] 34)) (hB3 : Below W.heap.size W w3) (hr : Rep w3 (fun b => W.heap.size < b) u y) :
    (store ⟨W.heap.size, 0, none⟩ u).run Tryz.prog w3 = .ok () (w3.setCell ⟨W.heap.size, 0, none⟩ u) ∧ (w3.setCell ⟨W.heap.size, 0, none⟩ u).cell? ⟨W.heap.size, 0, none⟩ = some u ∧ Below W.heap.size W (w3.setCell ⟨W.heap.size, 0, none⟩ u) ∧ Rep (w3.setCell ⟨W.heap.size, 0, none⟩ u) (fun b => W.heap.size ≤ b) u y :=
  ⟨store_old u .nilIface hr.one w3 ⟨W.heap.size, 0, none⟩ (cell_of_row _ _ _ _ _ _ hH3) (frozen_of_row _ _ _ _ _ hH3), cell_of_row _ _ _ _ _ _ (heap_setCell_same _ _ 0 _ _ u hH3), hB3.setCell (Nat.le_refl _) _,
    (hr.agree (fun b hb _ => Below.heap_setCell _ _ _ _ (show b ≠ W.heap.size by have h : W.heap.size < b := hb; omega))).mono (fun b hb _ => by have h : W.heap.size < b := hb; omega)⟩
set_option maxRecDepth 100000 in
theorem dec_small (zs : List Int) (hz : ∀ c ∈ zs, 0 ≤ c ∧ c ≤ 255) : ∀ x ∈ (decM zs).1, x.b.length ≤ 4096 := by
  intro x hx
  by_cases h : (decM zs).2.2 = 0
  · have h1 := encM_dec zs hz h
    have h2 : (encM (decM zs).1).2 = 0 := by rw [h1]
    have h3 := encM_ok h2
    have h4 := blen_lay (decM zs).1 [] h3.1
    have h5 := encM_len (decM zs).1
    rw [h3.2] at h5
    have := blen_mem hx
    omega
  · rw [decM_err zs h] at hx; simp at hx
set_option maxRecDepth 100000 in
set_option maxHeartbeats 12800000 in
theorem valueof_all : ∀ (f : Nat) (zs : List Int), zs.length < f → ValC (valF f) zs
  | 0, zs, h => by omega
  | f + 1, zs, hlt => by
    intro W a cap hrow hnil hlc
    have hz := hrow.byte
    have HV : Hid (∀ t, ∀ b ∈ manyB t (decM zs).1, ValC (valF f) b) := fun t b hb => valueof_all f b (by have := (many_byte hz hb).2.1; omega)
    have hwd := dec_wide zs hz
    have hfl := hwd.2.2
    have HL5 := hide (dec_small zs hz)
    have HOK := hide (decM_ok zs hz)
    have HE : Hid (valF (f + 1) zs = valOf (valF f) (decM zs).1) := rfl
    have HBK : Hid (∀ t, V.bulk.go ((manyB t (decM zs).1).map (valF f)) ≤ 4096) := fun t => by
      have h1 := bulk_map_le (g := valF f) (manyB t (decM zs).1) (fun b hb => (valF_bulk f b (many_byte hz hb).1).1)
      have h2 := many_wide t (decM zs).1
      omega
    have hb0 : Below W.heap.size W (W.alloc (.cells #[.nilIface] 34)) := (Below.refl _ _).alloc (Nat.le_refl _) _
    have hH0 := heap_alloc_new W (.cells #[.nilIface] 34)
    have CD := hide (decode_any a zs cap (W.alloc (.cells #[.nilIface] 34)) (hrow.below hb0) hnil hlc)
    clear hrow hnil hlc hz hlt hwd
    generalize (decM zs).1 = fs at *
    go_enter Tryz.func38, Tryz.ntmps38
    go_wp2_with fail
    refine CD.out.mono ?_
    rintro ex w1 ⟨lv, ps, rfl, hfo, hps, hb1⟩
    obtain ⟨a1, c1, rfl, hfr, hn1, hl1, hm1⟩ := hfo.view
    rw [hps] at hfr
    have hpl : ps.length = fs.length := by rw [← hps]; simp
    have hH1 := (hb1.block _ (by simp)).trans hH0
    have hB1 := hb0.trans (hb1.mono hb0.size)
    have hzW : W.heap.size < w1.heap.size := by have := hb1.size; simp at this; omega
    clear CD hfo hps hb1 hb0 hH0
    rw [hpl]
    go_wp2_with fail
    refine (number2_any a1 fs c1 1 w1 hfr (by omega)).mono ?_
    rintro ex w2 ⟨rfl, hb2⟩
    have hfr2 := hfr.below hb2
    have hH2 := (hb2.block _ hzW).trans hH1
    have hB2 := hB1.trans (hb2.mono hB1.size)
    have hzW2 : W.heap.size < w2.heap.size := by have := hb2.size; omega
    clear hfr hH1 hB1 hb2 hzW
    by_cases h1 : numN (fitB 1 false) fs = 1
    · have hval : valOf (valF f) fs = V.mk 1 false 0 0 ByteArray.empty [] [] := by
        unfold valOf
        rw [if_pos h1]
      have hb1 : (numN (fitB 1 false) fs == 1) = true := by simpa using h1
      rw [hval] at HE
      clear hval h1
      go_wp2_with fail
      refine (later_any w2).mono ?_
      rintro ex w3 ⟨rfl, hbw⟩
      have hrl := Rep.later (w := w3) (ok := fun b => W.heap.size < b) 
      generalize hu : Value.iface 107 (.agg #[]) = u at hrl ⊢
      have hone := hrl.one
      clear hu
      have hHf := (hbw.block _ hzW2).trans hH2
      have hB3 := hB2.trans (hbw.mono hB2.size)
      obtain ⟨st, hcu, hBf, hrf⟩ := fin_box hHf hB3 (hrl)
      have HF := hide (And.intro hBf hrf)
      clear hBf hrf hB3 hHf hbw hrl
      go_wp2_with fail
      exact bodyPost_ret (v := .agg #[u]) (by simp [results, Tryz.results38, go_sem, hcu]) rfl ⟨_, rfl, by rw [HE.out]; exact HF.out.2, HF.out.1⟩
    have hb1 : (numN (fitB 1 false) fs == 1) = false := by simpa using h1
    by_cases h2 : numN (fitB 1 false) fs = 2
    · have hval : valOf (valF f) fs = V.mk 2 (decide (numN (fitB 2 false) fs = 1)) 0 0 ByteArray.empty [] [] := by
        unfold valOf
        rw [if_neg h1]
        rw [if_pos h2]
      have hb2 : (numN (fitB 1 false) fs == 2) = true := by simpa using h2
      rw [hval] at HE
      clear hval h1 h2
      go_wp2_with fail
      refine (number2_any a1 fs c1 2 w2 hfr2 (by omega)).mono ?_
      rintro ex w3 ⟨rfl, hb3⟩
      generalize numN (fitB 2 false) fs = n2 at *
      have e2 : (n2 == 1) = decide (n2 = 1) := by rw [Bool.eq_iff_iff]; simp
      generalize decide (n2 = 1) = bb at *
      go_wp2_with fail
      refine (of_bool_any bb w3).mono ?_
      rintro ex w4 ⟨rfl, hb4⟩
      have hbw := hb3.trans (hb4.mono hb3.size)
      clear hb3 hb4
      have hrl := Rep.bool (w := w4) (ok := fun b => W.heap.size < b) bb
      generalize hu : Value.iface 4 (.bool bb) = u at hrl ⊢
      have hone := hrl.one
      clear hu
      have hHf := (hbw.block _ hzW2).trans hH2
      have hB3 := hB2.trans (hbw.mono hB2.size)
      obtain ⟨st, hcu, hBf, hrf⟩ := fin_box hHf hB3 (hrl)
      have HF := hide (And.intro hBf hrf)
      clear hBf hrf hB3 hHf hbw hrl
      go_wp2_with fail
      exact bodyPost_ret (v := .agg #[u]) (by simp [results, Tryz.results38, go_sem, hcu]) rfl ⟨_, rfl, by rw [HE.out]; exact HF.out.2, HF.out.1⟩
    have hb2 : (numN (fitB 1 false) fs == 2) = false := by simpa using h2
    by_cases h3 : numN (fitB 1 false) fs = 3
    · have hval : valOf (valF f) fs = V.mk 3 false (zagv (numN (fitB 2 false) fs)) 0 ByteArray.empty [] [] := by
        unfold valOf
        rw [if_neg h1]
        rw [if_neg h2]
        rw [if_pos h3]
      have hb3 : (numN (fitB 1 false) fs == 3) = true := by simpa using h3
      rw [hval] at HE
      clear hval h1 h2 h3
      have n2 := numN_ok (p := fitB 2 false) HOK.out
      have z2 := zagv_bound _ n2.1 n2.2
      go_wp2_with fail
      refine (number2_any a1 fs c1 2 w2 hfr2 (by omega)).mono ?_
      rintro ex w3 ⟨rfl, hb3⟩
      generalize numN (fitB 2 false) fs = m2 at *
      go_wp2_with fail
      refine (zag_any m2 w3 n2.1 n2.2).mono ?_
      rintro ex w5 ⟨rfl, rfl⟩
      generalize zagv m2 = z at *
      go_wp2_with fail
      refine (int_any z w3).mono ?_
      rintro ex w4 ⟨rfl, hb4⟩
      have hbw := hb3.trans (hb4.mono hb3.size)
      clear hb3 hb4
      have hrl := Rep.int (w := w4) (ok := fun b => W.heap.size < b) z z2
      generalize hu : Value.iface 3 (.int .i64 z) = u at hrl ⊢
      have hone := hrl.one
      clear hu
      have hHf := (hbw.block _ hzW2).trans hH2
      have hB3 := hB2.trans (hbw.mono hB2.size)
      obtain ⟨st, hcu, hBf, hrf⟩ := fin_box hHf hB3 (hrl)
      have HF := hide (And.intro hBf hrf)
      clear hBf hrf hB3 hHf hbw hrl
      go_wp2_with fail
      exact bodyPost_ret (v := .agg #[u]) (by simp [results, Tryz.results38, go_sem, hcu]) rfl ⟨_, rfl, by rw [HE.out]; exact HF.out.2, HF.out.1⟩
    have hb3 : (numN (fitB 1 false) fs == 3) = false := by simpa using h3
    by_cases h4 : numN (fitB 1 false) fs = 4
    · have n2 := numN_ok (p := fitB 2 false) HOK.out
      have z2 := zagv_bound _ n2.1 n2.2
      have n3 := numN_ok (p := fitB 3 false) HOK.out
      by_cases hp : partB (zagv (numN (fitB 2 false) fs)) = true ∧ partB (zagv (numN (fitB 3 false) fs)) = true
      · have hval : valOf (valF f) fs = V.mk 4 false (zagv (numN (fitB 2 false) fs)) (zagv (numN (fitB 3 false) fs)) ByteArray.empty [] [] := by
          unfold valOf
          rw [if_neg h1]
          rw [if_neg h2]
          rw [if_neg h3]
          rw [if_pos h4]
          rw [if_pos hp]
        have hb4 : (numN (fitB 1 false) fs == 4) = true := by simpa using h4
        rw [hval] at HE
        clear hval h1 h2 h3 h4
        have b1 : -9007199254740992 ≤ zagv (numN (fitB 2 false) fs) ∧ zagv (numN (fitB 2 false) fs) ≤ 9007199254740992 := by simpa [partB] using hp.1
        have b2 : -9007199254740992 ≤ zagv (numN (fitB 3 false) fs) ∧ zagv (numN (fitB 3 false) fs) ≤ 9007199254740992 := by simpa [partB] using hp.2
        clear hp
        go_wp2_with fail
        refine (number2_any a1 fs c1 2 w2 hfr2 (by omega)).mono ?_
        rintro ex w3 ⟨rfl, hb3⟩
        go_wp2_with fail
        refine (zag_any _ w3 n2.1 n2.2).mono ?_
        rintro ex w5 ⟨rfl, rfl⟩
        go_wp2_with fail
        refine (number2_any a1 fs c1 3 w3 (hfr2.below hb3) (by omega)).mono ?_
        rintro ex w6 ⟨rfl, hb6⟩
        go_wp2_with fail
        refine (zag_any _ w6 n3.1 n3.2).mono ?_
        rintro ex w7 ⟨rfl, rfl⟩
        generalize zagv (numN (fitB 2 false) fs) = z at *
        generalize zagv (numN (fitB 3 false) fs) = z' at *
        have hb36 := hb3.trans (hb6.mono hb3.size)
        clear hb3 hb6
        go_wp2_with fail
        refine (point_yes z z' w6 b1 b2).mono ?_
        rintro ex w4 ⟨rfl, hb4⟩
        have hbw := hb36.trans (hb4.mono hb36.size)
        clear hb36 hb4
        have hone : (Value.iface 109 (.complex .f64 (floatOfInt .f64 z) (floatOfInt .f64 z'))).oneCell' = true := rfl
        generalize hu : Value.iface 109 (.complex .f64 (floatOfInt .f64 z) (floatOfInt .f64 z')) = u at *
        have hrep : ∀ W', Rep W' (fun b => W.heap.size < b) u (V.mk 4 false z z' ByteArray.empty [] []) := fun W' => by rw [← hu]; exact Rep.point z z' b1 b2
        clear hu
        have HR := hide hrep
        clear hrep
        have stn := store_new 34 u .nilIface (HR.out w4).one w4
        have hbx : Below w4.heap.size w4 (w4.alloc (.cells #[u] 34)) := (Below.refl _ _).alloc (Nat.le_refl _) _
        have hcx := cell_of_row _ _ 0 _ _ _ (heap_alloc_new w4 (.cells #[u] 34))
        replace hbw := hbw.trans (hbx.mono hbw.size)
        have hHf := (hbw.block _ hzW2).trans hH2
        have hB3 := hB2.trans (hbw.mono hB2.size)
        obtain ⟨st, hcu, hBf, hrf⟩ := fin_box hHf hB3 (HR.out _)
        have HF := hide (And.intro hBf hrf)
        clear hBf hrf hB3 hHf hbw
        go_wp2_with fail
        exact bodyPost_ret (v := .agg #[u]) (by simp [results, Tryz.results38, go_sem, hcu]) rfl ⟨_, rfl, by rw [HE.out]; exact HF.out.2, HF.out.1⟩
      · have hval : valOf (valF f) fs = V.null := by
          unfold valOf
          rw [if_neg h1]
          rw [if_neg h2]
          rw [if_neg h3]
          rw [if_pos h4]
          rw [if_neg hp]
        have hb4 : (numN (fitB 1 false) fs == 4) = true := by simpa using h4
        rw [hval] at HE
        clear hval h1 h2 h3 h4
        have hq : partB (zagv (numN (fitB 2 false) fs)) = false ∨ (partB (zagv (numN (fitB 2 false) fs)) = true ∧ partB (zagv (numN (fitB 3 false) fs)) = false) := by
          cases h6 : partB (zagv (numN (fitB 2 false) fs))
          · exact Or.inl rfl
          · cases h7 : partB (zagv (numN (fitB 3 false) fs))
            · exact Or.inr ⟨rfl, rfl⟩
            · exact absurd ⟨h6, h7⟩ hp
        have HQ := hide hq
        clear hp hq
        go_wp2_with fail
        refine (number2_any a1 fs c1 2 w2 hfr2 (by omega)).mono ?_
        rintro ex w3 ⟨rfl, hb3⟩
        go_wp2_with fail
        refine (zag_any _ w3 n2.1 n2.2).mono ?_
        rintro ex w5 ⟨rfl, rfl⟩
        go_wp2_with fail
        refine (number2_any a1 fs c1 3 w3 (hfr2.below hb3) (by omega)).mono ?_
        rintro ex w6 ⟨rfl, hb6⟩
        go_wp2_with fail
        refine (zag_any _ w6 n3.1 n3.2).mono ?_
        rintro ex w7 ⟨rfl, rfl⟩
        generalize zagv (numN (fitB 2 false) fs) = z at *
        generalize zagv (numN (fitB 3 false) fs) = z' at *
        have hb36 := hb3.trans (hb6.mono hb3.size)
        clear hb3 hb6
        go_wp2_with fail
        refine (point_not z z' w6 HQ.out).mono ?_
        rintro ex w4 ⟨rfl, hb4⟩
        have hbw := hb36.trans (hb4.mono hb36.size)
        clear hb36 hb4
        generalize hu : Value.nilIface = u
        have HR : Hid (∀ W', Rep W' (fun b => W.heap.size < b) u V.null) := fun W' => by rw [← hu]; exact Rep.null
        have hone := (HR.out w4).one
        clear hu
        have stn := store_new 34 u .nilIface (HR.out w4).one w4
        have hbx : Below w4.heap.size w4 (w4.alloc (.cells #[u] 34)) := (Below.refl _ _).alloc (Nat.le_refl _) _
        have hcx := cell_of_row _ _ 0 _ _ _ (heap_alloc_new w4 (.cells #[u] 34))
        replace hbw := hbw.trans (hbx.mono hbw.size)
        have hHf := (hbw.block _ hzW2).trans hH2
        have hB3 := hB2.trans (hbw.mono hB2.size)
        obtain ⟨st, hcu, hBf, hrf⟩ := fin_box hHf hB3 (HR.out _)
        have HF := hide (And.intro hBf hrf)
        clear hBf hrf hB3 hHf hbw
        go_wp2_with fail
        exact bodyPost_ret (v := .agg #[u]) (by simp [results, Tryz.results38, go_sem, hcu]) rfl ⟨_, rfl, by rw [HE.out]; exact HF.out.2, HF.out.1⟩
    have hb4 : (numN (fitB 1 false) fs == 4) = false := by simpa using h4
    by_cases h5 : numN (fitB 1 false) fs = 5
    · have hval : valOf (valF f) fs = V.mk 5 false 0 0 (strOfNums (bytB (fitB 4 true) fs)) [] [] := by
        unfold valOf
        rw [if_neg h1]
        rw [if_neg h2]
        rw [if_neg h3]
        rw [if_neg h4]
        rw [if_pos h5]
      have hb5 : (numN (fitB 1 false) fs == 5) = true := by simpa using h5
      rw [hval] at HE
      clear hval h1 h2 h3 h4 h5
      have hwl : (bytB (fitB 4 true) fs).length ≤ 4096 := by
        unfold bytB
        cases hx : fs[fs.findIdx (fitB 4 true)]? with
        | none => simp
        | some x => have := HL5.out x (List.mem_of_getElem? hx); simpa using this
      have hsz : (strOfNums (bytB (fitB 4 true) fs)).size ≤ maxLen := by rw [strOfNums_size]; simp [maxLen]; omega
      go_wp2_with fail
      refine (bytes_any a1 fs c1 4 w2 hfr2 (by omega) (fun x hx => by have := HL5.out x hx; omega)).mono ?_
      rintro ex w3 ⟨a3, c3, rfl, hr3, hb3⟩
      have hcv := hr3.text (bytB (fitB 4 true) fs).length c3 rfl
      clear hr3
      generalize strOfNums (bytB (fitB 4 true) fs) = s at *
      generalize (bytB (fitB 4 true) fs).length = sl at *
      go_wp2_with fail
      refine (text_any s w3).mono ?_
      rintro ex w4 ⟨rfl, hb4⟩
      have hbw := hb3.trans (hb4.mono hb3.size)
      clear hb3 hb4 hcv
      have hrl := Rep.text (w := w4) (ok := fun b => W.heap.size < b) s hsz
      generalize hu : Value.iface 9 (.string s) = u at hrl ⊢
      have hone := hrl.one
      clear hu
      have hHf := (hbw.block _ hzW2).trans hH2
      have hB3 := hB2.trans (hbw.mono hB2.size)
      obtain ⟨st, hcu, hBf, hrf⟩ := fin_box hHf hB3 (hrl)
      have HF := hide (And.intro hBf hrf)
      clear hBf hrf hB3 hHf hbw hrl
      go_wp2_with fail
      exact bodyPost_ret (v := .agg #[u]) (by simp [results, Tryz.results38, go_sem, hcu]) rfl ⟨_, rfl, by rw [HE.out]; exact HF.out.2, HF.out.1⟩
    have hb5 : (numN (fitB 1 false) fs == 5) = false := by simpa using h5
    by_cases h6 : numN (fitB 1 false) fs = 6
    · have hval : valOf (valF f) fs = V.list ((manyB 5 fs).map (valF f)) := by
        unfold valOf
        rw [if_neg h1]
        rw [if_neg h2]
        rw [if_neg h3]
        rw [if_neg h4]
        rw [if_neg h5]
        rw [if_pos h6]
      have hb6 : (numN (fitB 1 false) fs == 6) = true := by simpa using h6
      rw [hval] at HE
      clear hval h1 h2 h3 h4 h5 h6
      have CV := hide (valuesof_any (valF f) a1 fs c1 5 w2 hfr2 hfl HL5.out (HV.out 5))
      have hbk := HBK.out 5
      generalize (manyB 5 fs).map (valF f) = l at *
      go_wp2_with fail
      refine CV.out.mono ?_
      rintro ex w3 ⟨a3, c3, rfl, hr3, hs3, hb3⟩
      clear CV
      go_wp2_with fail
      refine (list_any a3 l c3 w3 (ok := fun b => w2.heap.size ≤ b) (fun b hb => by have := hb3.size; omega) hr3 hs3 (by omega)).mono ?_
      rintro ex w4 ⟨h4, rfl, hr4, hb4⟩
      have hbw := hb3.trans (hb4.mono hb3.size)
      have hone := hr4.one
      clear hb3 hb4 hr3
      have hHf := (hbw.block _ hzW2).trans hH2
      have hB3 := hB2.trans (hbw.mono hB2.size)
      obtain ⟨st, hcu, hBf, hrf⟩ := fin_box hHf hB3 (hr4.mono (fun b hb _ => by omega))
      have HF := hide (And.intro hBf hrf)
      clear hBf hrf hB3 hHf hbw
      go_wp2_with fail
      exact bodyPost_ret (v := .agg #[h4]) (by simp [results, Tryz.results38, go_sem, hcu]) rfl ⟨_, rfl, by rw [HE.out]; exact HF.out.2, HF.out.1⟩
    have hb6 : (numN (fitB 1 false) fs == 6) = false := by simpa using h6
    by_cases h7 : numN (fitB 1 false) fs = 7
    · have CT := hide (textsof_any a1 fs c1 6 w2 hfr2 hfl HL5.out)
      have CV : Hid (∀ W', Below w2.heap.size w2 W' → Calls Tryz.prog 69 #[.slice a1 fs.length c1, .int .i64 7] W' fun e w' => ∃ a c, e = .returned (.slice a ((manyB 7 fs).map (valF f)).length c) ∧ RRow w' (fun b => W'.heap.size ≤ b) a ((manyB 7 fs).map (valF f)) ∧ SliceOk a ((manyB 7 fs).map (valF f)).length c ∧ Below W'.heap.size W' w') := fun W' hW => valuesof_any (valF f) a1 fs c1 7 W' (hfr2.below hW) hfl HL5.out (HV.out 7)
      have hbk := HBK.out 7
      have hql : ((manyB 6 fs).map strOfNums).length ≤ 64 := by rw [List.length_map]; exact Nat.le_trans (many_len 6 fs) hfl
      have hval0 : valOf (valF f) fs = mapV ((manyB 6 fs).map strOfNums) ((manyB 7 fs).map (valF f)) := by
        unfold valOf
        rw [if_neg h1, if_neg h2, if_neg h3, if_neg h4, if_neg h5, if_neg h6, if_pos h7]
      have hb7 : (numN (fitB 1 false) fs == 7) = true := by simpa using h7
      rw [hval0] at HE
      clear hval0 h1 h2 h3 h4 h5 h6 h7
      generalize (manyB 7 fs).map (valF f) = l at *
      generalize (manyB 6 fs).map strOfNums = q at *
      have CM : Hid (∀ (w4 : World) (ka : Option Addr) (kc : Nat) (ao : Option Addr) (c : Nat), w2.heap.size ≤ w4.heap.size → SRow w4 (fun b => w2.heap.size ≤ b) ka q → RRow w4 (fun b => w2.heap.size ≤ b) ao l → Calls Tryz.prog 33 #[.slice ka q.length kc, .slice ao l.length c] w4 fun e w' => ∃ u pe, e = .returned (.tuple #[.agg #[u], .int .i64 pe]) ∧ Rep w' (fun b => w2.heap.size ≤ b) u (mapV q l) ∧ Below w4.heap.size w4 w') := fun w4 ka kc ao c hz hs hr => by
        by_cases g1 : q.length = l.length
        · by_cases g2 : q.Nodup
          · have e : mapV q l = V.map (pick q l) (sortK q) := by unfold mapV; rw [if_pos ⟨g1, g2⟩]
            refine (map_yes ka q kc ao l c w4 (ok := fun b => w2.heap.size ≤ b) (fun b hb => by omega) hs hr g1 (by omega) g2).mono ?_
            rintro e' w' ⟨u, rfl, g3, g4⟩
            exact ⟨u, 0, rfl, by rw [e]; exact g3, g4⟩
          · have e : mapV q l = V.null := by unfold mapV; rw [if_neg (fun h => g2 h.2)]
            refine (map_twice ka q kc ao l c w4 hs g1 (by omega) g2).mono ?_
            rintro e' w' ⟨rfl, g4⟩
            exact ⟨_, 9, rfl, by rw [e]; exact Rep.null, g4⟩
        · have e : mapV q l = V.null := by unfold mapV; rw [if_neg (fun h => g1 h.1)]
          refine (map_arg ka q kc ao l c w4 g1).mono ?_
          rintro e' w' ⟨rfl, g4⟩
          exact ⟨_, 1, rfl, by rw [e]; exact Rep.null, g4⟩
      generalize mapV q l = y at *
      go_wp2_with fail
      refine CT.out.mono ?_
      rintro ex w3 ⟨ka, kc, rfl, hs3, hso3, hb3⟩
      clear CT
      go_wp2_with fail
      refine (CV.out w3 hb3).mono ?_
      rintro ex w5 ⟨a5, c5, rfl, hr5, hso5, hb5⟩
      have hs5 := hs3.below hb5
      have hz3 := hb3.size
      have hb35 := hb3.trans (hb5.mono hb3.size)
      have CMX := hide (CM.out w5 ka kc a5 c5 hb35.size hs5 (hr5.mono (fun b hb _ => by omega)))
      clear CV CM hs3 hb3 hb5 hs5 hr5
      go_wp2_with fail
      refine CMX.out.mono ?_
      rintro ex w4 ⟨h4, pe, rfl, hr4, hb4⟩
      have hbw := hb35.trans (hb4.mono hb35.size)
      have hone := hr4.one
      clear hb35 hb4 CMX
      have HR := hide hr4
      clear hr4
      have stn := store_new 34 h4 .nilIface HR.out.one w4
      have hbx : Below w4.heap.size w4 (w4.alloc (.cells #[h4] 34)) := (Below.refl _ _).alloc (Nat.le_refl _) _
      have hcx := cell_of_row _ _ 0 _ _ _ (heap_alloc_new w4 (.cells #[h4] 34))
      replace hbw := hbw.trans (hbx.mono hbw.size)
      have hHf := (hbw.block _ hzW2).trans hH2
      have hB3 := hB2.trans (hbw.mono hB2.size)
      obtain ⟨st, hcu, hBf, hrf⟩ := fin_box hHf hB3 ((HR.out.stays hbx).mono (fun b hb _ => by omega))
      have HF := hide (And.intro hBf hrf)
      clear hBf hrf hB3 hHf hbw
      go_wp2_with fail
      exact bodyPost_ret (v := .agg #[h4]) (by simp [results, Tryz.results38, go_sem, hcu]) rfl ⟨_, rfl, by rw [HE.out]; exact HF.out.2, HF.out.1⟩
    have hval : valOf (valF f) fs = V.null := by
      unfold valOf
      rw [if_neg h1, if_neg h2, if_neg h3, if_neg h4, if_neg h5, if_neg h6, if_neg h7]
    have hb7 : (numN (fitB 1 false) fs == 7) = false := by simpa using h7
    rw [hval] at HE
    clear hval h1 h2 h3 h4 h5 h6 h7
    go_wp2_with fail
    refine (unset_any w2).mono ?_
    rintro ex w3 ⟨rfl, hbw⟩
    have hrl := Rep.null (w := w3) (ok := fun b => W.heap.size < b) 
    generalize hu : Value.nilIface = u at hrl ⊢
    have hone := hrl.one
    clear hu
    have hHf := (hbw.block _ hzW2).trans hH2
    have hB3 := hB2.trans (hbw.mono hB2.size)
    obtain ⟨st, hcu, hBf, hrf⟩ := fin_box hHf hB3 (hrl)
    have HF := hide (And.intro hBf hrf)
    clear hBf hrf hB3 hHf hbw hrl
    go_wp2_with fail
    exact bodyPost_ret (v := .agg #[u]) (by simp [results, Tryz.results38, go_sem, hcu]) rfl ⟨_, rfl, by rw [HE.out]; exact HF.out.2, HF.out.1⟩
end Go.Proofs.YtepohbcpepkboaaGreat

