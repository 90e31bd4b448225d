/- Whatever is done with alarms: when they ring, and which ones. No conditions. -/
import Derived.Test.YtjgonfaniincbaaCkY
import Derived.Deep.CutBlock
namespace Go.Proofs.Ytjgonfaniincbaa
open Go.ChangeShapes Go.WideShapes Go.ChangeAt Go.RowKit

set_option maxRecDepth 100000 in
set_option maxHeartbeats 16000000 in
theorem rings_walk (a : Option Addr) (acts : List Ac) (cap : Nat) (w : World) (hin : ActsIn w a acts.length cap acts) : Calls Try.prog 3 #[.slice a acts.length cap] w fun e w' => e = .returned (.bool true) ∧ Below w.heap.size w w' := by
  have hmax := hin.hmax
  have hcap := hin.hcap
  have hmx : acts.length ≤ maxLen := by omega
  unfold maxLen at hmx
  by_cases h60 : 60 < acts.length
  · clear hin
    go_enter Try.func3, Try.ntmps3
    go_wp2_with (go_at_call 7; refine (awake14_any _).mono ?_; rintro e w1 ⟨rfl, hb1⟩)
    go_ret
    exact ⟨rfl, hb1⟩
  · have hrow := hin.hrow
    have hl60 : ((acts.length : Nat) : Int) ≤ 60 := by omega
    clear hin hmax hcap
    go_enter Try.func3, Try.ntmps3
    go_wp2_with fail
    refine (awake14_any _).mono ?_
    rintro e w1 ⟨rfl, hb1⟩
    go_wp2_with fail
    refine (anew_any _).mono ?_
    rintro e w2 ⟨B, Mb, rfl, hB, hM, hA, hb2⟩
    have hbW := hb1.trans (hb2.mono hb1.size)
    have hB : w.heap.size ≤ B := Nat.le_trans hb1.size hB
    have hM : w.heap.size ≤ Mb := Nat.le_trans hb1.size hM
    clear hb1 hb2
    go_wp2_with fail
    go_loopw [4, 5, 6] (fun sl sn si wr => ∃ (i : Nat) (now : Int) (L : List (Int × ByteArray)) (SL : Value), i ≤ acts.length ∧ si = .int .i64 (i : Int) ∧ sn = .int .i64 now ∧ SL = sl ∧ IIn wr SL L ∧ AlIn wr B Mb now L ∧ OkA L ∧ L.length ≤ 32 ∧ 0 ≤ now ∧ now ≤ 1152921504606846976 ∧ Below w.heap.size w wr) (fun _ _ si _ => acts.length - (intOf si).toNat)
    case atStart => exact ⟨0, 0, [], _, by omega, rfl, rfl, rfl, ⟨none, 0, rfl, by simp, fun _ => ⟨rfl, rfl⟩, fun h => absurd rfl h⟩, hA, OkA.nil, by simp, by omega, by omega, hbW⟩
    case round =>
      clear hA hbW
      obtain ⟨i, now, L, SL, hi, rfl, rfl, rfl, hL, hA, hok, hl32, hn0, hn1, hb⟩ := hrel
      by_cases hlt : i < acts.length
      · obtain ⟨b, off, rfl, hcc⟩ := hrow.2 (by intro e; subst e; simp at hlt)
        obtain ⟨k0, k1, k2⟩ := hcc i hlt
        obtain ⟨x0, x1, x2, x3, x4⟩ := hrow.1 _ (List.getElem_mem hlt)
        have hblt := World.block_lt_of_cell? _ _ k0
        have k0 := (hb.cell (p := ⟨b, off + i * 3, none⟩) hblt).trans k0
        have k1 := (hb.cell (p := ⟨b, off + i * 3 + 1, none⟩) hblt).trans k1
        have k2 := (hb.cell (p := ⟨b, off + i * 3 + 2, none⟩) hblt).trans k2
        clear hcc hrow
        generalize acts[i] = x at *
        obtain ⟨xk, xs, xn⟩ := x
        simp only at k0 k1 k2 x0 x1 x2 x3 x4
        by_cases hs60 : 60 < xs.size
        · go_wp2_with fail
          go_ret
          exact ⟨rfl, hb.trans (((Below.refl _ _).alloc (Nat.le_refl _) _).mono hb.size)⟩
        · have hX0 := heap_alloc_new wr (.cells #[.int .u8 xk, .string xs, .int .i64 xn] 28)
          have hbX : Below wr.heap.size wr (wr.alloc (.cells #[.int .u8 xk, .string xs, .int .i64 xn] 28)) := (Below.refl _ _).alloc (Nat.le_refl _) _
          have hLx := hL.below hbX
          have hAx := hA.below hbX
          have hbx := hb.trans (hbX.mono hb.size)
          have hBX := hA.1.lt
          have hMX := hA.2.lt
          have hs60' : xs.size ≤ 60 := by omega
          clear hL hA hb hbX hs60
          go_upto_region 12 with fail
          clear k0 k1 k2
          generalize wr.alloc (.cells #[.int .u8 xk, .string xs, .int .i64 xn] 28) = W1 at *
          generalize wr.heap.size = X at *
          have hX := hX0
          have z0 := cell_of_row _ _ 0 _ _ _ hX
          have z1 := cell_of_row _ _ 1 _ _ _ hX
          have z2 := cell_of_row _ _ 2 _ _ _ hX
          have CF : Hid (Calls Try.prog 9 #[SL, .string xs] W1 fun e w' => e = .returned (.int .i64 (findI L xs)) ∧ W1 = w') := find_any hLx (by omega) xs
          go_wp2_with fail
          refine CF.out.mono ?_
          rintro e w' ⟨rfl, rfl⟩
          clear CF
          go_upto_block 2 with fail
          go_cut [4, 5, 9, 10, 11] from 26 to 237 (fun s4 s5 s9 s10 s11 wy => ∃ (now' : Int) (L' : List (Int × ByteArray)) (wx : World), wx = wy ∧ s5 = .int .i64 now' ∧ IIn wx s4 L' ∧ AlIn wx B Mb now' L' ∧ OkA L' ∧ L'.length ≤ 32 ∧ 0 ≤ now' ∧ now' ≤ 1152921504606846976 ∧ wx.heap[X]? = some (.cells #[.int .u8 xk, .string xs, .int .i64 xn] 28) ∧ Below w.heap.size w wx)
          case first =>
            have hkk : xk % 3 = 0 ∨ xk % 3 = 1 ∨ xk % 3 = 2 := by omega
            have hXl : X < W1.heap.size := (Array.getElem?_eq_some_iff.1 hX).1
            have hnow : 0 ≤ now ∧ now ≤ 1152921504606846976 := ⟨hn0, hn1⟩
            have hsm : xs.size ≤ maxLen := by unfold maxLen; omega
            have hsg := find_sign L xs
            have hLx' := hLx
            obtain ⟨p, cc, rfl, hcc, hno, hrow⟩ := hLx'
            clear hX0
            rcases hkk with hkk | hkk | hkk
            · as_aux_lemma =>
                by_cases hxn : xn < 0
                · have CS : Hid (Calls Try.prog 10 #[.pointer (some ⟨B, 0, none⟩), .string xs, .int .i64 xn] W1 fun e w' => e = .returned (.int .i64 1) ∧ AlIn w' B Mb now (L) ∧ Below w.heap.size W1 w' ∧ Keep W1 w' B Mb) := by
                    have := set_keep hAx hok hnow hl32 xs hsm xn ⟨x3, x4⟩ w.heap.size hM
                    rwa [show setE L xs xn = 1 from if_pos hxn, show setA now L xs xn = L from if_pos (Or.inl hxn)] at this
                  clear hsg
                  generalize findI L xs = fi at *
                  go_wp2_with fail
                  refine CS.out.mono ?_
                  rintro e w4 ⟨rfl, hA4, hb4, hk4⟩
                  clear CS
                  have hX4 := (hk4.2 X hXl (by omega) (by omega)).trans hX
                  have hL4 := hLx.keep hAx hk4
                  have hX4l := (Array.getElem?_eq_some_iff.1 hX4).1
                  have hbb4 := hbx.trans hb4
                  have z0 := cell_of_row _ _ 0 _ _ _ hX4
                  have z1 := cell_of_row _ _ 1 _ _ _ hX4
                  have z2 := cell_of_row _ _ 2 _ _ _ hX4
                  clear hAx hk4 hb4 hX hbx
                  go_wp2_with fail
                  go_meet
                  exact ⟨now, _, _, rfl, rfl, hL4, hA4, hok, hl32, hn0, hn1, hX4, hbb4⟩
                · by_cases hfull : hasA L xs = false ∧ 32 ≤ L.length
                  · obtain ⟨hh, h32⟩ := hfull
                    have CS : Hid (Calls Try.prog 10 #[.pointer (some ⟨B, 0, none⟩), .string xs, .int .i64 xn] W1 fun e w' => e = .returned (.int .i64 10) ∧ AlIn w' B Mb now (L) ∧ Below w.heap.size W1 w' ∧ Keep W1 w' B Mb) := by
                      have := set_keep hAx hok hnow hl32 xs hsm xn ⟨x3, x4⟩ w.heap.size hM
                      rwa [show setE L xs xn = 10 from (if_neg hxn).trans (if_pos ⟨hh, h32⟩), show setA now L xs xn = L from if_pos (Or.inr ⟨hh, h32⟩)] at this
                    have hfi := find_lt hh
                    clear hsg hh
                    generalize findI L xs = fi at *
                    have hxn' : 0 ≤ xn := by omega
                    clear hxn
                    have hb32 : (((L.length : Nat) : Int) == 32) = true := beq_iff_eq.2 (by omega)
                    go_wp2_with fail
                    refine CS.out.mono ?_
                    rintro e w4 ⟨rfl, hA4, hb4, hk4⟩
                    clear CS
                    have hX4 := (hk4.2 X hXl (by omega) (by omega)).trans hX
                    have hL4 := hLx.keep hAx hk4
                    have hX4l := (Array.getElem?_eq_some_iff.1 hX4).1
                    have hbb4 := hbx.trans hb4
                    have z0 := cell_of_row _ _ 0 _ _ _ hX4
                    have z1 := cell_of_row _ _ 1 _ _ _ hX4
                    have z2 := cell_of_row _ _ 2 _ _ _ hX4
                    clear hAx hk4 hb4 hX hbx
                    go_wp2_with fail
                    go_meet
                    exact ⟨now, _, _, rfl, rfl, hL4, hA4, hok, hl32, hn0, hn1, hX4, hbb4⟩
                  · cases hh : hasA L xs
                    · skip
                      have CS : Hid (Calls Try.prog 10 #[.pointer (some ⟨B, 0, none⟩), .string xs, .int .i64 xn] W1 fun e w' => e = .returned (.int .i64 0) ∧ AlIn w' B Mb now (insA (clp (now + clp xn), xs) (delA xs L)) ∧ Below w.heap.size W1 w' ∧ Keep W1 w' B Mb) := by
                        have := set_keep hAx hok hnow hl32 xs hsm xn ⟨x3, x4⟩ w.heap.size hM
                        rwa [(set_list (now := now) hxn hfull).1, (set_list (now := now) hxn hfull).2] at this
                      have hlen := setA_len hok hl32 xs xn hfull (now := now)
                      have hokp := hok.put (clp (now + clp xn)) xs (clp_range _).1 (clp_range _).2 hsm
                      have hwr : IntKind.i64.wrap (now + clp xn) = now + clp xn := by have := clp_range xn; exact IntWalk.i64_in _ ⟨by omega, by omega⟩
                      have hxn' : 0 ≤ xn := by omega
                      have hfi := find_lt hh
                      clear hsg
                      generalize findI L xs = fi at *
                      have hlt : L.length < 32 := by
                        by_cases x : L.length < 32
                        · exact x
                        · exact absurd ⟨hh, by omega⟩ hfull
                      have hb32 : (((L.length : Nat) : Int) == 32) = false := beq_eq_false_iff_ne.2 (by omega)
                      have hdel : Hid (delA xs L = L) := delA_same hh
                      clear hfull hh hxn
                      go_wp2_with fail
                      refine CS.out.mono ?_
                      rintro e w4 ⟨rfl, hA4, hb4, hk4⟩
                      clear CS
                      have hX4 := (hk4.2 X hXl (by omega) (by omega)).trans hX
                      have hL4 := hLx.keep hAx hk4
                      have hX4l := (Array.getElem?_eq_some_iff.1 hX4).1
                      have hbb4 := hbx.trans hb4
                      have z0 := cell_of_row _ _ 0 _ _ _ hX4
                      have z1 := cell_of_row _ _ 1 _ _ _ hX4
                      have z2 := cell_of_row _ _ 2 _ _ _ hX4
                      clear hAx hk4 hb4 hX hbx
                      have hL5 : IIn w4 (.slice p L.length cc) (delA xs L) := by rw [hdel.out]; exact hL4
                      clear hL4
                      go_upto_region 31 with fail
                      clear z0 z1 z2
                      refine wp_region_held_drew (S := fun w' => Below w4.heap.size w4 w') (by kernel_rfl) (Below.drew (Below.refl _ _)) (fun hSS => ?_)
                      refine wpAnyH_take (i := 0) (v := ?_) rfl (by kernel_rfl) (by kernel_rfl) (by kernel_rfl) (fun _ _ _ h => h) (Or.inl ⟨by rfl, ?_⟩) hSS ?_
                      rotate_left
                      · intro wz hSz
                        go_simp
                        try with_reducible rfl
                      simp only [List.getElem_toArray, List.getElem_cons_zero, Act.put, List.setIfInBounds_toArray, List.set_cons_zero, List.set_cons_succ]
                      refine wpAnyH_take (i := 1) (v := ?_) rfl (by kernel_rfl) (by kernel_rfl) (by kernel_rfl) (fun _ _ _ h => h) (Or.inl ⟨by rfl, ?_⟩) hSS ?_
                      rotate_left
                      · intro wz hSz
                        go_simp
                        try with_reducible rfl
                      simp only [List.getElem_toArray, List.getElem_cons_zero, List.getElem_cons_succ, Act.put, List.setIfInBounds_toArray, List.set_cons_zero, List.set_cons_succ]
                      refine wpAnyH_take (i := 2) (v := ?_) rfl (by kernel_rfl) (by kernel_rfl) (by kernel_rfl) (fun _ _ _ h => h) (Or.inl ⟨by rfl, ?_⟩) hSS ?_
                      rotate_left
                      · intro wz hSz
                        have z1 := cell_of_row _ _ 1 _ _ _ ((hSz.block X hX4l).trans hX4); have z2 := cell_of_row _ _ 2 _ _ _ ((hSz.block X hX4l).trans hX4)
                        go_simp
                        try with_reducible rfl
                      simp only [List.getElem_toArray, List.getElem_cons_zero, List.getElem_cons_succ, Act.put, List.setIfInBounds_toArray, List.set_cons_zero, List.set_cons_succ]
                      refine wpAnyH_take (i := 3) (v := ?_) rfl (by kernel_rfl) (by kernel_rfl) (by kernel_rfl) (fun _ _ _ h => h) (Or.inl ⟨by rfl, ?_⟩) hSS ?_
                      rotate_left
                      · intro wz hSz
                        go_simp
                        try with_reducible rfl
                      simp only [List.getElem_toArray, List.getElem_cons_zero, List.getElem_cons_succ, Act.put, List.setIfInBounds_toArray, List.set_cons_zero, List.set_cons_succ]
                      refine wpAnyH_take (i := 4) (v := ?_) rfl (by kernel_rfl) (by kernel_rfl) (by kernel_rfl) (fun _ _ _ h => h) (Or.inl ⟨by rfl, ?_⟩) hSS ?_
                      rotate_left
                      · intro wz hSz
                        go_simp
                        try with_reducible rfl
                      simp only [List.getElem_toArray, List.getElem_cons_zero, List.getElem_cons_succ, Act.put, List.setIfInBounds_toArray, List.set_cons_zero, List.set_cons_succ]
                      refine wpAnyH_take (i := 5) (v := ?_) rfl (by kernel_rfl) (by kernel_rfl) (by kernel_rfl) (fun _ _ _ h => h) (Or.inl ⟨by rfl, ?_⟩) hSS ?_
                      rotate_left
                      · intro wz hSz
                        have z1 := cell_of_row _ _ 1 _ _ _ ((hSz.block X hX4l).trans hX4); have z2 := cell_of_row _ _ 2 _ _ _ ((hSz.block X hX4l).trans hX4)
                        go_simp
                        try with_reducible rfl
                      simp only [List.getElem_toArray, List.getElem_cons_zero, List.getElem_cons_succ, Act.put, List.setIfInBounds_toArray, List.set_cons_zero, List.set_cons_succ]
                      refine wpAnyH_ready (rs := [6]) (by kernel_rfl) (by simp) (AllReadyH.cons rfl (fun K hK => ?_) AllReadyH.nil)
                      go_simp
                      go_at_call 13
                      refine (lclip14_any _ _).mono ?_
                      rintro e wk ⟨rfl, rfl⟩
                      go_simp
                      refine hK.out _ _ hSS (fun hSS => ?_)
                      clear hK
                      refine wpAnyH_take (i := 7) (v := ?_) rfl (by kernel_rfl) (by kernel_rfl) (by kernel_rfl) (fun _ _ _ h => h) (Or.inl ⟨by rfl, ?_⟩) hSS ?_
                      rotate_left
                      · intro wz hSz
                        go_simp
                        try with_reducible rfl
                      simp only [List.getElem_toArray, List.getElem_cons_zero, List.getElem_cons_succ, Act.put, List.setIfInBounds_toArray, List.set_cons_zero, List.set_cons_succ]
                      refine wpAnyH_ready (rs := [8]) (by kernel_rfl) (by simp) (AllReadyH.cons rfl (fun K hK => ?_) AllReadyH.nil)
                      go_simp
                      go_at_call 13
                      refine (lclip14_any _ _).mono ?_
                      rintro e wk ⟨rfl, rfl⟩
                      go_simp
                      refine hK.out _ _ hSS (fun hSS => ?_)
                      clear hK
                      refine wpAnyH_take (i := 9) (v := ?_) rfl (by kernel_rfl) (by kernel_rfl) (by kernel_rfl) (fun _ _ _ h => h) (Or.inl ⟨by rfl, ?_⟩) hSS ?_
                      rotate_left
                      · intro wz hSz
                        go_simp
                        try with_reducible rfl
                      simp only [List.getElem_toArray, List.getElem_cons_zero, List.getElem_cons_succ, Act.put, List.setIfInBounds_toArray, List.set_cons_zero, List.set_cons_succ]
                      refine wpAnyH_ready (rs := [10]) (by kernel_rfl) (by simp) (AllReadyH.cons rfl (fun K hK => ?_) AllReadyH.nil)
                      go_simp
                      go_at_call 12
                      refine (put_any (hL5.below hSS) (by have := delA_len_le xs L; omega) (clp (now + clp xn), xs)).mono ?_
                      rintro e w6 ⟨v6, rfl, hL6, hb6⟩
                      go_simp
                      refine hK.out _ _ (hSS.trans (hb6.mono hSS.size)) (fun hSS => ?_)
                      clear hK
                      refine wpAnyH_take (i := 11) (v := ?_) rfl (by kernel_rfl) (by kernel_rfl) (by kernel_rfl) (fun _ _ _ h => h) (Or.inl ⟨by rfl, ?_⟩) hSS ?_
                      rotate_left
                      · intro wz hSz
                        go_simp
                        try with_reducible rfl
                      simp only [List.getElem_toArray, List.getElem_cons_zero, List.getElem_cons_succ, Act.put, List.setIfInBounds_toArray, List.set_cons_zero, List.set_cons_succ]
                      refine wpAnyH_done (by kernel_rfl) ?_ _
                      have hA7 := hA4.below hSS
                      have hX7 := (hSS.block X hX4l).trans hX4
                      have hb7 := hbb4.trans (hSS.mono hbb4.size)
                      clear hA4 hX4 hbb4 hSS hL5
                      go_wp2_with fail
                      go_meet
                      exact ⟨now, _, _, rfl, rfl, hL6, hA7, hokp, hlen, hn0, hn1, hX7, hb7⟩
                    · skip
                      have CS : Hid (Calls Try.prog 10 #[.pointer (some ⟨B, 0, none⟩), .string xs, .int .i64 xn] W1 fun e w' => e = .returned (.int .i64 0) ∧ AlIn w' B Mb now (insA (clp (now + clp xn), xs) (delA xs L)) ∧ Below w.heap.size W1 w' ∧ Keep W1 w' B Mb) := by
                        have := set_keep hAx hok hnow hl32 xs hsm xn ⟨x3, x4⟩ w.heap.size hM
                        rwa [(set_list (now := now) hxn hfull).1, (set_list (now := now) hxn hfull).2] at this
                      have hlen := setA_len hok hl32 xs xn hfull (now := now)
                      have hokp := hok.put (clp (now + clp xn)) xs (clp_range _).1 (clp_range _).2 hsm
                      have hwr : IntKind.i64.wrap (now + clp xn) = now + clp xn := by have := clp_range xn; exact IntWalk.i64_in _ ⟨by omega, by omega⟩
                      have hxn' : 0 ≤ xn := by omega
                      obtain ⟨ki, hki, hdel, hfk⟩ := find_del hok hh
                      clear hsg
                      generalize findI L xs = fi at *
                      subst hfk
                      have hdel : Hid (L.take ki ++ L.drop (ki + 1) = delA xs L) := hdel
                      clear hfull hh hxn
                      go_wp2_with fail
                      refine CS.out.mono ?_
                      rintro e w4 ⟨rfl, hA4, hb4, hk4⟩
                      clear CS
                      have hX4 := (hk4.2 X hXl (by omega) (by omega)).trans hX
                      have hL4 := hLx.keep hAx hk4
                      have hX4l := (Array.getElem?_eq_some_iff.1 hX4).1
                      have hbb4 := hbx.trans hb4
                      have z0 := cell_of_row _ _ 0 _ _ _ hX4
                      have z1 := cell_of_row _ _ 1 _ _ _ hX4
                      have z2 := cell_of_row _ _ 2 _ _ _ hX4
                      clear hAx hk4 hb4 hX hbx
                      have CW : Hid (Calls Try.prog 11 #[.slice p L.length cc, .int .i64 (ki : Int)] w4 fun e w' => ∃ v', e = .returned v' ∧ IIn w' v' (delA xs L) ∧ Below w4.heap.size w4 w') := by
                        have := without_any hL4 (by omega) ki hki
                        rwa [hdel.out] at this
                      go_wp2_with fail
                      refine CW.out.mono ?_
                      rintro e w5 ⟨v5, rfl, hL5, hb5⟩
                      clear CW
                      have hX5 := (hb5.block X hX4l).trans hX4
                      have hX5l := (Array.getElem?_eq_some_iff.1 hX5).1
                      have hA5 := hA4.below hb5
                      have hbb5 := hbb4.trans (hb5.mono hbb4.size)
                      clear hA4 hL4 hX4 hbb4 hb5 z0 z1 z2
                      go_upto_region 31 with fail
                      refine wp_region_held_drew (S := fun w' => Below w5.heap.size w5 w') (by kernel_rfl) (Below.drew (Below.refl _ _)) (fun hSS => ?_)
                      refine wpAnyH_take (i := 0) (v := ?_) rfl (by kernel_rfl) (by kernel_rfl) (by kernel_rfl) (fun _ _ _ h => h) (Or.inl ⟨by rfl, ?_⟩) hSS ?_
                      rotate_left
                      · intro wz hSz
                        go_simp
                        try with_reducible rfl
                      simp only [List.getElem_toArray, List.getElem_cons_zero, Act.put, List.setIfInBounds_toArray, List.set_cons_zero, List.set_cons_succ]
                      refine wpAnyH_take (i := 1) (v := ?_) rfl (by kernel_rfl) (by kernel_rfl) (by kernel_rfl) (fun _ _ _ h => h) (Or.inl ⟨by rfl, ?_⟩) hSS ?_
                      rotate_left
                      · intro wz hSz
                        go_simp
                        try with_reducible rfl
                      simp only [List.getElem_toArray, List.getElem_cons_zero, List.getElem_cons_succ, Act.put, List.setIfInBounds_toArray, List.set_cons_zero, List.set_cons_succ]
                      refine wpAnyH_take (i := 2) (v := ?_) rfl (by kernel_rfl) (by kernel_rfl) (by kernel_rfl) (fun _ _ _ h => h) (Or.inl ⟨by rfl, ?_⟩) hSS ?_
                      rotate_left
                      · intro wz hSz
                        have z1 := cell_of_row _ _ 1 _ _ _ ((hSz.block X hX5l).trans hX5); have z2 := cell_of_row _ _ 2 _ _ _ ((hSz.block X hX5l).trans hX5)
                        go_simp
                        try with_reducible rfl
                      simp only [List.getElem_toArray, List.getElem_cons_zero, List.getElem_cons_succ, Act.put, List.setIfInBounds_toArray, List.set_cons_zero, List.set_cons_succ]
                      refine wpAnyH_take (i := 3) (v := ?_) rfl (by kernel_rfl) (by kernel_rfl) (by kernel_rfl) (fun _ _ _ h => h) (Or.inl ⟨by rfl, ?_⟩) hSS ?_
                      rotate_left
                      · intro wz hSz
                        go_simp
                        try with_reducible rfl
                      simp only [List.getElem_toArray, List.getElem_cons_zero, List.getElem_cons_succ, Act.put, List.setIfInBounds_toArray, List.set_cons_zero, List.set_cons_succ]
                      refine wpAnyH_take (i := 4) (v := ?_) rfl (by kernel_rfl) (by kernel_rfl) (by kernel_rfl) (fun _ _ _ h => h) (Or.inl ⟨by rfl, ?_⟩) hSS ?_
                      rotate_left
                      · intro wz hSz
                        go_simp
                        try with_reducible rfl
                      simp only [List.getElem_toArray, List.getElem_cons_zero, List.getElem_cons_succ, Act.put, List.setIfInBounds_toArray, List.set_cons_zero, List.set_cons_succ]
                      refine wpAnyH_take (i := 5) (v := ?_) rfl (by kernel_rfl) (by kernel_rfl) (by kernel_rfl) (fun _ _ _ h => h) (Or.inl ⟨by rfl, ?_⟩) hSS ?_
                      rotate_left
                      · intro wz hSz
                        have z1 := cell_of_row _ _ 1 _ _ _ ((hSz.block X hX5l).trans hX5); have z2 := cell_of_row _ _ 2 _ _ _ ((hSz.block X hX5l).trans hX5)
                        go_simp
                        try with_reducible rfl
                      simp only [List.getElem_toArray, List.getElem_cons_zero, List.getElem_cons_succ, Act.put, List.setIfInBounds_toArray, List.set_cons_zero, List.set_cons_succ]
                      refine wpAnyH_ready (rs := [6]) (by kernel_rfl) (by simp) (AllReadyH.cons rfl (fun K hK => ?_) AllReadyH.nil)
                      go_simp
                      go_at_call 13
                      refine (lclip14_any _ _).mono ?_
                      rintro e wk ⟨rfl, rfl⟩
                      go_simp
                      refine hK.out _ _ hSS (fun hSS => ?_)
                      clear hK
                      refine wpAnyH_take (i := 7) (v := ?_) rfl (by kernel_rfl) (by kernel_rfl) (by kernel_rfl) (fun _ _ _ h => h) (Or.inl ⟨by rfl, ?_⟩) hSS ?_
                      rotate_left
                      · intro wz hSz
                        go_simp
                        try with_reducible rfl
                      simp only [List.getElem_toArray, List.getElem_cons_zero, List.getElem_cons_succ, Act.put, List.setIfInBounds_toArray, List.set_cons_zero, List.set_cons_succ]
                      refine wpAnyH_ready (rs := [8]) (by kernel_rfl) (by simp) (AllReadyH.cons rfl (fun K hK => ?_) AllReadyH.nil)
                      go_simp
                      go_at_call 13
                      refine (lclip14_any _ _).mono ?_
                      rintro e wk ⟨rfl, rfl⟩
                      go_simp
                      refine hK.out _ _ hSS (fun hSS => ?_)
                      clear hK
                      refine wpAnyH_take (i := 9) (v := ?_) rfl (by kernel_rfl) (by kernel_rfl) (by kernel_rfl) (fun _ _ _ h => h) (Or.inl ⟨by rfl, ?_⟩) hSS ?_
                      rotate_left
                      · intro wz hSz
                        go_simp
                        try with_reducible rfl
                      simp only [List.getElem_toArray, List.getElem_cons_zero, List.getElem_cons_succ, Act.put, List.setIfInBounds_toArray, List.set_cons_zero, List.set_cons_succ]
                      refine wpAnyH_ready (rs := [10]) (by kernel_rfl) (by simp) (AllReadyH.cons rfl (fun K hK => ?_) AllReadyH.nil)
                      go_simp
                      go_at_call 12
                      refine (put_any (hL5.below hSS) (by have := delA_len_le xs L; omega) (clp (now + clp xn), xs)).mono ?_
                      rintro e w6 ⟨v6, rfl, hL6, hb6⟩
                      go_simp
                      refine hK.out _ _ (hSS.trans (hb6.mono hSS.size)) (fun hSS => ?_)
                      clear hK
                      refine wpAnyH_take (i := 11) (v := ?_) rfl (by kernel_rfl) (by kernel_rfl) (by kernel_rfl) (fun _ _ _ h => h) (Or.inl ⟨by rfl, ?_⟩) hSS ?_
                      rotate_left
                      · intro wz hSz
                        go_simp
                        try with_reducible rfl
                      simp only [List.getElem_toArray, List.getElem_cons_zero, List.getElem_cons_succ, Act.put, List.setIfInBounds_toArray, List.set_cons_zero, List.set_cons_succ]
                      refine wpAnyH_done (by kernel_rfl) ?_ _
                      have hA7 := hA5.below hSS
                      have hX7 := (hSS.block X hX5l).trans hX5
                      have hb7 := hbb5.trans (hSS.mono hbb5.size)
                      clear hA5 hX5 hbb5 hSS hL5
                      go_wp2_with fail
                      go_meet
                      exact ⟨now, _, _, rfl, rfl, hL6, hA7, hokp, hlen, hn0, hn1, hX7, hb7⟩
            · as_aux_lemma =>
                have hokd := hok.del xs
                have hled := delA_len_le xs L
                have hled : (delA xs L).length ≤ 32 := by omega
                cases hh : hasA L xs
                · skip
                  have CS : Hid (Calls Try.prog 14 #[.pointer (some ⟨B, 0, none⟩), .string xs] W1 fun e w' => e = .returned (.bool false) ∧ AlIn w' B Mb now (delA xs L) ∧ Below w.heap.size W1 w' ∧ Keep W1 w' B Mb) := by
                    have := drop_keep hAx hok xs hsm w.heap.size hM
                    rwa [hh] at this
                  have hfi := find_lt hh
                  clear hsg
                  generalize findI L xs = fi at *
                  have hdel : Hid (delA xs L = L) := delA_same hh
                  clear hh
                  go_wp2_with fail
                  refine CS.out.mono ?_
                  rintro e w4 ⟨rfl, hA4, hb4, hk4⟩
                  clear CS
                  have hX4 := (hk4.2 X hXl (by omega) (by omega)).trans hX
                  have hL4 := hLx.keep hAx hk4
                  have hX4l := (Array.getElem?_eq_some_iff.1 hX4).1
                  have hbb4 := hbx.trans hb4
                  have z0 := cell_of_row _ _ 0 _ _ _ hX4
                  have z1 := cell_of_row _ _ 1 _ _ _ hX4
                  have z2 := cell_of_row _ _ 2 _ _ _ hX4
                  clear hAx hk4 hb4 hX hbx
                  have hL5 : IIn w4 (.slice p L.length cc) (delA xs L) := by rw [hdel.out]; exact hL4
                  clear hL4
                  go_wp2_with fail
                  go_meet
                  exact ⟨now, _, _, rfl, rfl, hL5, hA4, hokd, hled, hn0, hn1, hX4, hbb4⟩
                · skip
                  have CS : Hid (Calls Try.prog 14 #[.pointer (some ⟨B, 0, none⟩), .string xs] W1 fun e w' => e = .returned (.bool true) ∧ AlIn w' B Mb now (delA xs L) ∧ Below w.heap.size W1 w' ∧ Keep W1 w' B Mb) := by
                    have := drop_keep hAx hok xs hsm w.heap.size hM
                    rwa [hh] at this
                  obtain ⟨ki, hki, hdel, hfk⟩ := find_del hok hh
                  clear hsg
                  generalize findI L xs = fi at *
                  subst hfk
                  have hdel : Hid (L.take ki ++ L.drop (ki + 1) = delA xs L) := hdel
                  clear hh
                  go_wp2_with fail
                  refine CS.out.mono ?_
                  rintro e w4 ⟨rfl, hA4, hb4, hk4⟩
                  clear CS
                  have hX4 := (hk4.2 X hXl (by omega) (by omega)).trans hX
                  have hL4 := hLx.keep hAx hk4
                  have hX4l := (Array.getElem?_eq_some_iff.1 hX4).1
                  have hbb4 := hbx.trans hb4
                  have z0 := cell_of_row _ _ 0 _ _ _ hX4
                  have z1 := cell_of_row _ _ 1 _ _ _ hX4
                  have z2 := cell_of_row _ _ 2 _ _ _ hX4
                  clear hAx hk4 hb4 hX hbx
                  have CW : Hid (Calls Try.prog 11 #[.slice p L.length cc, .int .i64 (ki : Int)] w4 fun e w' => ∃ v', e = .returned v' ∧ IIn w' v' (delA xs L) ∧ Below w4.heap.size w4 w') := by
                    have := without_any hL4 (by omega) ki hki
                    rwa [hdel.out] at this
                  go_wp2_with fail
                  refine CW.out.mono ?_
                  rintro e w5 ⟨v5, rfl, hL5, hb5⟩
                  clear CW
                  have hX5 := (hb5.block X hX4l).trans hX4
                  have hA5 := hA4.below hb5
                  have hbb5 := hbb4.trans (hb5.mono hbb4.size)
                  clear hA4 hL4 hX4 hbb4 hb5 z0 z1 z2
                  go_wp2_with fail
                  go_meet
                  exact ⟨now, _, _, rfl, rfl, hL5, hA5, hokd, hled, hn0, hn1, hX5, hbb5⟩
            · as_aux_lemma =>
                have hwr : IntKind.i64.wrap (now + clp xn) = now + clp xn := by have := clp_range xn; exact IntWalk.i64_in _ ⟨by omega, by omega⟩
                clear hsg
                generalize findI L xs = fi at *
                go_wp2_with fail
                refine (lclip14_any _ _).mono ?_
                rintro e w' ⟨rfl, rfl⟩
                go_wp2_with fail
                refine (lclip14_any _ _).mono ?_
                rintro e w' ⟨rfl, rfl⟩
                go_wp2_with fail
                refine (tick_all hAx hok hl32 hn0 hn1 xn w.heap.size hB hM).mono ?_
                rintro e w4 ⟨q, gc, rfl, hnf, hA4, hb4, hk4⟩
                have hX4 := (hk4.2 X hXl (by omega) (by omega)).trans hX
                have hL4 := hLx.keep hAx hk4
                have hX4l := (Array.getElem?_eq_some_iff.1 hX4).1
                have hbb4 := hbx.trans hb4
                clear hAx hk4 hb4 hX hbx hLx hrow z0 z1 z2
                have hKl := rung_len now xn L
                have hN := clp_range (now + clp xn)
                have hKn : xn < 1 → (rung now xn L).length = 0 := fun h => rung_none h
                have hKa : Hid (∀ (j : Nat) (hj : j < L.length), 1 ≤ xn → (L[j].1 ≤ clp (now + clp xn) ↔ j < (rung now xn L).length)) := fun j hj h => rung_at (by omega) hok j hj
                have hKm : Hid (∀ (j : Nat) (hj : j < (rung now xn L).length) (hl : j < L.length), (namesV (rung now xn L))[j]? = some (.string L[j].2)) := fun j hj hl => rung_name hok j hj hl
                have hGl : Hid ((namesV (rung now xn L)).length = (rung now xn L).length) := namesV_len _
                generalize namesV (rung now xn L) = G at *
                generalize (rung now xn L).length = K at *
                generalize clp (now + clp xn) = N at *
                clear hwr
                have hslice : Hid (∀ wz, (Instr.slice 26 (.slice p L.length cc) (some (.int .i64 (K : Int))) none none).run Try.prog wz = .ok (.slice (cutI p cc K) (L.length - K) (cc - K)) wz) := fun wz => run_cutI_l p L.length cc K _ rfl hKl wz
                have hrow4 : LRow w4 p L := by
                  obtain ⟨p3, c3, e3, -, -, h3⟩ := hL4
                  injection e3 with e3a e3b e3c
                  subst e3a
                  exact h3
                go_wp2_with fail
                go_loopw [11] (fun s11 wr => ∃ j : Nat, j ≤ K ∧ s11 = .int .i64 (j : Int) ∧ Below w4.heap.size w4 wr) (fun s11 _ => K - (intOf s11).toNat)
                case atStart => exact ⟨0, by omega, rfl, Below.refl _ _⟩
                case round =>
                  obtain ⟨j, hj, rfl, hbl⟩ := hrel
                  have hX5 := (hbl.block X hX4l).trans hX4
                  have z2 := cell_of_row _ _ 2 _ _ _ hX5
                  clear hX5
                  by_cases hx1 : xn < 1
                  · have hK0 := hKn hx1
                    have hj0 : j = K := by omega
                    subst hj0
                    have hx1 : xn ≤ 0 := by omega
                    clear hKn hKa hKm hGl hj hK0
                    have hb6 := hbb4.trans (hbl.mono hbb4.size)
                    have hX6 := (hbl.block X hX4l).trans hX4
                    have hA6 := hA4.below hbl
                    have hL6 := (hL4.below hbl).cut j hKl
                    have hsl := hslice.out wr
                    clear hL4 hA4 hX4 hbb4 hbl hrow4 hnf
                    go_wp2_with fail
                    go_meet
                    exact ⟨N, L.drop j, _, rfl, rfl, hL6, hA6, hok.drop j, by rw [List.length_drop]; omega, hN.1, hN.2, hX6, hb6⟩
                  · have hx2 : 0 < xn := by omega
                    by_cases hjl : j < L.length
                    · obtain ⟨lb, lo, rfl, hcc4⟩ := hrow4 (by intro e; rw [e] at hjl; simp at hjl)
                      obtain ⟨y0, y1⟩ := hcc4 j hjl
                      have hly := World.block_lt_of_cell? _ _ y0
                      have y1 := (hbl.cell (World.block_lt_of_cell? _ _ y1)).trans y1
                      have hka := hKa.out j hjl (by omega)
                      by_cases hjk : j < K
                      · have hle := hka.2 hjk
                        have hm := hKm.out j hjk hjl
                        obtain ⟨gb, rfl, hgc⟩ := hnf (by intro e; have := hGl.out; rw [e] at this; simp at this; omega)
                        have g0 := (hgc j (by have := hGl.out; omega)).trans hm
                        have hlg := World.block_lt_of_cell? _ _ g0
                        have hy0 : Hid (w4.cell? ⟨lb, lo + j * 2, none⟩ = some (.string L[j].2)) := y0
                        have hg0 : Hid (w4.cell? ⟨gb, j, none⟩ = some (.string L[j].2)) := g0
                        clear hKa hKm hGl hm hka hcc4 hgc y0 g0 hKn hx1
                        generalize L[j] = y at *
                        obtain ⟨ya, yn⟩ := y
                        simp only at y1 hle hy0 hg0
                        go_upto_region 18 with fail
                        refine wp_region_held_drew (S := fun w' => Below w4.heap.size w4 w') (by kernel_rfl) (Below.drew hbl) (fun hSS => ?_)
                        refine wpAnyH_take (i := 0) (v := ?_) rfl (by kernel_rfl) (by kernel_rfl) (by kernel_rfl) (fun _ _ _ h => h) (Or.inl ⟨by rfl, ?_⟩) hSS ?_
                        rotate_left
                        · intro wz hSz
                          go_simp
                          try with_reducible rfl
                        simp only [List.getElem_toArray, List.getElem_cons_zero, Act.put, List.setIfInBounds_toArray, List.set_cons_zero, List.set_cons_succ]
                        refine wpAnyH_take (i := 1) (v := ?_) rfl (by kernel_rfl) (by kernel_rfl) (by kernel_rfl) (fun _ _ _ h => h) (Or.inl ⟨by rfl, ?_⟩) hSS ?_
                        rotate_left
                        · intro wz hSz
                          go_simp
                          try with_reducible rfl
                        simp only [List.getElem_toArray, List.getElem_cons_zero, List.getElem_cons_succ, Act.put, List.setIfInBounds_toArray, List.set_cons_zero, List.set_cons_succ]
                        refine wpAnyH_take (i := 2) (v := ?_) rfl (by kernel_rfl) (by kernel_rfl) (by kernel_rfl) (fun _ _ _ h => h) (Or.inl ⟨by rfl, ?_⟩) hSS ?_
                        rotate_left
                        · intro wz hSz
                          go_simp
                          try with_reducible rfl
                        simp only [List.getElem_toArray, List.getElem_cons_zero, List.getElem_cons_succ, Act.put, List.setIfInBounds_toArray, List.set_cons_zero, List.set_cons_succ]
                        refine wpAnyH_take (i := 3) (v := .bool false) rfl (by kernel_rfl) (by kernel_rfl) (by kernel_rfl) (fun _ _ _ h => h) (Or.inl ⟨by rfl, ?_⟩) hSS ?_
                        · intro wz hSz
                          go_simp
                        simp only [List.getElem_toArray, List.getElem_cons_zero, List.getElem_cons_succ, Act.put, List.setIfInBounds_toArray, List.set_cons_zero, List.set_cons_succ]
                        refine wpAnyH_take (i := 4) (v := ?_) rfl (by kernel_rfl) (by kernel_rfl) (by kernel_rfl) (fun _ _ _ h => h) (Or.inl ⟨by rfl, ?_⟩) hSS ?_
                        rotate_left
                        · intro wz hSz
                          go_simp
                          try with_reducible rfl
                        simp only [List.getElem_toArray, List.getElem_cons_zero, List.getElem_cons_succ, Act.put, List.setIfInBounds_toArray, List.set_cons_zero, List.set_cons_succ]
                        refine wpAnyH_take (i := 5) (v := ?_) rfl (by kernel_rfl) (by kernel_rfl) (by kernel_rfl) (fun _ _ _ h => h) (Or.inl ⟨by rfl, ?_⟩) hSS ?_
                        rotate_left
                        · intro wz hSz
                          go_simp
                          try with_reducible rfl
                        simp only [List.getElem_toArray, List.getElem_cons_zero, List.getElem_cons_succ, Act.put, List.setIfInBounds_toArray, List.set_cons_zero, List.set_cons_succ]
                        refine wpAnyH_take (i := 6) (v := ?_) rfl (by kernel_rfl) (by kernel_rfl) (by kernel_rfl) (fun _ _ _ h => h) (Or.inl ⟨by rfl, ?_⟩) hSS ?_
                        rotate_left
                        · intro wz hSz
                          go_simp
                          try with_reducible rfl
                        simp only [List.getElem_toArray, List.getElem_cons_zero, List.getElem_cons_succ, Act.put, List.setIfInBounds_toArray, List.set_cons_zero, List.set_cons_succ]
                        refine wpAnyH_take (i := 7) (v := ?_) rfl (by kernel_rfl) (by kernel_rfl) (by kernel_rfl) (fun _ _ _ h => h) (Or.inl ⟨by rfl, ?_⟩) hSS ?_
                        rotate_left
                        · intro wz hSz
                          have y0 := (hSz.cell hly).trans hy0.out; have g0 := (hSz.cell hlg).trans hg0.out
                          go_simp
                          try with_reducible rfl
                        simp only [List.getElem_toArray, List.getElem_cons_zero, List.getElem_cons_succ, Act.put, List.setIfInBounds_toArray, List.set_cons_zero, List.set_cons_succ]
                        refine wpAnyH_take (i := 8) (v := ?_) rfl (by kernel_rfl) (by kernel_rfl) (by kernel_rfl) (fun _ _ _ h => h) (Or.inl ⟨by rfl, ?_⟩) hSS ?_
                        rotate_left
                        · intro wz hSz
                          have y0 := (hSz.cell hly).trans hy0.out; have g0 := (hSz.cell hlg).trans hg0.out
                          go_simp
                          try with_reducible rfl
                        simp only [List.getElem_toArray, List.getElem_cons_zero, List.getElem_cons_succ, Act.put, List.setIfInBounds_toArray, List.set_cons_zero, List.set_cons_succ]
                        refine wpAnyH_take (i := 9) (v := ?_) rfl (by kernel_rfl) (by kernel_rfl) (by kernel_rfl) (fun _ _ _ h => h) (Or.inl ⟨by rfl, ?_⟩) hSS ?_
                        rotate_left
                        · intro wz hSz
                          go_simp
                          try with_reducible rfl
                        simp only [List.getElem_toArray, List.getElem_cons_zero, List.getElem_cons_succ, Act.put, List.setIfInBounds_toArray, List.set_cons_zero, List.set_cons_succ]
                        refine wpAnyH_take (i := 10) (v := ?_) rfl (by kernel_rfl) (by kernel_rfl) (by kernel_rfl) (fun _ _ _ h => h) (Or.inl ⟨by rfl, ?_⟩) hSS ?_
                        rotate_left
                        · intro wz hSz
                          go_simp
                          try with_reducible rfl
                        simp only [List.getElem_toArray, List.getElem_cons_zero, List.getElem_cons_succ, Act.put, List.setIfInBounds_toArray, List.set_cons_zero, List.set_cons_succ]
                        refine wpAnyH_take (i := 11) (v := ?_) rfl (by kernel_rfl) (by kernel_rfl) (by kernel_rfl) (fun _ _ _ h => h) (Or.inl ⟨by rfl, ?_⟩) hSS ?_
                        rotate_left
                        · intro wz hSz
                          have y0 := (hSz.cell hly).trans hy0.out; have g0 := (hSz.cell hlg).trans hg0.out
                          go_simp
                          try with_reducible rfl
                        simp only [List.getElem_toArray, List.getElem_cons_zero, List.getElem_cons_succ, Act.put, List.setIfInBounds_toArray, List.set_cons_zero, List.set_cons_succ]
                        refine wpAnyH_take (i := 12) (v := ?_) rfl (by kernel_rfl) (by kernel_rfl) (by kernel_rfl) (fun _ _ _ h => h) (Or.inl ⟨by rfl, ?_⟩) hSS ?_
                        rotate_left
                        · intro wz hSz
                          go_simp
                          try with_reducible rfl
                        simp only [List.getElem_toArray, List.getElem_cons_zero, List.getElem_cons_succ, Act.put, List.setIfInBounds_toArray, List.set_cons_zero, List.set_cons_succ]
                        refine wpAnyH_take (i := 13) (v := ?_) rfl (by kernel_rfl) (by kernel_rfl) (by kernel_rfl) (fun _ _ _ h => h) (Or.inl ⟨by rfl, ?_⟩) hSS ?_
                        rotate_left
                        · intro wz hSz
                          have y0 := (hSz.cell hly).trans hy0.out; have g0 := (hSz.cell hlg).trans hg0.out
                          go_simp
                          try with_reducible rfl
                        simp only [List.getElem_toArray, List.getElem_cons_zero, List.getElem_cons_succ, Act.put, List.setIfInBounds_toArray, List.set_cons_zero, List.set_cons_succ]
                        refine wpAnyH_take (i := 14) (v := .bool false) rfl (by kernel_rfl) (by kernel_rfl) (by kernel_rfl) (fun _ _ _ h => h) (Or.inl ⟨by rfl, ?_⟩) hSS ?_
                        · intro wz hSz
                          go_simp
                        simp only [List.getElem_toArray, List.getElem_cons_zero, List.getElem_cons_succ, Act.put, List.setIfInBounds_toArray, List.set_cons_zero, List.set_cons_succ]
                        refine wpAnyH_take (i := 15) (v := .bool false) rfl (by kernel_rfl) (by kernel_rfl) (by kernel_rfl) (fun _ _ _ h => h) (Or.inl ⟨by rfl, ?_⟩) hSS ?_
                        · intro wz hSz
                          go_simp
                        simp only [List.getElem_toArray, List.getElem_cons_zero, List.getElem_cons_succ, Act.put, List.setIfInBounds_toArray, List.set_cons_zero, List.set_cons_succ]
                        refine wpAnyH_done (by kernel_rfl) ?_ _
                        go_wp2_with fail
                        go_roundw
                        case rel => exact ⟨j + 1, by omega, by go_num, hSS⟩
                        case measure => simp [intOf]; omega
                      · have hj0 : j = K := by omega
                        subst hj0
                        have hgt : ¬ L[j].1 ≤ N := fun h => hjk (hka.1 h)
                        clear hKn hKa hKm hGl hj hka hcc4 hx1 hjk y0 hly
                        generalize L[j].1 = ya at *
                        have hb6 := hbb4.trans (hbl.mono hbb4.size)
                        have hX6 := (hbl.block X hX4l).trans hX4
                        have hA6 := hA4.below hbl
                        have hL6 := (hL4.below hbl).cut j hKl
                        have hsl := hslice.out wr
                        clear hL4 hA4 hX4 hbb4 hbl hrow4 hnf
                        go_wp2_with fail
                        go_meet
                        exact ⟨N, L.drop j, _, rfl, rfl, hL6, hA6, hok.drop j, by rw [List.length_drop]; omega, hN.1, hN.2, hX6, hb6⟩
                    · have hj0 : j = K := by omega
                      subst hj0
                      have hjl' : L.length ≤ j := by omega
                      clear hKn hKa hKm hGl hj hx1 hjl
                      have hb6 := hbb4.trans (hbl.mono hbb4.size)
                      have hX6 := (hbl.block X hX4l).trans hX4
                      have hA6 := hA4.below hbl
                      have hL6 := (hL4.below hbl).cut j hKl
                      have hsl := hslice.out wr
                      have e0 : L.length - j = 0 := by omega
                      rw [e0] at hL6
                      clear e0 hL4 hA4 hX4 hbb4 hbl hrow4 hnf
                      go_wp2_with fail
                      go_meet
                      exact ⟨N, L.drop j, _, rfl, rfl, hL6, hA6, hok.drop j, by rw [List.length_drop]; omega, hN.1, hN.2, hX6, hb6⟩
          case rest =>
            as_aux_lemma =>
              obtain ⟨now', L', wx, rfl, rfl, hL2, hA2, hok2, hl2, hn2, hn3, hX2, hb2⟩ := hcut
              have hXx : X < wx.heap.size := (Array.getElem?_eq_some_iff.1 hX2).1
              have hL2' := hL2
              obtain ⟨p, cc, rfl, -, -, -⟩ := hL2'
              clear hX hX0 hAx hLx hbx z0 z1 z2
              rcases next_cases L' with ⟨hem, hnv⟩ | ⟨hne, hnv⟩
              · have hL0 : L' = [] := List.eq_nil_of_length_eq_zero (by omega)
                subst hL0
                obtain ⟨fi, hfi, hneg, hh⟩ := find_empty xs hem
                clear hem
                have hfi : Hid (findI [] xs = fi) := hfi
                have hh : Hid (hasA [] xs = false) := hh
                have CN : Hid (Calls Try.prog 16 #[.pointer (some ⟨B, 0, none⟩)] wx fun e w' => e = .returned (.tuple #[.string ByteArray.empty, .int .i64 0, .bool false]) ∧ Below wx.heap.size wx w') := by
                  have := next_any hA2 hok2 hl2
                  rwa [hnv] at this
                clear hnv
                go_wp2_with fail
                refine CN.out.mono ?_
                rintro e w3 ⟨rfl, hb3⟩
                clear CN
                have hA3 := hA2.below hb3
                have hL3 := hL2.below hb3
                have hX3 := (hb3.block X hXx).trans hX2
                have hb4 := hb2.trans (hb3.mono hb2.size)
                have z1 := cell_of_row _ _ 1 _ _ _ hX3
                have hX3l : X < w3.heap.size := Nat.lt_of_lt_of_le hXx hb3.size
                clear hA2 hL2 hX2 hb2 hb3
                have CA : Hid (Calls Try.prog 17 #[.pointer (some ⟨B, 0, none⟩), .string xs] w3 fun e w' => (∃ c : Int, e = .returned (.tuple #[.int .i64 c, .bool false])) ∧ w3 = w') := (at_any hA3 hok2 xs (by unfold maxLen; omega)).mono (fun e w' ⟨⟨c, h1, _⟩, h3⟩ => ⟨⟨c, by rw [h1, hh.out]⟩, h3⟩)
                have CF : Hid (Calls Try.prog 9 #[.slice p 0 cc, .string xs] w3 fun e w' => e = .returned (.int .i64 fi) ∧ w3 = w') := by
                  have := find_any hL3 (by omega) xs
                  rwa [hfi.out] at this
                have CW : Hid (Calls Try.prog 18 #[.pointer (some ⟨B, 0, none⟩)] w3 fun e w' => e = .returned (.int .i64 now') ∧ w3 = w') := now_any hA3
                have CL : Hid (Calls Try.prog 19 #[.pointer (some ⟨B, 0, none⟩)] w3 fun e w' => e = .returned (.int .i64 0) ∧ w3 = w') := alen_any hA3
                have hfin : Hid (IIn w3 (.slice p 0 cc) ([] : List (Int × ByteArray)) ∧ AlIn w3 B Mb now' ([] : List (Int × ByteArray)) ∧ OkA ([] : List (Int × ByteArray)) ∧ Below w.heap.size w w3) := ⟨hL3, hA3, hok2, hb4⟩
                obtain ⟨p3, c3, e3, -, -, hrow3⟩ := hL3
                injection e3 with e3a e3b e3c
                subst e3a e3c
                clear e3b
                clear hA3 hok2 hb4 hrow3 hX3 hfi hh
                go_wp2_with fail
                refine CA.out.mono ?_
                rintro e w' ⟨⟨c, rfl⟩, rfl⟩
                clear CA
                go_wp2_with fail
                refine CF.out.mono ?_
                rintro e w' ⟨rfl, rfl⟩
                clear CF
                go_wp2_with fail
                refine CW.out.mono ?_
                rintro e w' ⟨rfl, rfl⟩
                clear CW
                go_wp2_with fail
                refine CL.out.mono ?_
                rintro e w' ⟨rfl, rfl⟩
                clear CL
                go_wp2_with fail
                obtain ⟨f1, f2, f3, f4⟩ := hfin.out
                go_roundw
                case rel => exact ⟨i + 1, now', ([] : List (Int × ByteArray)), _, by omega, by go_num, rfl, rfl, f1, f2, f3, hl2, hn2, hn3, f4⟩
                case measure => simp [intOf]; omega
              · obtain ⟨ya, hy1⟩ : ∃ a, L'[0].1 = a := ⟨_, rfl⟩
                obtain ⟨yn, hy0⟩ : ∃ a, L'[0].2 = a := ⟨_, rfl⟩
                rw [hy0, hy1] at hnv
                have hy0 : Hid (L'[0].2 = yn) := hy0
                have hy1 : Hid (L'[0].1 = ya) := hy1
                cases hh : hasA L' xs
                · obtain ⟨fi, hfi, hneg⟩ := find_neg hh
                  have hfi : Hid (findI L' xs = fi) := hfi
                  have hh : Hid (hasA L' xs = false) := hh
                  have CN : Hid (Calls Try.prog 16 #[.pointer (some ⟨B, 0, none⟩)] wx fun e w' => e = .returned (.tuple #[.string yn, .int .i64 ya, .bool true]) ∧ Below wx.heap.size wx w') := by
                    have := next_any hA2 hok2 hl2
                    rwa [hnv] at this
                  clear hnv
                  go_wp2_with fail
                  refine CN.out.mono ?_
                  rintro e w3 ⟨rfl, hb3⟩
                  clear CN
                  have hA3 := hA2.below hb3
                  have hL3 := hL2.below hb3
                  have hX3 := (hb3.block X hXx).trans hX2
                  have hb4 := hb2.trans (hb3.mono hb2.size)
                  have z1 := cell_of_row _ _ 1 _ _ _ hX3
                  have hX3l : X < w3.heap.size := Nat.lt_of_lt_of_le hXx hb3.size
                  clear hA2 hL2 hX2 hb2 hb3
                  have CA : Hid (Calls Try.prog 17 #[.pointer (some ⟨B, 0, none⟩), .string xs] w3 fun e w' => (∃ c : Int, e = .returned (.tuple #[.int .i64 c, .bool false])) ∧ w3 = w') := (at_any hA3 hok2 xs (by unfold maxLen; omega)).mono (fun e w' ⟨⟨c, h1, _⟩, h3⟩ => ⟨⟨c, by rw [h1, hh.out]⟩, h3⟩)
                  have CF : Hid (Calls Try.prog 9 #[.slice p L'.length cc, .string xs] w3 fun e w' => e = .returned (.int .i64 fi) ∧ w3 = w') := by
                    have := find_any hL3 (by omega) xs
                    rwa [hfi.out] at this
                  have CW : Hid (Calls Try.prog 18 #[.pointer (some ⟨B, 0, none⟩)] w3 fun e w' => e = .returned (.int .i64 now') ∧ w3 = w') := now_any hA3
                  have CL : Hid (Calls Try.prog 19 #[.pointer (some ⟨B, 0, none⟩)] w3 fun e w' => e = .returned (.int .i64 ((L'.length : Nat) : Int)) ∧ w3 = w') := alen_any hA3
                  have hfin : Hid (IIn w3 (.slice p L'.length cc) L' ∧ AlIn w3 B Mb now' L' ∧ OkA L' ∧ Below w.heap.size w w3) := ⟨hL3, hA3, hok2, hb4⟩
                  obtain ⟨p3, c3, e3, -, -, hrow3⟩ := hL3
                  injection e3 with e3a e3b e3c
                  subst e3a e3c
                  clear e3b
                  obtain ⟨lb, lo, rfl, hcc⟩ := hrow3 (by intro e; rw [e] at hne; simp at hne)
                  obtain ⟨y0, y1⟩ := hcc 0 hne
                  rw [Nat.zero_mul, Nat.add_zero] at y0 y1
                  rw [hy0.out] at y0
                  rw [hy1.out] at y1
                  clear hcc
                  clear hA3 hok2 hb4 hrow3 hX3 hfi hh hy0 hy1
                  go_wp2_with fail
                  refine CA.out.mono ?_
                  rintro e w' ⟨⟨c, rfl⟩, rfl⟩
                  clear CA
                  go_wp2_with fail
                  refine CF.out.mono ?_
                  rintro e w' ⟨rfl, rfl⟩
                  clear CF
                  go_wp2_with fail
                  refine CW.out.mono ?_
                  rintro e w' ⟨rfl, rfl⟩
                  clear CW
                  go_wp2_with fail
                  refine CL.out.mono ?_
                  rintro e w' ⟨rfl, rfl⟩
                  clear CL
                  go_wp2_with fail
                  obtain ⟨f1, f2, f3, f4⟩ := hfin.out
                  go_roundw
                  case rel => exact ⟨i + 1, now', L', _, by omega, by go_num, rfl, rfl, f1, f2, f3, hl2, hn2, hn3, f4⟩
                  case measure => simp [intOf]; omega
                · obtain ⟨ki, hki, ka, hka, hkm, hfi⟩ := find_pos hh
                  have hfi : Hid (findI L' xs = (ki : Int)) := hfi
                  have hh : Hid (hasA L' xs = true) := hh
                  have hka : Hid (L'[ki].1 = ka) := hka
                  have hkm : Hid ((ka, xs) ∈ L') := hkm
                  have CN : Hid (Calls Try.prog 16 #[.pointer (some ⟨B, 0, none⟩)] wx fun e w' => e = .returned (.tuple #[.string yn, .int .i64 ya, .bool true]) ∧ Below wx.heap.size wx w') := by
                    have := next_any hA2 hok2 hl2
                    rwa [hnv] at this
                  clear hnv
                  go_wp2_with fail
                  refine CN.out.mono ?_
                  rintro e w3 ⟨rfl, hb3⟩
                  clear CN
                  have hA3 := hA2.below hb3
                  have hL3 := hL2.below hb3
                  have hX3 := (hb3.block X hXx).trans hX2
                  have hb4 := hb2.trans (hb3.mono hb2.size)
                  have z1 := cell_of_row _ _ 1 _ _ _ hX3
                  have hX3l : X < w3.heap.size := Nat.lt_of_lt_of_le hXx hb3.size
                  clear hA2 hL2 hX2 hb2 hb3
                  have CA : Hid (Calls Try.prog 17 #[.pointer (some ⟨B, 0, none⟩), .string xs] w3 fun e w' => (∃ c : Int, e = .returned (.tuple #[.int .i64 c, .bool true]) ∧ c = ka) ∧ w3 = w') := (at_any hA3 hok2 xs (by unfold maxLen; omega)).mono (fun e w' ⟨⟨c, h1, h2⟩, h3⟩ => ⟨⟨c, by rw [h1, hh.out], h2 ka hkm.out⟩, h3⟩)
                  have CF : Hid (Calls Try.prog 9 #[.slice p L'.length cc, .string xs] w3 fun e w' => e = .returned (.int .i64 (ki : Int)) ∧ w3 = w') := by
                    have := find_any hL3 (by omega) xs
                    rwa [hfi.out] at this
                  have CW : Hid (Calls Try.prog 18 #[.pointer (some ⟨B, 0, none⟩)] w3 fun e w' => e = .returned (.int .i64 now') ∧ w3 = w') := now_any hA3
                  have CL : Hid (Calls Try.prog 19 #[.pointer (some ⟨B, 0, none⟩)] w3 fun e w' => e = .returned (.int .i64 ((L'.length : Nat) : Int)) ∧ w3 = w') := alen_any hA3
                  have hfin : Hid (IIn w3 (.slice p L'.length cc) L' ∧ AlIn w3 B Mb now' L' ∧ OkA L' ∧ Below w.heap.size w w3) := ⟨hL3, hA3, hok2, hb4⟩
                  obtain ⟨p3, c3, e3, -, -, hrow3⟩ := hL3
                  injection e3 with e3a e3b e3c
                  subst e3a e3c
                  clear e3b
                  obtain ⟨lb, lo, rfl, hcc⟩ := hrow3 (by intro e; rw [e] at hne; simp at hne)
                  obtain ⟨y0, y1⟩ := hcc 0 hne
                  rw [Nat.zero_mul, Nat.add_zero] at y0 y1
                  rw [hy0.out] at y0
                  rw [hy1.out] at y1
                  obtain ⟨k0, k1⟩ := hcc ki hki
                  rw [hka.out] at k1
                  clear k0
                  clear hcc
                  clear hA3 hok2 hb4 hrow3 hX3 hfi hh hy0 hy1
                  clear hka hkm
                  go_wp2_with fail
                  refine CA.out.mono ?_
                  rintro e w' ⟨⟨c, rfl, rfl⟩, rfl⟩
                  clear CA
                  go_wp2_with fail
                  refine CF.out.mono ?_
                  rintro e w' ⟨rfl, rfl⟩
                  clear CF
                  go_wp2_with fail
                  refine CW.out.mono ?_
                  rintro e w' ⟨rfl, rfl⟩
                  clear CW
                  go_wp2_with fail
                  refine CL.out.mono ?_
                  rintro e w' ⟨rfl, rfl⟩
                  clear CL
                  go_wp2_with fail
                  obtain ⟨f1, f2, f3, f4⟩ := hfin.out
                  go_roundw
                  case rel => exact ⟨i + 1, now', L', _, by omega, by go_num, rfl, rfl, f1, f2, f3, hl2, hn2, hn3, f4⟩
                  case measure => simp [intOf]; omega
      · go_wp2_with fail
        go_ret
        exact ⟨rfl, hb⟩

set_option maxRecDepth 100000 in
theorem clockRings_lifted (os : Os) (started : os.Started) (H : Type) (tok : TypeId × Value → H) :
    ReturnsInHanded {} Try.checked os 3 .any (Rows.clockRingsSpec.pre6 tok Try.prog Try.f3 Rows.clockRingsRow.domain false) (Rows.clockRingsSpec.post tok Try.prog Try.f3 false true false false) := by
  refine returnsInHanded_of_change (C := Try.checked) own_knob started (by kernel_rfl) Try.func3
    (ChangeSpec.witness6 (enc := tok) (C := Try.checked) false ⟨#[], #[.slice none 0 0], []⟩ 8 (by kernel_rfl) (by kernel_rfl) (by kernel_rfl) (by kernel_rfl)) ?_
  intro W base args ds gs before hval0 hW hcnd _
  have hval : ∀ (j : Nat) t v, Try.f3.params[j]? = some t → args[j]? = some v → Value.okWide Try.prog W .any base t v := hval0
  have hW' := hW
  obtain ⟨p, q, hA0, hV, rfl, hfz, hnd⟩ := hW
  have hA : DataW.TrodAll tok Try.prog W 0 (fun _ => true) true Try.f3.params.toList args.toList ds p := hA0
  rw [Try.params3] at hA hval
  obtain ⟨v0, vs0, d0, ds0, p0, q0, hargs, rfl, rfl, h0, r0⟩ := trodAll_cons hA
  obtain ⟨rfl, rfl, rfl⟩ := trodAll_nil r0
  obtain rfl : args = #[v0] := by cases args; simp_all
  obtain ⟨rfl, rfl⟩ := trodVars_none hV
  obtain ⟨a0, len0, cap0, rfl⟩ := okWide_slice Try.underlying22 (hval 0 22 v0 rfl rfl)
  have k0 := h0
  have lt0 : ∀ x ∈ p0, x.block < W.heap.size := by obtain ⟨m, hm⟩ := k0; exact DataW.trod_lt m _ _ _ hm
  obtain ⟨z0, w0⟩ : ∃ zs, ActsIn W a0 len0 cap0 zs := by obtain ⟨fuel, hf⟩ := h0; exact acts_in hf
  obtain rfl := w0.hlen
  clear hA0 hval0
  refine (rings_walk a0 z0 cap0 W w0).mono fun e W' ⟨he, bel⟩ => ?_
  subst he
  exact ⟨_, rfl, _, _, _, [], _, [], hW', trodAll_mk1 (shut_bool Try.underlying4 _), (trodAll_cons_mk (Below.trod laid_out (by kernel_rfl) (of_decide_eq_true (by kernel_rfl)) k0 bel lt0) trodAll_mk0), rfl, bel.frame _, fun h => by cases h⟩

set_option maxRecDepth 100000 in
theorem clockRings_holds : Rows.ClockRingsSaid :=
  OpenClaim.holds_of_wide 3 Try.f3 rfl rfl rfl rfl rfl rfl rfl ⟨rfl, rfl, rfl, rfl, rfl⟩ rfl rfl rfl rfl rfl (by kernel_rfl) Try.func3 (by kernel_rfl)
    (of_decide_eq_true (by kernel_rfl)) (by unfold Func.isWrapper; first | (rw [if_pos (by decide +kernel)]; kernel_rfl) | (rw [if_neg (by decide +kernel)]; exact ⟨rfl, rfl⟩))
    (fun os started H tok _ => clockRings_lifted os started H tok)
#print axioms clockRings_holds
end Go.Proofs.Ytjgonfaniincbaa
