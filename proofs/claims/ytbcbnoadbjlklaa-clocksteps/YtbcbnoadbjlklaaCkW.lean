/- ClockSteps: of any bytes, and any number, the law answers true: alarms ring the same, if ticks go by one by one, or all at once. No conditions. -/
import Derived.Test.YtbcbnoadbjlklaaCkV
namespace Go.Proofs.Ytbcbnoadbjlklaa
open Go.RowKit Go.ChangeShapes Go.WideShapes Go.ChangeAt

set_option maxRecDepth 100000 in
set_option maxHeartbeats 6400000 in
theorem steps_walk (a : Option Addr) (zs : List Int) (cap : Nat) (n : Int) (w : World) (hin : BytesIn w a zs.length cap zs) (hn : 0 ≤ n ∧ n ≤ 255) : Calls Try.prog 4 #[.slice a zs.length cap, .int .u8 n] w fun e w' => e = .returned (.bool true) ∧ Below w.heap.size w w' := by
  have hmax := hin.hmax
  have hcap := hin.hcap
  have hmx : zs.length ≤ maxLen := by omega
  unfold maxLen at hmx
  obtain ⟨hn0, hn1⟩ := hn
  by_cases h20 : 20 < zs.length
  · clear hin
    go_enter Try.func4, Try.ntmps4
    go_wp2_with (go_at_call 7; refine (awake14_any _).mono ?_; rintro e w1 ⟨rfl, hb1⟩)
    go_ret
    exact ⟨rfl, hb1⟩
  · have hlen20 : ((zs.length : Nat) : Int) ≤ 20 := by omega
    have hrow := hin.hrow
    clear hin hmax hcap
    go_enter Try.func4, Try.ntmps4
    go_wp2_with fail
    refine (awake14_any _).mono ?_
    rintro e w1 ⟨rfl, hb1⟩
    go_wp2_with fail
    refine (anew_any _).mono ?_
    rintro e w2 ⟨Ba, Ma, rfl, hBa, hMa, hAa, hb2⟩
    have hb2 := hb1.trans (hb2.mono hb1.size)
    have hBa : w.heap.size ≤ Ba := Nat.le_trans hb1.size hBa
    have hMa : w.heap.size ≤ Ma := Nat.le_trans hb1.size hMa
    clear hb1
    go_wp2_with fail
    refine (anew_any _).mono ?_
    rintro e w3 ⟨Bb, Mb, rfl, hBb2, hMb2, hAb, hb3⟩
    have hBl := hAa.1.lt
    have hMl := hAa.2.lt
    have hAa := hAa.below hb3
    have hbW := hb2.trans (hb3.mono hb2.size)
    clear hb3
    have hBb : w.heap.size ≤ Bb := Nat.le_trans hb2.size hBb2
    have hMb : w.heap.size ≤ Mb := Nat.le_trans hb2.size hMb2
    clear hb2
    generalize w2.heap.size = m2 at *
    go_wp2_with fail
    go_loopw [7] (fun si wr => ∃ (i : Nat) (l : List (Int × ByteArray)), i ≤ zs.length ∧ si = .int .i64 (i : Int) ∧ AlIn wr Ba Ma 0 l ∧ AlIn wr Bb Mb 0 l ∧ OkA l ∧ l.length ≤ i ∧ Below w.heap.size w wr) (fun si _ => zs.length - (intOf si).toNat)
    case atStart => exact ⟨0, [], by omega, rfl, hAa, hAb, OkA.nil, by simp, hbW⟩
    case round =>
      clear hAa hAb hbW
      obtain ⟨i, l, hi, rfl, hAa, hAb, hok, hli, hb⟩ := hrel
      by_cases hlt : i < zs.length
      · obtain ⟨b, off, rfl, hc⟩ := hrow.at (by intro e; subst e; simp at hlt)
        obtain ⟨z, hz, hz0, hz1⟩ : ∃ z : Int, w.cell? ⟨b, off + i, none⟩ = some (.int .u8 z) ∧ 0 ≤ z ∧ z ≤ 255 := ⟨_, hc i hlt, (hrow.getD i).1, (hrow.getD i).2⟩
        have hblt := World.block_lt_of_cell? _ _ hz
        have hcI : ∀ wz, Below w.heap.size w wz → wz.cell? ⟨b, off + i, none⟩ = some (.int .u8 z) := fun wz h => (h.cell (p := ⟨b, off + i, none⟩) hblt).trans hz
        have hI : Hid (∀ wz, Below w.heap.size w wz → wz.cell? ⟨b, off + i, none⟩ = some (.int .u8 z)) := hcI
        have hw3 : IntKind.i64.wrap z = z := IntWalk.i64_in _ ⟨by omega, by omega⟩
        have hw2 : IntKind.u8.wrap (97 + (i : Int)) = 97 + (i : Int) := IntWalk.u8_in _ ⟨by omega, by omega⟩
        have hl32 : l.length ≤ 32 := by omega
        have hs1 : (strOfNums [97 + (i : Int)]).size ≤ maxLen := by rw [one_size]; decide
        have hconv := (Row.one wr (97 + (i : Int)) (by omega) (by omega)).text 1 1 rfl
        have hAa3 := hAa.below ((Below.refl wr.heap.size wr).alloc (Nat.le_refl _) (.cells #[.int .u8 (97 + (i : Int))] 5))
        have hAb3 := hAb.below ((Below.refl wr.heap.size wr).alloc (Nat.le_refl _) (.cells #[.int .u8 (97 + (i : Int))] 5))
        have hbe3 := hb.alloc (by have := hb.size; omega) (.cells #[.int .u8 (97 + (i : Int))] 5)
        clear hcI hz hc hrow hAa hAb hb
        generalize strOfNums [97 + (i : Int)] = s at *
        go_upto_region 8 with fail
        clear hconv
        generalize wr.alloc (.cells #[.int .u8 (97 + (i : Int))] 5) = W3 at *
        have hAa := hAa3
        have hAb := hAb3
        refine wp_region_held_drew (S := fun w' => Below w.heap.size w w') (by kernel_rfl) (Below.drew hbe3) (fun hSS => ?_)
        refine wpAnyH_take (i := 0) (v := ?_) rfl (by kernel_rfl) (by kernel_rfl) (by kernel_rfl) (fun _ _ _ h => h) (Or.inl ⟨by rfl, ?_⟩) hSS ?_
        rotate_left
        · intro wz hSz
          go_simp
          try with_reducible rfl
        simp only [List.getElem_toArray, List.getElem_cons_zero, Act.put, List.setIfInBounds_toArray, List.set_cons_zero, List.set_cons_succ]
        refine wpAnyH_take (i := 1) (v := ?_) rfl (by kernel_rfl) (by kernel_rfl) (by kernel_rfl) (fun _ _ _ h => h) (Or.inl ⟨by rfl, ?_⟩) hSS ?_
        rotate_left
        · intro wz hSz
          go_simp
          try with_reducible rfl
        simp only [List.getElem_toArray, List.getElem_cons_zero, List.getElem_cons_succ, Act.put, List.setIfInBounds_toArray, List.set_cons_zero, List.set_cons_succ]
        refine wpAnyH_take (i := 2) (v := ?_) rfl (by kernel_rfl) (by kernel_rfl) (by kernel_rfl) (fun _ _ _ h => h) (Or.inl ⟨by rfl, ?_⟩) hSS ?_
        rotate_left
        · intro wz hSz
          go_simp
          try with_reducible rfl
        simp only [List.getElem_toArray, List.getElem_cons_zero, List.getElem_cons_succ, Act.put, List.setIfInBounds_toArray, List.set_cons_zero, List.set_cons_succ]
        refine wpAnyH_take (i := 3) (v := ?_) rfl (by kernel_rfl) (by kernel_rfl) (by kernel_rfl) (fun _ _ _ h => h) (Or.inl ⟨by rfl, ?_⟩) hSS ?_
        rotate_left
        · intro wz hSz
          go_simp
          try with_reducible rfl
        simp only [List.getElem_toArray, List.getElem_cons_zero, List.getElem_cons_succ, Act.put, List.setIfInBounds_toArray, List.set_cons_zero, List.set_cons_succ]
        refine wpAnyH_take (i := 4) (v := ?_) rfl (by kernel_rfl) (by kernel_rfl) (by kernel_rfl) (fun _ _ _ h => h) (Or.inl ⟨by rfl, ?_⟩) hSS ?_
        rotate_left
        · intro wz hSz
          have zc := hI.out wz hSz
          go_simp
          try with_reducible rfl
        simp only [List.getElem_toArray, List.getElem_cons_zero, List.getElem_cons_succ, Act.put, List.setIfInBounds_toArray, List.set_cons_zero, List.set_cons_succ]
        refine wpAnyH_take (i := 5) (v := ?_) rfl (by kernel_rfl) (by kernel_rfl) (by kernel_rfl) (fun _ _ _ h => h) (Or.inl ⟨by rfl, ?_⟩) hSS ?_
        rotate_left
        · intro wz hSz
          have zc := hI.out wz hSz
          go_simp
          try with_reducible rfl
        simp only [List.getElem_toArray, List.getElem_cons_zero, List.getElem_cons_succ, Act.put, List.setIfInBounds_toArray, List.set_cons_zero, List.set_cons_succ]
        refine wpAnyH_take (i := 6) (v := ?_) rfl (by kernel_rfl) (by kernel_rfl) (by kernel_rfl) (fun _ _ _ h => h) (Or.inl ⟨by rfl, ?_⟩) hSS ?_
        rotate_left
        · intro wz hSz
          have zc := hI.out wz hSz
          go_simp
          try with_reducible rfl
        simp only [List.getElem_toArray, List.getElem_cons_zero, List.getElem_cons_succ, Act.put, List.setIfInBounds_toArray, List.set_cons_zero, List.set_cons_succ]
        refine wpAnyH_take (i := 8) (v := ?_) rfl (by kernel_rfl) (by kernel_rfl) (by kernel_rfl) (fun _ _ _ h => h) (Or.inl ⟨by rfl, ?_⟩) hSS ?_
        rotate_left
        · intro wz hSz
          go_simp
          try with_reducible rfl
        simp only [List.getElem_toArray, List.getElem_cons_zero, List.getElem_cons_succ, Act.put, List.setIfInBounds_toArray, List.set_cons_zero, List.set_cons_succ]
        refine wpAnyH_take (i := 9) (v := ?_) rfl (by kernel_rfl) (by kernel_rfl) (by kernel_rfl) (fun _ _ _ h => h) (Or.inl ⟨by rfl, ?_⟩) hSS ?_
        rotate_left
        · intro wz hSz
          go_simp
          try with_reducible rfl
        simp only [List.getElem_toArray, List.getElem_cons_zero, List.getElem_cons_succ, Act.put, List.setIfInBounds_toArray, List.set_cons_zero, List.set_cons_succ]
        refine wpAnyH_take (i := 10) (v := ?_) rfl (by kernel_rfl) (by kernel_rfl) (by kernel_rfl) (fun _ _ _ h => h) (Or.inl ⟨by rfl, ?_⟩) hSS ?_
        rotate_left
        · intro wz hSz
          go_simp
          try with_reducible rfl
        simp only [List.getElem_toArray, List.getElem_cons_zero, List.getElem_cons_succ, Act.put, List.setIfInBounds_toArray, List.set_cons_zero, List.set_cons_succ]
        refine wpAnyH_take (i := 11) (v := ?_) rfl (by kernel_rfl) (by kernel_rfl) (by kernel_rfl) (fun _ _ _ h => h) (Or.inl ⟨by rfl, ?_⟩) hSS ?_
        rotate_left
        · intro wz hSz
          go_simp
          try with_reducible rfl
        simp only [List.getElem_toArray, List.getElem_cons_zero, List.getElem_cons_succ, Act.put, List.setIfInBounds_toArray, List.set_cons_zero, List.set_cons_succ]
        refine wpAnyH_take (i := 12) (v := ?_) rfl (by kernel_rfl) (by kernel_rfl) (by kernel_rfl) (fun _ _ _ h => h) (Or.inl ⟨by rfl, ?_⟩) hSS ?_
        rotate_left
        · intro wz hSz
          have zc := hI.out wz hSz
          go_simp
          try with_reducible rfl
        simp only [List.getElem_toArray, List.getElem_cons_zero, List.getElem_cons_succ, Act.put, List.setIfInBounds_toArray, List.set_cons_zero, List.set_cons_succ]
        refine wpAnyH_take (i := 13) (v := ?_) rfl (by kernel_rfl) (by kernel_rfl) (by kernel_rfl) (fun _ _ _ h => h) (Or.inl ⟨by rfl, ?_⟩) hSS ?_
        rotate_left
        · intro wz hSz
          have zc := hI.out wz hSz
          go_simp
          try with_reducible rfl
        simp only [List.getElem_toArray, List.getElem_cons_zero, List.getElem_cons_succ, Act.put, List.setIfInBounds_toArray, List.set_cons_zero, List.set_cons_succ]
        refine wpAnyH_take (i := 14) (v := ?_) rfl (by kernel_rfl) (by kernel_rfl) (by kernel_rfl) (fun _ _ _ h => h) (Or.inl ⟨by rfl, ?_⟩) hSS ?_
        rotate_left
        · intro wz hSz
          have zc := hI.out wz hSz
          go_simp
          try with_reducible rfl
        simp only [List.getElem_toArray, List.getElem_cons_zero, List.getElem_cons_succ, Act.put, List.setIfInBounds_toArray, List.set_cons_zero, List.set_cons_succ]
        refine wpAnyH_ready (rs := [7]) (by kernel_rfl) (by simp) (AllReadyH.cons rfl (fun K hK => ?_) AllReadyH.nil)
        go_simp
        go_at_call 10
        refine (set_keep hAa.drew hok ⟨by omega, by omega⟩ hl32 s hs1 z ⟨by omega, by omega⟩ w.heap.size hMa).mono ?_
        rintro e w5 ⟨rfl, hA5, hb5, hk5⟩
        go_simp
        refine hK.out _ _ (hSS.trans hb5) (fun hSS => ?_)
        clear hK
        have hB5 := hAb.drew.keep hk5 (by omega) (by omega) (by omega) (by omega)
        clear hb5 hk5
        refine wpAnyH_ready (rs := [15]) (by kernel_rfl) (by simp) (AllReadyH.cons rfl (fun K hK => ?_) AllReadyH.nil)
        go_simp
        go_at_call 10
        refine (set_keep hB5 hok ⟨by omega, by omega⟩ hl32 s hs1 z ⟨by omega, by omega⟩ w.heap.size hMb).mono ?_
        rintro e w6 ⟨rfl, hB6, hb6, hk6⟩
        go_simp
        refine hK.out _ _ (hSS.trans hb6) (fun hSS => ?_)
        clear hK
        have hA6 := hA5.keep hk6 (by omega) (by omega) (by omega) (by omega)
        clear hb6 hk6 hB5 hA5
        refine wpAnyH_take (i := 16) (v := .bool false) rfl (by kernel_rfl) (by kernel_rfl) (by kernel_rfl) (fun _ _ _ h => h) (Or.inl ⟨by rfl, ?_⟩) hSS ?_
        · intro wz hSz
          go_simp
        simp only [List.getElem_toArray, List.getElem_cons_zero, List.getElem_cons_succ, Act.put, List.setIfInBounds_toArray, List.set_cons_zero, List.set_cons_succ]
        refine wpAnyH_done (by kernel_rfl) ?_ _
        go_wp2_with fail
        go_roundw
        case rel => exact ⟨i + 1, _, by omega, by go_num, hA6, hB6, (set_ok hok hl32 _ hs1 _).1, Nat.le_trans set_len (by omega), hSS⟩
        case measure => simp [intOf]; omega
      · have hl32 : l.length ≤ 32 := by omega
        have hwn : IntKind.i64.wrap n = n := IntWalk.i64_in _ ⟨by omega, by omega⟩
        obtain ⟨i0, hi0, hz0, hz1, hz2⟩ := info_parts infoN
        clear hrow hmx h20
        go_wp2_with fail
        refine (tick_n hAa hok hl32 n hn0 hn1 w.heap.size hBa hMa).mono ?_
        rintro e w5 ⟨vx, rfl, hx, hAa5, hb5, hk5⟩
        have hAb5 := hAb.keep hk5 (by omega) (by omega) (by omega) (by omega)
        have hb5 := hb.trans hb5
        have hBn := hAb.1.lt
        have hMn := hAb.2.lt
        have hn5 : wr.heap.size ≤ w5.heap.size := hk5.1
        have hxl : ∀ g c, vx = .slice (some ⟨g, 0, none⟩) (namesV (dueA (thr n) l)).length c → g < w5.heap.size := fun g c h => by
          rw [namesV_len] at h
          exact (hx.lt g (by rw [h]; rfl)).2
        have hb5s : w.heap.size ≤ w5.heap.size := hb5.size
        rw [← namesV_len] at hx
        have h00 : dueA (thr 0) l = [] := due_none hok
        clear hAa hAb hb hk5 hli
        generalize wr.heap.size = nx at *
        go_wp2_with fail
        go_loopw [10, 11] (fun sy si wr => ∃ i : Nat, (i : Int) ≤ n ∧ si = .int .i64 (i : Int) ∧ wr.ownsRow w5.heap.size 9 1 sy (namesV (dueA (thr i) l)).length (namesV (dueA (thr i) l)) ∧ AlIn wr Ba Ma n (l.drop (dueA (thr n) l).length) ∧ AlIn wr Bb Mb (i : Int) (l.drop (dueA (thr i) l).length) ∧
          wr.ownsRow nx 9 1 vx (namesV (dueA (thr n) l)).length (namesV (dueA (thr n) l)) ∧ Below w.heap.size w wr ∧ w5.heap.size ≤ wr.heap.size) (fun _ si _ => (n - intOf si).toNat)
        case atStart =>
          refine ⟨0, by omega, rfl, ?_, hAa5, ?_, hx, hb5, Nat.le_refl _⟩
          · show w5.ownsRow _ _ 1 _ (namesV (dueA (thr 0) l)).length (namesV (dueA (thr 0) l))
            rw [h00]; exact World.ownsRow_nil _ _ _ _
          · show AlIn w5 Bb Mb 0 (l.drop (dueA (thr 0) l).length)
            rw [h00]; exact hAb5
        case round =>
          clear hAa5 hAb5 hx hb5 h00
          obtain ⟨j, hj, rfl, hy, hAa, hAb, hx, hb, hsz⟩ := hrel
          have hle1 := due_len (tick := thr j) (l := l)
          by_cases hjn : (j : Int) < n
          · go_wp2_with fail
            refine (tick_one (j : Int) (by omega) (by omega) hAb hok hl32 w.heap.size hBb hMb).mono ?_
            rintro e w6 ⟨v6, q, rfl, hq, hrow6, hstr, hAb6, hb6, hk6⟩
            have hAa6 := hAa.keep hk6 (by omega) (by omega) (by omega) (by omega)
            have hy6 := row_keep hy hk6 (by omega) (by omega)
            have hx6 := row_keep hx hk6 (by omega) (by omega)
            have hb6 := hb.trans hb6
            have hn6 : w5.heap.size ≤ w6.heap.size := Nat.le_trans hsz hk6.1
            have hqq : Hid (namesV (dueA (thr ((j + 1 : Nat) : Int)) l) = namesV (dueA (thr j) l) ++ q) := by show _ = _; rw [Int.natCast_succ]; exact hq
            have hlen : (namesV (dueA (thr j) l)).length + q.length ≤ 32 := by
              have h1 := congrArg List.length hq
              rw [List.length_append, namesV_len] at h1
              have h2 := due_len (tick := thr ((j : Int) + 1)) (l := l)
              omega
            have hAb7 : AlIn w6 Bb Mb ((j + 1 : Nat) : Int) (l.drop (dueA (thr ((j + 1 : Nat) : Int)) l).length) := by rw [Int.natCast_succ]; exact hAb6
            clear hAa hAb hAb6 hy hx hb hk6 hq hle1
            generalize namesV (dueA (thr j) l) = Y at *
            have hfin : ∀ (s : Value) (wf : World), wf.ownsRow w5.heap.size 9 1 s (Y.length + q.length) (Y ++ q) → wf.ownsRow w5.heap.size 9 1 s (namesV (dueA (thr ((j + 1 : Nat) : Int)) l)).length (namesV (dueA (thr ((j + 1 : Nat) : Int)) l)) := fun s wf h => by rw [hqq.out, List.length_append]; exact h
            rcases hrow6.2 with ⟨hv, hq0⟩ | ⟨g, c6, cur, hv, hg, hbk, -⟩
            · subst hv
              have hqn : q = [] := List.eq_nil_of_length_eq_zero hq0
              subst hqn
              rw [List.append_nil] at hfin
              go_wp2_with (at_builtin; refine wpList_append_own_none rfl (.tmp 61) (.tmp 63) 38 rfl w5.heap.size 9 i0 1 Try.underlying38 hi0 _ _ _ rfl hy6 rfl ?_)
              go_wp2
              go_roundw
              case rel => exact ⟨j + 1, by omega, by go_num, hfin _ _ hy6, hAa6, hAb7, hx6, hb6, hn6⟩
              case measure => simp [intOf]; omega
            · subst hv
              have hcell := fun j hj => hrow6.cellAt j hj
              have hgl : g < w6.heap.size := (Array.getElem?_eq_some_iff.1 hbk).1
              clear hbk
              go_wp2_with (at_builtin; go_must (refine wpList_append_own_at _ rfl (.tmp 61) (.tmp 63) 38 rfl w5.heap.size 9 i0 _ 1 16 Try.underlying38 hi0 hz0 hz1 hz2 rfl (by decide) _ _ _ rfl hy6 ⟨g, 0, none⟩ q.length c6 q rfl (by omega) ?c1 ?c2 (by unfold maxLen; omega) (by omega) (by omega) ?_))
              case c1 =>
                intro j u hj
                have hj' := (List.getElem?_eq_some_iff.1 hj).1
                have := hcell j (by omega)
                rw [Addr.add_lit, Nat.zero_add, this, hj]
              case c2 =>
                intro u hu
                obtain ⟨s, rfl⟩ := hstr u hu
                rfl
              intro v7 w7 hown7 hgrow7 _ _
              have hne : ∀ k, k < w5.heap.size → w7.heap[k]? = w6.heap[k]? := fun k hk => hgrow7.block k (by omega) (fun e => by have := (hy6.lt k e.symm).1; omega)
              have hAa7 : AlIn w7 Ba Ma n (l.drop (dueA (thr n) l).length) := ⟨(hne Ba (by omega)).trans hAa6.1, hAa6.2.block (hne Ma (by omega))⟩
              have hAb8 : AlIn w7 Bb Mb ((j + 1 : Nat) : Int) (l.drop (dueA (thr ((j + 1 : Nat) : Int)) l).length) := ⟨(hne Bb (by omega)).trans hAb7.1, hAb7.2.block (hne Mb (by omega))⟩
              have hx7 : w7.ownsRow nx 9 1 vx (namesV (dueA (thr n) l)).length (namesV (dueA (thr n) l)) := by
                obtain ⟨h0, h | ⟨gx, capx, curx, hvx, hgx, hbx, h1⟩⟩ := hx6
                · exact ⟨h0, Or.inl h⟩
                · exact ⟨h0, Or.inr ⟨gx, capx, curx, hvx, hgx, (hne gx (hxl gx capx hvx)).trans hbx, h1⟩⟩
              have hb7 : Below w.heap.size w w7 := hb6.grown hgrow7 (by have := hb6.size; omega) (fun k hk => by have := (hy6.lt k hk).1; have := hb5s; omega)
              have hn7 : w5.heap.size ≤ w7.heap.size := Nat.le_trans hn6 hgrow7.size
              have hf7 := hfin _ _ hown7
              clear hown7 hgrow7 hfin hcell hy6 hx6 hAb7 hAa6 hne hb6
              go_wp2
              go_roundw
              case rel => exact ⟨j + 1, by omega, by go_num, hf7, hAa7, hAb8, hx7, hb7, hn7⟩
              case measure => simp [intOf]; omega
          · have hjj : (j : Int) = n := by omega
            rw [hjj] at hy hAb
            obtain ⟨px, cx, rfl, nfx⟩ := row_nf hx
            obtain ⟨py, cy, rfl, nfy⟩ := row_nf hy
            clear hx hy hle1
            have hstr : ∀ (k : Nat) (hk : k < (namesV (dueA (thr n) l)).length), ∃ nm, (namesV (dueA (thr n) l))[k]? = some (.string nm) := fun k hk => by
              rw [namesV_len] at hk
              exact ⟨(dueA (thr n) l)[k].2, by simp [namesV, hk]⟩
            have CNa : Hid (∀ W, W = wr → Calls Try.prog 18 #[.pointer (some ⟨Ba, 0, none⟩)] W fun e w' => e = .returned (.int .i64 n) ∧ W = w') := fun W h => by subst h; exact now_any hAa
            have CNb : Hid (∀ W, W = wr → Calls Try.prog 18 #[.pointer (some ⟨Bb, 0, none⟩)] W fun e w' => e = .returned (.int .i64 n) ∧ W = w') := fun W h => by subst h; exact now_any hAb
            have CLa : Hid (∀ W, W = wr → Calls Try.prog 19 #[.pointer (some ⟨Ba, 0, none⟩)] W fun e w' => e = .returned (.int .i64 (l.drop (dueA (thr n) l).length).length) ∧ W = w') := fun W h => by subst h; exact alen_any hAa
            have CLb : Hid (∀ W, W = wr → Calls Try.prog 19 #[.pointer (some ⟨Bb, 0, none⟩)] W fun e w' => e = .returned (.int .i64 (l.drop (dueA (thr n) l).length).length) ∧ W = w') := fun W h => by subst h; exact alen_any hAb
            have hLl : (namesV (dueA (thr n) l)).length ≤ 32 := by rw [namesV_len]; have := due_len (tick := thr n) (l := l); omega
            clear hAa hAb
            generalize namesV (dueA (thr n) l) = L at *
            generalize (l.drop (dueA (thr n) l).length).length = R at *
            go_wp2_with fail
            refine (CNa.out _ rfl).mono ?_
            rintro e w' ⟨rfl, rfl⟩
            go_wp2_with fail
            refine (CNb.out _ rfl).mono ?_
            rintro e w' ⟨rfl, rfl⟩
            go_wp2_with fail
            refine (CLa.out _ rfl).mono ?_
            rintro e w' ⟨rfl, rfl⟩
            go_wp2_with fail
            refine (CLb.out _ rfl).mono ?_
            rintro e w' ⟨rfl, rfl⟩
            clear CNa CNb CLa CLb
            go_wp2_with fail
            go_loopw [12] (fun si wz => ∃ k : Nat, k ≤ L.length ∧ si = .int .i64 (k : Int) ∧ NF wz px L ∧ NF wz py L ∧ Below w.heap.size w wz) (fun si _ => L.length - (intOf si).toNat)
            case atStart => exact ⟨0, by omega, rfl, nfx, nfy, hb⟩
            case round =>
              clear nfx nfy hb
              obtain ⟨k, hk, rfl, nfx, nfy, hb⟩ := hrel
              by_cases hkl : k < L.length
              · obtain ⟨nm, hnm⟩ := hstr k hkl
                have hne : L ≠ [] := by intro e; rw [e] at hkl; simp at hkl
                obtain ⟨gx, rfl, hcx⟩ := nfx hne
                obtain ⟨gy, rfl, hcy⟩ := nfy hne
                have h1 := (hcx k hkl).trans hnm
                have h2 := (hcy k hkl).trans hnm
                have nfx2 : NF wr.drew (some ⟨gx, 0, none⟩) L := fun _ => ⟨gx, rfl, hcx⟩
                have nfy2 : NF wr.drew (some ⟨gy, 0, none⟩) L := fun _ => ⟨gy, rfl, hcy⟩
                clear nfx nfy hcx hcy hstr hnm hne
                go_upto_region 21 with fail
                refine wp_region_held_drew (S := fun w' => w'.cell? ⟨gx, k, none⟩ = some (.string nm) ∧ w'.cell? ⟨gy, k, none⟩ = some (.string nm)) (by kernel_rfl) ⟨h1, h2⟩ (fun hSS => ?_)
                refine wpAnyH_take (i := 0) (v := ?_) rfl (by kernel_rfl) (by kernel_rfl) (by kernel_rfl) (fun _ _ _ h => h) (Or.inl ⟨by rfl, ?_⟩) hSS ?_
                rotate_left
                · intro wz hSz
                  go_simp
                  try with_reducible rfl
                simp only [List.getElem_toArray, List.getElem_cons_zero, Act.put, List.setIfInBounds_toArray, List.set_cons_zero, List.set_cons_succ]
                refine wpAnyH_take (i := 1) (v := ?_) rfl (by kernel_rfl) (by kernel_rfl) (by kernel_rfl) (fun _ _ _ h => h) (Or.inl ⟨by rfl, ?_⟩) hSS ?_
                rotate_left
                · intro wz hSz
                  go_simp
                  try with_reducible rfl
                simp only [List.getElem_toArray, List.getElem_cons_zero, List.getElem_cons_succ, Act.put, List.setIfInBounds_toArray, List.set_cons_zero, List.set_cons_succ]
                refine wpAnyH_take (i := 2) (v := ?_) rfl (by kernel_rfl) (by kernel_rfl) (by kernel_rfl) (fun _ _ _ h => h) (Or.inl ⟨by rfl, ?_⟩) hSS ?_
                rotate_left
                · intro wz hSz
                  obtain ⟨zx, zy⟩ := hSz
                  go_simp
                  try with_reducible rfl
                simp only [List.getElem_toArray, List.getElem_cons_zero, List.getElem_cons_succ, Act.put, List.setIfInBounds_toArray, List.set_cons_zero, List.set_cons_succ]
                refine wpAnyH_take (i := 3) (v := ?_) rfl (by kernel_rfl) (by kernel_rfl) (by kernel_rfl) (fun _ _ _ h => h) (Or.inl ⟨by rfl, ?_⟩) hSS ?_
                rotate_left
                · intro wz hSz
                  obtain ⟨zx, zy⟩ := hSz
                  go_simp
                  try with_reducible rfl
                simp only [List.getElem_toArray, List.getElem_cons_zero, List.getElem_cons_succ, Act.put, List.setIfInBounds_toArray, List.set_cons_zero, List.set_cons_succ]
                refine wpAnyH_take (i := 4) (v := ?_) rfl (by kernel_rfl) (by kernel_rfl) (by kernel_rfl) (fun _ _ _ h => h) (Or.inl ⟨by rfl, ?_⟩) hSS ?_
                rotate_left
                · intro wz hSz
                  go_simp
                  try with_reducible rfl
                simp only [List.getElem_toArray, List.getElem_cons_zero, List.getElem_cons_succ, Act.put, List.setIfInBounds_toArray, List.set_cons_zero, List.set_cons_succ]
                refine wpAnyH_take (i := 5) (v := ?_) rfl (by kernel_rfl) (by kernel_rfl) (by kernel_rfl) (fun _ _ _ h => h) (Or.inl ⟨by rfl, ?_⟩) hSS ?_
                rotate_left
                · intro wz hSz
                  go_simp
                  try with_reducible rfl
                simp only [List.getElem_toArray, List.getElem_cons_zero, List.getElem_cons_succ, Act.put, List.setIfInBounds_toArray, List.set_cons_zero, List.set_cons_succ]
                refine wpAnyH_take (i := 6) (v := ?_) rfl (by kernel_rfl) (by kernel_rfl) (by kernel_rfl) (fun _ _ _ h => h) (Or.inl ⟨by rfl, ?_⟩) hSS ?_
                rotate_left
                · intro wz hSz
                  obtain ⟨zx, zy⟩ := hSz
                  go_simp
                  try with_reducible rfl
                simp only [List.getElem_toArray, List.getElem_cons_zero, List.getElem_cons_succ, Act.put, List.setIfInBounds_toArray, List.set_cons_zero, List.set_cons_succ]
                refine wpAnyH_take (i := 7) (v := ?_) rfl (by kernel_rfl) (by kernel_rfl) (by kernel_rfl) (fun _ _ _ h => h) (Or.inl ⟨by rfl, ?_⟩) hSS ?_
                rotate_left
                · intro wz hSz
                  obtain ⟨zx, zy⟩ := hSz
                  go_simp
                  try with_reducible rfl
                simp only [List.getElem_toArray, List.getElem_cons_zero, List.getElem_cons_succ, Act.put, List.setIfInBounds_toArray, List.set_cons_zero, List.set_cons_succ]
                refine wpAnyH_take (i := 8) (v := .bool false) rfl (by kernel_rfl) (by kernel_rfl) (by kernel_rfl) (fun _ _ _ h => h) (Or.inl ⟨by rfl, ?_⟩) hSS ?_
                · intro wz hSz
                  go_simp
                simp only [List.getElem_toArray, List.getElem_cons_zero, List.getElem_cons_succ, Act.put, List.setIfInBounds_toArray, List.set_cons_zero, List.set_cons_succ]
                refine wpAnyH_done (by kernel_rfl) ?_ _
                go_wp2_with fail
                go_roundw
                case rel => exact ⟨k + 1, by omega, by go_num, nfx2, nfy2, hb.drew⟩
                case measure => simp [intOf]; omega
              · go_wp2_with fail
                go_ret
                exact ⟨rfl, hb⟩

set_option maxRecDepth 100000 in
theorem clockSteps_lifted (os : Os) (started : os.Started) (H : Type) (tok : TypeId × Value → H) :
    ReturnsInHanded {} Try.checked os 4 .any (Rows.clockStepsSpec.pre6 tok Try.prog Try.f4 Rows.clockStepsRow.domain false) (Rows.clockStepsSpec.post tok Try.prog Try.f4 false true false false) := by
  refine returnsInHanded_of_change (C := Try.checked) own_knob started (by kernel_rfl) Try.func4
    (ChangeSpec.witness6 (enc := tok) (C := Try.checked) false ⟨#[], #[.slice none 0 0, .int .u8 0], []⟩ 8 (by kernel_rfl) (by kernel_rfl) (by kernel_rfl) (by kernel_rfl)) ?_
  intro W base args ds gs before hval0 hW hcnd _
  have hval : ∀ (j : Nat) t v, Try.f4.params[j]? = some t → args[j]? = some v → Value.okWide Try.prog W .any base t v := hval0
  have hW' := hW
  obtain ⟨p, q, hA0, hV, rfl, hfz, hnd⟩ := hW
  have hA : DataW.TrodAll tok Try.prog W 0 (fun _ => true) true Try.f4.params.toList args.toList ds p := hA0
  rw [Try.params4] at hA hval
  obtain ⟨v0, vs0, d0, ds0, p0, q0, hargs, rfl, rfl, h0, r0⟩ := trodAll_cons hA
  obtain ⟨v1, vs1, d1, ds1, p1, q1, rfl, rfl, rfl, h1, r1⟩ := trodAll_cons r0
  obtain ⟨rfl, rfl, rfl⟩ := trodAll_nil r1
  obtain rfl : args = #[v0, v1] := by cases args; simp_all
  obtain ⟨rfl, rfl⟩ := trodVars_none hV
  obtain ⟨a0, len0, cap0, rfl⟩ := okWide_slice Try.underlying46 (hval 0 46 v0 rfl rfl)
  have k0 := h0
  have lt0 : ∀ x ∈ p0, x.block < W.heap.size := by obtain ⟨m, hm⟩ := k0; exact DataW.trod_lt m _ _ _ hm
  obtain ⟨z0, w0⟩ : ∃ zs, BytesIn W a0 len0 cap0 zs := by obtain ⟨fuel, hf⟩ := h0; exact bytes_in hf
  obtain rfl := w0.hlen
  obtain ⟨a1, rfl, rfl, rfl, w1⟩ := open_int Try.underlying5 (hval 1 5 v1 rfl rfl) h1
  clear hA0 hval0
  refine (steps_walk a0 z0 cap0 a1 W w0 (u8_of_wf w1)).mono fun e W' ⟨he, bel⟩ => ?_
  subst he
  exact ⟨_, rfl, _, _, _, [], _, [], hW', trodAll_mk1 (shut_bool Try.underlying4 _), (trodAll_cons_mk (Below.trod laid_out (by kernel_rfl) (of_decide_eq_true (by kernel_rfl)) k0 bel lt0) (trodAll_cons_mk (shut_int Try.underlying5 w1) trodAll_mk0)), rfl, bel.frame _, fun h => by cases h⟩

set_option maxRecDepth 100000 in
theorem clockSteps_holds : Rows.ClockStepsSaid :=
  OpenClaim.holds_of_wide 4 Try.f4 rfl rfl rfl rfl rfl rfl rfl ⟨rfl, rfl, rfl, rfl, rfl⟩ rfl rfl rfl rfl rfl (by kernel_rfl) Try.func4 (by kernel_rfl)
    (of_decide_eq_true (by kernel_rfl)) (by unfold Func.isWrapper; first | (rw [if_pos (by decide +kernel)]; kernel_rfl) | (rw [if_neg (by decide +kernel)]; exact ⟨rfl, rfl⟩))
    (fun os started H tok _ => clockSteps_lifted os started H tok)
#print axioms clockSteps_holds
end Go.Proofs.Ytbcbnoadbjlklaa
