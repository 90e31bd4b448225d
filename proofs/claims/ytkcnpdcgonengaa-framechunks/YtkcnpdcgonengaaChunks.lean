/- Of any frames and any cuts the law FrameChunks answers true, and leaves its arguments: frames, laid, come out of whatever chunks of their bytes. No conditions. -/
import Derived.Test.YtkcnpdcgonengaaAwake3
import Derived.Test.YtkcnpdcgonengaaGets
import Derived.Test.YtkcnpdcgonengaaWrap
import Derived.Test.YtkcnpdcgonengaaChA
import Derived.Test.YtkcnpdcgonengaaRCut
import Derived.Deep.RegionHeld
namespace Go.Proofs.Ytkcnpdcgonengaa
open Go.ChangeShapes Go.WideShapes Go.ChangeAt Go.RowKit

def lenV : Value → Nat | .slice _ n _ => n | _ => 0
set_option maxRecDepth 100000 in
set_option maxHeartbeats 20000000 in
theorem chunks_walk (a : Option Addr) (bs : List (List Int)) (cap : Nat) (a' : Option Addr) (cs : List Int) (cap' : Nat) (w : World) (h : BytessIn w a bs.length cap bs) (h' : BytesIn w a' cs.length cap' cs) :
    Calls Try.prog 6 #[.slice a bs.length cap, .slice a' cs.length cap'] w fun e w' => e = .returned (.bool true) ∧ Below w.heap.size w w' := by
  have hr := h.hrow
  have hr' := h'.hrow
  clear h h'
  by_cases hl : 10 < bs.length
  · go_enter Try.func6, Try.ntmps6
    go_wp2_with (go_at_call 19; refine (awake3_any _).mono ?_; rintro e w4 ⟨rfl, hb4⟩)
    go_ret
    exact ⟨rfl, hb4⟩
  by_cases hl2 : 50 < cs.length
  · go_enter Try.func6, Try.ntmps6
    go_wp2_with (go_at_call 19; refine (awake3_any _).mono ?_; rintro e w4 ⟨rfl, hb4⟩)
    go_ret
    exact ⟨rfl, hb4⟩
  have hbl : bs.length ≤ 10 := by omega
  have hcl : cs.length ≤ 50 := by omega
  clear hl hl2
  go_enter Try.func6, Try.ntmps6
  go_wp2_with fail
  refine (awake3_any _).mono ?_
  rintro e w0 ⟨rfl, hb0⟩
  go_wp2
  go_loopw [5, 6] (fun s5 s6 wr => ∃ k : Nat, k ≤ bs.length ∧ s6 = .int .i64 k ∧ wr.ownsRow w0.heap.size 5 1 s5 (wraps (bs.take k)).length ((wraps (bs.take k)).map (Value.int .u8)) ∧ Hid (∀ b ∈ bs.take k, b.length ≤ 300 ∧ Byt b) ∧ Below w0.heap.size w0 wr) (fun _ s6 _ => bs.length - (intOf s6).toNat)
  case atStart => exact ⟨0, Nat.zero_le _, rfl, by simpa [wraps] using World.ownsRow_nil _ _ _ _, (fun b hb => by simp at hb), Below.refl _ _⟩
  case round =>
    obtain ⟨k, hk, rfl, hown, hid, hb⟩ := hrel
    have hB := hb0.trans (hb.mono hb0.size)
    have hwl := wraps_len (bs.take k) (fun b hb => (hid.out b hb).1)
    have hkl : (bs.take k).length = k := by simp; omega
    have hZb : Byt (wraps (bs.take k)) := wraps_byt _ (fun b hb => (hid.out b hb).2)
    obtain ⟨va, vc, hv, -, hrow, hnil, hvc, hvm, hblk⟩ := own_view' hown hZb
    subst hv
    by_cases hlt : k < bs.length
    · have hz : bs ≠ [] := by intro h; rw [h] at hlt; simp at hlt
      obtain ⟨b0, off, rfl, hc⟩ := hr hz
      obtain ⟨x, c, hx, hsh⟩ := hc k hlt
      have hlt0 := World.block_lt_of_cell? w ⟨b0, off + k, none⟩ hx
      have d0 := (hB.cell (p := ⟨b0, off + k, none⟩) hlt0).trans hx
      have hshr := hsh.below hB
      have htk : bs.take (k + 1) = bs.take k ++ [bs[k]] := List.take_succ_eq_append_getElem hlt
      have HTK : Hid (bs.take (k + 1) = bs.take k ++ [bs[k]]) := htk
      clear htk hc
      generalize bs[k] = B at *
      by_cases h300 : 300 < B.length
      · go_wp2
        go_ret
        exact ⟨rfl, hB⟩
      · have hb300 : B.length ≤ 300 := by omega
        have hel := enc_len (B.length : Int)
        have CW : Hid (Calls Try.prog 29 #[.slice x B.length c, .int .i64 300] wr fun e w' => ∃ va vc, e = .returned (.tuple #[.slice va ((enc B.length).length + B.length) vc, .int .i64 0]) ∧ Shown w' va (enc B.length ++ B) vc ∧ (∀ x, va = some x → wr.heap.size ≤ x.block) ∧ Below wr.heap.size wr w') := wrap_yes (by decide) (by omega) hshr.1 hshr.2.1
        have HB : Hid (wraps (bs.take (k + 1)) = wraps (bs.take k) ++ (enc B.length ++ B)) := by show wraps _ = _; rw [HTK.out, wraps_snoc]; rfl
        have hsum : (wraps (bs.take k)).length + ((enc (B.length : Int)).length + B.length) ≤ 70368744177664 := by rw [hkl] at hwl; omega
        have HS : Hid ((wraps (bs.take k)).length + ((enc (B.length : Int)).length + B.length) ≤ 70368744177664) := hsum
        have HBy : Hid (Byt B) := hshr.1.byte
        clear hel hsum hwl h300
        go_wp2_with fail
        refine CW.out.mono ?_
        rintro e w2 ⟨wa, wc, rfl, hsh2, -, hb2⟩
        have hown2 := own_below hown hb2
        have hsz2 := hb2.size
        have hszb := hb.size
        go_wp2_with (at_builtin; go_must (refine wpList_append_bytes rfl (.tmp 52) (.tmp 53) rfl w0.heap.size _ _ _ rfl hown2 wa (enc B.length ++ B) ((enc B.length).length + B.length) wc rfl (by simp) hsh2.1 hsh2.2.1 HS.out (by omega) ?_; intro v3 w3 hown3 hgrow3))
        go_roundw
        case rel =>
          refine ⟨k + 1, by omega, by go_num, ?_, ?_, below_own (hb.trans (hb2.mono hb.size)) hown2 (by omega) hgrow3⟩
          · rw [HB.out, List.map_append, List.length_append, List.length_append]; exact hown3
          · intro b hb
            rw [HTK.out] at hb
            rcases List.mem_append.1 hb with hb | hb
            · exact hid.out b hb
            · simp at hb; rw [hb]; exact ⟨hb300, HBy.out⟩
        case measure => simp [intOf]; omega
    · have hkb : bs.take k = bs := List.take_of_length_le (by omega)
      rw [hkb] at hown hid hwl hZb hrow hnil hvc ⊢
      have HZ : Hid (cut 300 (wraps bs) = (bs, (wraps bs).length, 0)) := cut_wraps 300 (by decide) bs (fun b hb => ⟨by have := (hid.out b hb).1; omega, (hid.out b hb).2⟩)
      have hZl : (wraps bs).length ≤ 3100 := by omega
      generalize wraps bs = Z at *
      clear hkb hkl hown hid
      go_wp2_with fail
      refine (new_yes 300 wr (by decide)).mono ?_
      rintro e w1 ⟨rfl, hA1, hb1⟩
      have hrow1 := hrow.below hb1
      have hB1 := hB.trans (hb1.mono hB.size)
      have hAs : w.heap.size ≤ wr.heap.size := hB.size
      have hblk' : ∀ x, va = some x → Z ≠ [] → x.block < wr.heap.size := fun x hx hz => by
        obtain ⟨b, off, hx', -⟩ := hrow.at hz
        rw [hx'] at hrow
        have := Row.lt hrow hz
        rw [hx'] at hx
        obtain rfl := Option.some.inj hx
        exact this
      generalize hAA : wr.heap.size = A at *
      clear hrow hB hb hb0 hblk
      go_wp2
      go_loopw [5, 11, 12] (fun s5 s11 s12 wr => ∃ (m i : Nat) (a5 : Option Addr) (c5 : Nat) (v : Value) (t : Int) (ps : List (List Int × Option Addr × Nat)), m ≤ Z.length ∧ s12 = .int .i64 i ∧ (i ≤ cs.length ∨ (m = Z.length ∧ i ≤ cs.length + 1)) ∧ s5 = .slice a5 (Z.length - m) c5 ∧ Row wr a5 (Z.drop m) ∧ Z.length - m ≤ c5 ∧ c5 ≤ maxLen ∧ (∀ x, a5 = some x → Z.drop m ≠ [] → x.block < A) ∧
          BTag wr (A + 1) s11 ps ∧ Hid (ps.map (·.1) = (cut 300 (Z.take m)).1) ∧ (∀ p ∈ ps, ∀ x, p.2.1 = some x → some x.block ≠ v.ownBlock) ∧ Asm wr A (A + 1) v (left 300 (Z.take m)) 300 0 t ∧ 0 ≤ t ∧ t ≤ 6200 * (i : Int) ∧ Hid (flt (cut 300 (Z.take m)).2.2 = 0) ∧ Below w.heap.size w wr)
        (fun s5 _ s12 _ => (cs.length - (intOf s12).toNat) + lenV s5)
      case atStart => exact ⟨0, 0, va, vc, .slice none 0 0, 0, [], Nat.zero_le _, rfl, Or.inl (Nat.zero_le _), rfl, hrow1, hvc, hvm, hblk', BTag.nil _ _, by rw [List.take_zero, cut_nil]; rfl, by simp, by rw [List.take_zero, left, cut_nil]; exact hA1, by omega, by omega, by rw [List.take_zero, cut_nil]; rfl, hB1⟩
      case round =>
        obtain ⟨m, i, a5, c5, v, t, ps, hm, rfl, hi, rfl, hr5, hc5, hc5m, hb5, hbt, hid, hdis, hA, ht0, ht1, hfl, hB⟩ := hrel
        by_cases hlt : m < Z.length
        · have hic : i ≤ cs.length := by omega
          have hdne : Z.drop m ≠ [] := by intro e; have := congrArg List.length e; simp at this; omega
          obtain ⟨b5, o5, rfl, -⟩ := hr5.at hdne
          have hb5' : b5 < A := hb5 _ rfl hdne
          by_cases hic2 : i < cs.length
          · have hz' : cs ≠ [] := by intro h; rw [h] at hic2; simp at hic2
            obtain ⟨b', off', rfl, hcell'⟩ := hr'.at hz'
            have x0 := hcell' i hic2
            have hcb := hr'.getD i
            have x1 := (hB.cell (p := ⟨b', off' + i, none⟩) (World.block_lt_of_cell? w ⟨b', off' + i, none⟩ x0)).trans x0
            have hi1 : (i : Int) < (cs.length : Int) := by omega
            simp only [List.getD_eq_getElem?_getD] at x1
            generalize cs[i]?.getD 0 = cv at *
            obtain ⟨hcv0, hcv1⟩ := hcb
            clear hcell' x0
            by_cases hmin : ((Z.length - m : Nat) : Int) < cv
            · obtain ⟨n, hn, hnn⟩ : ∃ n, n ≤ Z.length - m ∧ n = Z.length - m := ⟨_, Nat.le_refl _, rfl⟩
              have hnI : ((Z.length - m : Nat) : Int) = (n : Int) := by rw [hnn]
              have hmn : min cv (n : Int) = (n : Int) := by omega
              clear hnn hmin
              have hsl1 : ∀ W, (Instr.slice 29 (.slice (some ⟨b5, o5, none⟩) (Z.length - m) c5) none (some (.int .i64 (n : Nat))) none).run Try.prog W = .ok (.slice (some ⟨b5, o5, none⟩) n c5) W := fun W => by
                rw [run_slice_h W 29 _ _ _ Try.underlying29 .i64 (n : Int) (by omega) (by omega), size8]
                simp [Result.andThen, sliced, Addr.add]
              have hsl2 := run_cut_l (some ⟨b5, o5, none⟩) (Z.length - m) c5 n (n : Int) rfl hn
              have hcs : Shown wr (some ⟨b5, o5, none⟩) ((Z.drop m).take n) c5 := ⟨hr5.take n, (fun h => by cases h), by simp; omega, hc5m⟩
              have hcl : ((Z.drop m).take n).length = n := by simp; omega
              have hHl := left_len 300 (Z.take m)
              have hHl2 : (Z.take m).length ≤ 3100 := by simp; omega
              have CF : Hid (Calls Try.prog 21 #[.pointer (some ⟨A, 0, none⟩), .slice (some ⟨b5, o5, none⟩) n c5] wr (FeedPost A (A + 1) v (left 300 (Z.take m) ++ (Z.drop m).take n) 300 t wr)) := by
                have := feed_yes A (A + 1) v (left 300 (Z.take m)) 300 t (some ⟨b5, o5, none⟩) ((Z.drop m).take n) c5 wr hA hcs (by decide) (by decide) (by rw [hcl]; omega) ht0 (by omega)
                rw [hcl] at this; exact this
              have hzt : Z.take (m + n) = Z.take m ++ (Z.drop m).take n := by rw [List.take_add]
              have hbz : Byt (Z.take m) := Byt.take hZb m
              have hbc : Byt ((Z.drop m).take n) := Byt.take (Byt.drop hZb m) n
              obtain ⟨q1, q2, q3, q4⟩ := cut_more 300 (Z.take m) ((Z.drop m).take n) hbz hbc hfl.out
              have q5 := left_more 300 (Z.take m) ((Z.drop m).take n) hbz hbc hfl.out
              have hfl2 : flt (cut 300 (Z.take (m + n))).2.2 = 0 := cut_front 300 (Z.take (m + n)) (Z.drop (m + n)) (Byt.take hZb _) (Byt.drop hZb _) (by rw [List.take_append_drop, HZ.out])
              rw [hzt] at hfl2
              have hln := lens_cut 300 (left 300 (Z.take m) ++ (Z.drop m).take n) ((left_byt 300 _ hbz).append hbc)
              have HQ : Hid ((cut 300 (Z.take (m + n))).1 = (cut 300 (Z.take m)).1 ++ (cut 300 (left 300 (Z.take m) ++ (Z.drop m).take n)).1 ∧ flt (cut 300 (Z.take (m + n))).2.2 = 0 ∧ left 300 (Z.take (m + n)) = left 300 (left 300 (Z.take m) ++ (Z.drop m).take n) ∧ flt (cut 300 (left 300 (Z.take m) ++ (Z.drop m).take n)).2.2 = 0 ∧ lens (cut 300 (left 300 (Z.take m) ++ (Z.drop m).take n)).1 ≤ 6200) := by
                refine ⟨by rw [hzt]; exact q1, by rw [hzt]; exact hfl2, by rw [hzt]; exact q5, by rw [← q2]; exact hfl2, ?_⟩
                rw [List.length_append, hcl] at hln; omega
              have HCL : Hid (((Z.drop m).take n).length = n) := hcl
              clear q1 q2 q3 q4 q5 hfl2 hzt hbz hbc hln hcs hcl hHl hHl2
              go_wp2_with fail
              refine CF.out.mono ?_
              rintro e w4 ⟨v4, la, lc, qs, he4, hbt4, hqs4, hA4, hF4, hM4, hd4⟩
              rw [HQ.out.2.2.2.1] at he4 hA4
              subst he4
              have hbt4' := hbt.fed hF4 (Nat.lt_succ_self A) (rows_ne hbt.own hA.own) hdis
              have hw4 := hF4.size
              have hwA := hA.lt
              have HQS : Hid (qs.map (·.1) = (cut 300 (left 300 (Z.take m) ++ (Z.drop m).take n)).1) := hqs4
              have HD4 : Hid (∀ p ∈ qs, ∀ x, p.2.1 = some x → some x.block ≠ v4.ownBlock) := hd4
              have HDS : Hid (∀ p ∈ ps, ∀ x, p.2.1 = some x → some x.block ≠ v.ownBlock) := hdis
              have HLQ : Hid (ps.length + qs.length ≤ 1000000) := by
                have h1 := congrArg List.length hid.out
                have h2 := congrArg List.length hqs4
                have h3 := cut_ok 300 (Z.take m) (Byt.take hZb m)
                have h4 := cut_ok 300 (left 300 (Z.take m) ++ (Z.drop m).take n) ((left_byt 300 _ (Byt.take hZb m)).append (Byt.take (Byt.drop hZb m) n))
                have h5 := left_len 300 (Z.take m)
                rw [List.length_map] at h1 h2
                rw [List.length_append, HCL.out] at h4
                simp only [List.length_take] at h3 h5
                show ps.length + qs.length ≤ 1000000
                omega
              have hr4 : Row w4 (some ⟨b5, o5, none⟩) (Z.drop m) := hr5.fed hF4 (fun _ x hx => by
                obtain rfl := Option.some.inj hx
                exact ⟨by show b5 ≠ A; omega, fun e => by have := (hA.own.lt b5 e.symm).1; omega⟩)
              clear hqs4 hd4 hdis CF
              go_wp2_with (at_builtin; go_must (refine wpList_append_frames rfl (.tmp 87) (.tmp 88) rfl (A + 1) wr.heap.size u11 ps qs rfl hbt4' la lc rfl hbt4 (by omega) HLQ.out (by omega) ?_; intro v5 w5 hbt5 hg5))
              go_roundw
              case rel =>
                have hov : ∀ k, u11.ownBlock = some k → A + 1 ≤ k := fun k hk => (hbt4'.own.lt k hk).1
                have hr5' : Row w5 (some ⟨b5, o5, none⟩) (Z.drop m) := hr4.grown (fun _ x hx e => by obtain rfl := Option.some.inj hx; have := hov _ e.symm; simp at this; omega) hg5
                refine ⟨m + n, i + 1, cutA (some ⟨b5, o5, none⟩) c5 n, c5 - n, v4, t + (lens (cut 300 (left 300 (Z.take m) ++ (Z.drop m).take n)).1 : Nat), ps ++ qs, by omega, by go_num, ?hi, by rw [Nat.sub_sub], ?hrow, by omega, by omega, ?hblk, hbt5, ?hid, ?hds, ?hasm, by omega, ?ht, HQ.out.2.1, ?hbel⟩
                case hi => exact Or.inl (by omega)
                case hrow =>
                  have h1 := cutA_row (cap := c5) n (Z.length - m - n) (by simp; omega) w5 hr5'
                  have h2 : ((Z.drop m).drop n).take (Z.length - m - n) = Z.drop (m + n) := by rw [List.drop_drop, List.take_of_length_le (by simp; omega)]
                  rw [h2] at h1; exact h1
                case hblk =>
                  intro x hx _
                  obtain ⟨y, hy, hxy⟩ := cutA_block hx
                  obtain rfl := Option.some.inj hy
                  rw [hxy]; exact hb5'
                case hid =>
                  show List.map _ _ = _
                  rw [List.map_append, hid.out, HQS.out, HQ.out.1]
                case hds =>
                  intro p hp x hx
                  rcases List.mem_append.1 hp with hp | hp
                  · rcases hM4 with h | h
                    · rw [h]; exact HDS.out p hp x hx
                    · intro e
                      have h1 := h _ e.symm
                      have h2 := hbt.lt p hp x hx
                      omega
                  · exact HD4.out p hp x hx
                case hasm =>
                  rw [HQ.out.2.2.1]
                  refine hA4.kept hg5 (fun e => by have := hov _ e.symm; omega) ?_
                  rcases rows_ne hbt4'.own hA4.own with h | h
                  · cases hv4 : v4.ownBlock with
                    | none => exact Or.inl rfl
                    | some k => exact Or.inr (by rw [h]; simp)
                  · exact Or.inr (fun e => h e.symm)
                case ht =>
                  have := HQ.out.2.2.2.2
                  have e : ((i + 1 : Nat) : Int) = (i : Int) + 1 := by omega
                  rw [e]; omega
                case hbel => exact (below_fed hB hF4 hAs (fun k hk => by have := (hA.own.lt k hk).1; omega) hB.size).grown hg5 (by have := hB.size; omega) (fun k hk => by have := hov k hk; omega)
              case measure =>
                simp only [intOf, lenV]
                simp
                omega
            · obtain ⟨n, rfl⟩ := Int.eq_ofNat_of_zero_le hcv0
              have hn : n ≤ Z.length - m := by omega
              have hmn : min (n : Int) ((Z.length - m : Nat) : Int) = (n : Int) := by omega
              clear hmin
              have hsl1 : ∀ W, (Instr.slice 29 (.slice (some ⟨b5, o5, none⟩) (Z.length - m) c5) none (some (.int .i64 (n : Nat))) none).run Try.prog W = .ok (.slice (some ⟨b5, o5, none⟩) n c5) W := fun W => by
                rw [run_slice_h W 29 _ _ _ Try.underlying29 .i64 (n : Int) (by omega) (by omega), size8]
                simp [Result.andThen, sliced, Addr.add]
              have hsl2 := run_cut_l (some ⟨b5, o5, none⟩) (Z.length - m) c5 n (n : Int) rfl hn
              have hcs : Shown wr (some ⟨b5, o5, none⟩) ((Z.drop m).take n) c5 := ⟨hr5.take n, (fun h => by cases h), by simp; omega, hc5m⟩
              have hcl : ((Z.drop m).take n).length = n := by simp; omega
              have hHl := left_len 300 (Z.take m)
              have hHl2 : (Z.take m).length ≤ 3100 := by simp; omega
              have CF : Hid (Calls Try.prog 21 #[.pointer (some ⟨A, 0, none⟩), .slice (some ⟨b5, o5, none⟩) n c5] wr (FeedPost A (A + 1) v (left 300 (Z.take m) ++ (Z.drop m).take n) 300 t wr)) := by
                have := feed_yes A (A + 1) v (left 300 (Z.take m)) 300 t (some ⟨b5, o5, none⟩) ((Z.drop m).take n) c5 wr hA hcs (by decide) (by decide) (by rw [hcl]; omega) ht0 (by omega)
                rw [hcl] at this; exact this
              have hzt : Z.take (m + n) = Z.take m ++ (Z.drop m).take n := by rw [List.take_add]
              have hbz : Byt (Z.take m) := Byt.take hZb m
              have hbc : Byt ((Z.drop m).take n) := Byt.take (Byt.drop hZb m) n
              obtain ⟨q1, q2, q3, q4⟩ := cut_more 300 (Z.take m) ((Z.drop m).take n) hbz hbc hfl.out
              have q5 := left_more 300 (Z.take m) ((Z.drop m).take n) hbz hbc hfl.out
              have hfl2 : flt (cut 300 (Z.take (m + n))).2.2 = 0 := cut_front 300 (Z.take (m + n)) (Z.drop (m + n)) (Byt.take hZb _) (Byt.drop hZb _) (by rw [List.take_append_drop, HZ.out])
              rw [hzt] at hfl2
              have hln := lens_cut 300 (left 300 (Z.take m) ++ (Z.drop m).take n) ((left_byt 300 _ hbz).append hbc)
              have HQ : Hid ((cut 300 (Z.take (m + n))).1 = (cut 300 (Z.take m)).1 ++ (cut 300 (left 300 (Z.take m) ++ (Z.drop m).take n)).1 ∧ flt (cut 300 (Z.take (m + n))).2.2 = 0 ∧ left 300 (Z.take (m + n)) = left 300 (left 300 (Z.take m) ++ (Z.drop m).take n) ∧ flt (cut 300 (left 300 (Z.take m) ++ (Z.drop m).take n)).2.2 = 0 ∧ lens (cut 300 (left 300 (Z.take m) ++ (Z.drop m).take n)).1 ≤ 6200) := by
                refine ⟨by rw [hzt]; exact q1, by rw [hzt]; exact hfl2, by rw [hzt]; exact q5, by rw [← q2]; exact hfl2, ?_⟩
                rw [List.length_append, hcl] at hln; omega
              have HCL : Hid (((Z.drop m).take n).length = n) := hcl
              clear q1 q2 q3 q4 q5 hfl2 hzt hbz hbc hln hcs hcl hHl hHl2
              go_wp2_with fail
              refine CF.out.mono ?_
              rintro e w4 ⟨v4, la, lc, qs, he4, hbt4, hqs4, hA4, hF4, hM4, hd4⟩
              rw [HQ.out.2.2.2.1] at he4 hA4
              subst he4
              have hbt4' := hbt.fed hF4 (Nat.lt_succ_self A) (rows_ne hbt.own hA.own) hdis
              have hw4 := hF4.size
              have hwA := hA.lt
              have HQS : Hid (qs.map (·.1) = (cut 300 (left 300 (Z.take m) ++ (Z.drop m).take n)).1) := hqs4
              have HD4 : Hid (∀ p ∈ qs, ∀ x, p.2.1 = some x → some x.block ≠ v4.ownBlock) := hd4
              have HDS : Hid (∀ p ∈ ps, ∀ x, p.2.1 = some x → some x.block ≠ v.ownBlock) := hdis
              have HLQ : Hid (ps.length + qs.length ≤ 1000000) := by
                have h1 := congrArg List.length hid.out
                have h2 := congrArg List.length hqs4
                have h3 := cut_ok 300 (Z.take m) (Byt.take hZb m)
                have h4 := cut_ok 300 (left 300 (Z.take m) ++ (Z.drop m).take n) ((left_byt 300 _ (Byt.take hZb m)).append (Byt.take (Byt.drop hZb m) n))
                have h5 := left_len 300 (Z.take m)
                rw [List.length_map] at h1 h2
                rw [List.length_append, HCL.out] at h4
                simp only [List.length_take] at h3 h5
                show ps.length + qs.length ≤ 1000000
                omega
              have hr4 : Row w4 (some ⟨b5, o5, none⟩) (Z.drop m) := hr5.fed hF4 (fun _ x hx => by
                obtain rfl := Option.some.inj hx
                exact ⟨by show b5 ≠ A; omega, fun e => by have := (hA.own.lt b5 e.symm).1; omega⟩)
              clear hqs4 hd4 hdis CF
              go_wp2_with (at_builtin; go_must (refine wpList_append_frames rfl (.tmp 87) (.tmp 88) rfl (A + 1) wr.heap.size u11 ps qs rfl hbt4' la lc rfl hbt4 (by omega) HLQ.out (by omega) ?_; intro v5 w5 hbt5 hg5))
              go_roundw
              case rel =>
                have hov : ∀ k, u11.ownBlock = some k → A + 1 ≤ k := fun k hk => (hbt4'.own.lt k hk).1
                have hr5' : Row w5 (some ⟨b5, o5, none⟩) (Z.drop m) := hr4.grown (fun _ x hx e => by obtain rfl := Option.some.inj hx; have := hov _ e.symm; simp at this; omega) hg5
                refine ⟨m + n, i + 1, cutA (some ⟨b5, o5, none⟩) c5 n, c5 - n, v4, t + (lens (cut 300 (left 300 (Z.take m) ++ (Z.drop m).take n)).1 : Nat), ps ++ qs, by omega, by go_num, ?hi, by rw [Nat.sub_sub], ?hrow, by omega, by omega, ?hblk, hbt5, ?hid, ?hds, ?hasm, by omega, ?ht, HQ.out.2.1, ?hbel⟩
                case hi => exact Or.inl (by omega)
                case hrow =>
                  have h1 := cutA_row (cap := c5) n (Z.length - m - n) (by simp; omega) w5 hr5'
                  have h2 : ((Z.drop m).drop n).take (Z.length - m - n) = Z.drop (m + n) := by rw [List.drop_drop, List.take_of_length_le (by simp; omega)]
                  rw [h2] at h1; exact h1
                case hblk =>
                  intro x hx _
                  obtain ⟨y, hy, hxy⟩ := cutA_block hx
                  obtain rfl := Option.some.inj hy
                  rw [hxy]; exact hb5'
                case hid =>
                  show List.map _ _ = _
                  rw [List.map_append, hid.out, HQS.out, HQ.out.1]
                case hds =>
                  intro p hp x hx
                  rcases List.mem_append.1 hp with hp | hp
                  · rcases hM4 with h | h
                    · rw [h]; exact HDS.out p hp x hx
                    · intro e
                      have h1 := h _ e.symm
                      have h2 := hbt.lt p hp x hx
                      omega
                  · exact HD4.out p hp x hx
                case hasm =>
                  rw [HQ.out.2.2.1]
                  refine hA4.kept hg5 (fun e => by have := hov _ e.symm; omega) ?_
                  rcases rows_ne hbt4'.own hA4.own with h | h
                  · cases hv4 : v4.ownBlock with
                    | none => exact Or.inl rfl
                    | some k => exact Or.inr (by rw [h]; simp)
                  · exact Or.inr (fun e => h e.symm)
                case ht =>
                  have := HQ.out.2.2.2.2
                  have e : ((i + 1 : Nat) : Int) = (i : Int) + 1 := by omega
                  rw [e]; omega
                case hbel => exact (below_fed hB hF4 hAs (fun k hk => by have := (hA.own.lt k hk).1; omega) hB.size).grown hg5 (by have := hB.size; omega) (fun k hk => by have := hov k hk; omega)
              case measure =>
                simp only [intOf, lenV]
                simp
                omega
          · obtain ⟨n, hn, hnn⟩ : ∃ n, n ≤ Z.length - m ∧ n = Z.length - m := ⟨_, Nat.le_refl _, rfl⟩
            have hnI : ((Z.length - m : Nat) : Int) = (n : Int) := by rw [hnn]
            have HNN : Hid (n = Z.length - m) := hnn
            clear hnn
            have hsl1 : ∀ W, (Instr.slice 29 (.slice (some ⟨b5, o5, none⟩) (Z.length - m) c5) none (some (.int .i64 (n : Nat))) none).run Try.prog W = .ok (.slice (some ⟨b5, o5, none⟩) n c5) W := fun W => by
              rw [run_slice_h W 29 _ _ _ Try.underlying29 .i64 (n : Int) (by omega) (by omega), size8]
              simp [Result.andThen, sliced, Addr.add]
            have hsl2 := run_cut_l (some ⟨b5, o5, none⟩) (Z.length - m) c5 n (n : Int) rfl hn
            have hcs : Shown wr (some ⟨b5, o5, none⟩) ((Z.drop m).take n) c5 := ⟨hr5.take n, (fun h => by cases h), by simp; omega, hc5m⟩
            have hcl : ((Z.drop m).take n).length = n := by simp; omega
            have hHl := left_len 300 (Z.take m)
            have hHl2 : (Z.take m).length ≤ 3100 := by simp; omega
            have CF : Hid (Calls Try.prog 21 #[.pointer (some ⟨A, 0, none⟩), .slice (some ⟨b5, o5, none⟩) n c5] wr (FeedPost A (A + 1) v (left 300 (Z.take m) ++ (Z.drop m).take n) 300 t wr)) := by
              have := feed_yes A (A + 1) v (left 300 (Z.take m)) 300 t (some ⟨b5, o5, none⟩) ((Z.drop m).take n) c5 wr hA hcs (by decide) (by decide) (by rw [hcl]; omega) ht0 (by omega)
              rw [hcl] at this; exact this
            have hzt : Z.take (m + n) = Z.take m ++ (Z.drop m).take n := by rw [List.take_add]
            have hbz : Byt (Z.take m) := Byt.take hZb m
            have hbc : Byt ((Z.drop m).take n) := Byt.take (Byt.drop hZb m) n
            obtain ⟨q1, q2, q3, q4⟩ := cut_more 300 (Z.take m) ((Z.drop m).take n) hbz hbc hfl.out
            have q5 := left_more 300 (Z.take m) ((Z.drop m).take n) hbz hbc hfl.out
            have hfl2 : flt (cut 300 (Z.take (m + n))).2.2 = 0 := cut_front 300 (Z.take (m + n)) (Z.drop (m + n)) (Byt.take hZb _) (Byt.drop hZb _) (by rw [List.take_append_drop, HZ.out])
            rw [hzt] at hfl2
            have hln := lens_cut 300 (left 300 (Z.take m) ++ (Z.drop m).take n) ((left_byt 300 _ hbz).append hbc)
            have HQ : Hid ((cut 300 (Z.take (m + n))).1 = (cut 300 (Z.take m)).1 ++ (cut 300 (left 300 (Z.take m) ++ (Z.drop m).take n)).1 ∧ flt (cut 300 (Z.take (m + n))).2.2 = 0 ∧ left 300 (Z.take (m + n)) = left 300 (left 300 (Z.take m) ++ (Z.drop m).take n) ∧ flt (cut 300 (left 300 (Z.take m) ++ (Z.drop m).take n)).2.2 = 0 ∧ lens (cut 300 (left 300 (Z.take m) ++ (Z.drop m).take n)).1 ≤ 6200) := by
              refine ⟨by rw [hzt]; exact q1, by rw [hzt]; exact hfl2, by rw [hzt]; exact q5, by rw [← q2]; exact hfl2, ?_⟩
              rw [List.length_append, hcl] at hln; omega
            have HCL : Hid (((Z.drop m).take n).length = n) := hcl
            clear q1 q2 q3 q4 q5 hfl2 hzt hbz hbc hln hcs hcl hHl hHl2
            go_wp2_with fail
            refine CF.out.mono ?_
            rintro e w4 ⟨v4, la, lc, qs, he4, hbt4, hqs4, hA4, hF4, hM4, hd4⟩
            rw [HQ.out.2.2.2.1] at he4 hA4
            subst he4
            have hbt4' := hbt.fed hF4 (Nat.lt_succ_self A) (rows_ne hbt.own hA.own) hdis
            have hw4 := hF4.size
            have hwA := hA.lt
            have HQS : Hid (qs.map (·.1) = (cut 300 (left 300 (Z.take m) ++ (Z.drop m).take n)).1) := hqs4
            have HD4 : Hid (∀ p ∈ qs, ∀ x, p.2.1 = some x → some x.block ≠ v4.ownBlock) := hd4
            have HDS : Hid (∀ p ∈ ps, ∀ x, p.2.1 = some x → some x.block ≠ v.ownBlock) := hdis
            have HLQ : Hid (ps.length + qs.length ≤ 1000000) := by
              have h1 := congrArg List.length hid.out
              have h2 := congrArg List.length hqs4
              have h3 := cut_ok 300 (Z.take m) (Byt.take hZb m)
              have h4 := cut_ok 300 (left 300 (Z.take m) ++ (Z.drop m).take n) ((left_byt 300 _ (Byt.take hZb m)).append (Byt.take (Byt.drop hZb m) n))
              have h5 := left_len 300 (Z.take m)
              rw [List.length_map] at h1 h2
              rw [List.length_append, HCL.out] at h4
              simp only [List.length_take] at h3 h5
              show ps.length + qs.length ≤ 1000000
              omega
            have hr4 : Row w4 (some ⟨b5, o5, none⟩) (Z.drop m) := hr5.fed hF4 (fun _ x hx => by
              obtain rfl := Option.some.inj hx
              exact ⟨by show b5 ≠ A; omega, fun e => by have := (hA.own.lt b5 e.symm).1; omega⟩)
            clear hqs4 hd4 hdis CF
            go_wp2_with (at_builtin; go_must (refine wpList_append_frames rfl (.tmp 87) (.tmp 88) rfl (A + 1) wr.heap.size u11 ps qs rfl hbt4' la lc rfl hbt4 (by omega) HLQ.out (by omega) ?_; intro v5 w5 hbt5 hg5))
            go_roundw
            case rel =>
              have hov : ∀ k, u11.ownBlock = some k → A + 1 ≤ k := fun k hk => (hbt4'.own.lt k hk).1
              have hr5' : Row w5 (some ⟨b5, o5, none⟩) (Z.drop m) := hr4.grown (fun _ x hx e => by obtain rfl := Option.some.inj hx; have := hov _ e.symm; simp at this; omega) hg5
              refine ⟨m + n, i + 1, cutA (some ⟨b5, o5, none⟩) c5 n, c5 - n, v4, t + (lens (cut 300 (left 300 (Z.take m) ++ (Z.drop m).take n)).1 : Nat), ps ++ qs, by omega, by go_num, ?hi, by rw [Nat.sub_sub], ?hrow, by omega, by omega, ?hblk, hbt5, ?hid, ?hds, ?hasm, by omega, ?ht, HQ.out.2.1, ?hbel⟩
              case hi => exact Or.inr ⟨by have := HNN.out; omega, by omega⟩
              case hrow =>
                have h1 := cutA_row (cap := c5) n (Z.length - m - n) (by simp; omega) w5 hr5'
                have h2 : ((Z.drop m).drop n).take (Z.length - m - n) = Z.drop (m + n) := by rw [List.drop_drop, List.take_of_length_le (by simp; omega)]
                rw [h2] at h1; exact h1
              case hblk =>
                intro x hx _
                obtain ⟨y, hy, hxy⟩ := cutA_block hx
                obtain rfl := Option.some.inj hy
                rw [hxy]; exact hb5'
              case hid =>
                show List.map _ _ = _
                rw [List.map_append, hid.out, HQS.out, HQ.out.1]
              case hds =>
                intro p hp x hx
                rcases List.mem_append.1 hp with hp | hp
                · rcases hM4 with h | h
                  · rw [h]; exact HDS.out p hp x hx
                  · intro e
                    have h1 := h _ e.symm
                    have h2 := hbt.lt p hp x hx
                    omega
                · exact HD4.out p hp x hx
              case hasm =>
                rw [HQ.out.2.2.1]
                refine hA4.kept hg5 (fun e => by have := hov _ e.symm; omega) ?_
                rcases rows_ne hbt4'.own hA4.own with h | h
                · cases hv4 : v4.ownBlock with
                  | none => exact Or.inl rfl
                  | some k => exact Or.inr (by rw [h]; simp)
                · exact Or.inr (fun e => h e.symm)
              case ht =>
                have := HQ.out.2.2.2.2
                have e : ((i + 1 : Nat) : Int) = (i : Int) + 1 := by omega
                rw [e]; omega
              case hbel => exact (below_fed hB hF4 hAs (fun k hk => by have := (hA.own.lt k hk).1; omega) hB.size).grown hg5 (by have := hB.size; omega) (fun k hk => by have := hov k hk; omega)
            case measure =>
              simp only [intOf, lenV]
              have := HNN.out
              simp
              omega
        · have hme : m = Z.length := by omega
          subst hme
          have hzt : Z.take Z.length = Z := List.take_of_length_le (Nat.le_refl _)
          rw [hzt] at hid hA hfl
          have hlf : left 300 Z = [] := by rw [left, if_pos hfl.out, HZ.out]; simp
          rw [hlf] at hA
          have hid2 : Hid (ps.map (·.1) = bs) := by show List.map _ _ = _; rw [hid.out, HZ.out]
          have hpl : ps.length = bs.length := by rw [← hid2.out, List.length_map]
          obtain ⟨oa, oc, hov, hbr⟩ := hbt.view
          rw [hid2.out] at hbr
          rw [hpl] at hov
          subst hov
          have CB : Hid (Calls Try.prog 23 #[.pointer (some ⟨A, 0, none⟩)] wr fun e w' => e = .returned (.int .i64 0) ∧ wr = w') := buf_any hA
          have hrB := hr.below hB
          have hsb : Z.length - Z.length = 0 := Nat.sub_self _
          rw [hsb]
          clear hzt hlf hid hid2 hpl hbt hdis hA hfl hr5 hb5 HZ hZb
          go_wp2_with fail
          refine CB.out.mono ?_
          rintro e w6 ⟨rfl, rfl⟩
          go_wp2
          go_loopw [16] (fun si w7 => ∃ i : Nat, i ≤ bs.length ∧ si = .int .i64 i ∧ Below wr.heap.size wr w7) (fun si _ => bs.length - (intOf si).toNat)
          case atStart => exact ⟨0, Nat.zero_le _, rfl, Below.refl _ _⟩
          case round =>
            obtain ⟨i, hi, rfl, hbw⟩ := hrel
            by_cases hlt : i < bs.length
            · have hz : bs ≠ [] := by intro h; rw [h] at hlt; simp at hlt
              obtain ⟨g1, rfl, q1⟩ := hbr hz
              obtain ⟨g2, off2, rfl, q2⟩ := hrB hz
              obtain ⟨x1, y1, z1, r1⟩ := q1 i hlt
              obtain ⟨x2, y2, z2, r2⟩ := q2 i hlt
              have l1 := World.block_lt_of_cell? _ ⟨g1, i, none⟩ z1
              have l2 := World.block_lt_of_cell? _ ⟨g2, off2 + i, none⟩ z2
              have d1 := (hbw.cell (p := ⟨g1, i, none⟩) l1).trans z1
              have d2 := (hbw.cell (p := ⟨g2, off2 + i, none⟩) l2).trans z2
              have t1 := (r1.below hbw).drew.text bs[i].length y1 rfl
              have t2 := (r2.1.below hbw).drew.text bs[i].length y2 rfl
              have hi0 : (0 : Int) ≤ (i : Int) := by omega
              have hi1 : (i : Int) < (bs.length : Int) := by omega
              clear q1 q2 z1 z2 r1 r2 hbr hrB hr
              generalize bs[i] = Fi at *
              go_wp2
              go_region_held (fun w' => w'.cell? ⟨g1, i, none⟩ = some (.slice x1 Fi.length y1) ∧ w'.cell? ⟨g2, off2 + i, none⟩ = some (.slice x2 Fi.length y2)) (first | go_keep | fail) (fail)
              all_goals
                go_wp2
                go_roundw
                case rel => exact ⟨i + 1, by omega, by go_num, hbw.drew⟩
                case measure => simp [intOf]; omega
            · have hie : (bs.length : Int) ≤ (i : Int) := by omega
              go_wp2
              go_ret
              exact ⟨rfl, hB.trans (hbw.mono hB.size)⟩
set_option maxRecDepth 100000 in
theorem frameChunks_lifted (os : Os) (started : os.Started) (H : Type) (tok : TypeId × Value → H) :
    ReturnsInHanded {} Try.checked os 6 .any (Rows.frameChunksSpec.pre6 tok Try.prog Try.f6 Rows.frameChunksRow.domain false) (Rows.frameChunksSpec.post tok Try.prog Try.f6 false true false false) := by
  refine returnsInHanded_of_change (C := Try.checked) own_knob started (by kernel_rfl) Try.func6
    (ChangeSpec.witness6 (enc := tok) (C := Try.checked) false ⟨#[], #[.slice none 0 0, .slice none 0 0], []⟩ 8 (by kernel_rfl) (by kernel_rfl) (by kernel_rfl) (by kernel_rfl)) ?_
  intro W base args ds gs before hval0 hW hcnd _
  have hval : ∀ (j : Nat) t v, Try.f6.params[j]? = some t → args[j]? = some v → Value.okWide Try.prog W .any base t v := hval0
  have hW' := hW
  obtain ⟨p, q, hA0, hV, rfl, hfz, hnd⟩ := hW
  have hA : DataW.TrodAll tok Try.prog W 0 (fun _ => true) true Try.f6.params.toList args.toList ds p := hA0
  rw [Try.params6] at hA hval
  obtain ⟨v0, vs0, d0, ds0, p0, q0, hargs, rfl, rfl, h0, r0⟩ := trodAll_cons hA
  obtain ⟨v1, vs1, d1, ds1, p1, q1, rfl, rfl, rfl, h1, r1⟩ := trodAll_cons r0
  obtain ⟨rfl, rfl, rfl⟩ := trodAll_nil r1
  obtain rfl : args = #[v0, v1] := by cases args; simp_all
  obtain ⟨rfl, rfl⟩ := trodVars_none hV
  obtain ⟨a0, len0, cap0, rfl⟩ := okWide_slice Try.underlying32 (hval 0 32 v0 rfl rfl)
  have k0 := h0
  have lt0 : ∀ x ∈ p0, x.block < W.heap.size := by obtain ⟨m, hm⟩ := k0; exact DataW.trod_lt m _ _ _ hm
  obtain ⟨z0, w0⟩ : ∃ zs, BytessIn W a0 len0 cap0 zs := by obtain ⟨fuel, hf⟩ := h0; exact bytess_in hf
  obtain rfl := w0.hlen
  obtain ⟨a1, len1, cap1, rfl⟩ := okWide_slice Try.underlying29 (hval 1 29 v1 rfl rfl)
  have k1 := h1
  have lt1 : ∀ x ∈ p1, x.block < W.heap.size := by obtain ⟨m, hm⟩ := k1; exact DataW.trod_lt m _ _ _ hm
  obtain ⟨z1, w1⟩ : ∃ zs, BytesIn W a1 len1 cap1 zs := by obtain ⟨fuel, hf⟩ := h1; exact bytes_in hf
  obtain rfl := w1.hlen
  clear hA0 hval0
  refine (chunks_walk a0 z0 cap0 a1 z1 cap1 W w0 w1).mono fun e W' ⟨he, bel⟩ => ?_
  subst he
  exact ⟨_, rfl, _, _, _, [], _, [], hW', trodAll_mk1 (shut_bool Try.underlying4 _), (trodAll_cons_mk (Below.trod laid_out (by kernel_rfl) (of_decide_eq_true (by kernel_rfl)) k0 bel lt0) (trodAll_cons_mk (Below.trod laid_out (by kernel_rfl) (of_decide_eq_true (by kernel_rfl)) k1 bel lt1) trodAll_mk0)), rfl, bel.frame _, fun h => by cases h⟩

set_option maxRecDepth 100000 in
theorem frameChunks_holds : Rows.FrameChunksSaid :=
  OpenClaim.holds_of_wide 6 Try.f6 rfl rfl rfl rfl rfl rfl rfl ⟨rfl, rfl, rfl, rfl, rfl⟩ rfl rfl rfl rfl rfl (by kernel_rfl) Try.func6 (by kernel_rfl)
    (of_decide_eq_true (by kernel_rfl)) (by unfold Func.isWrapper; first | (rw [if_pos (by decide +kernel)]; kernel_rfl) | (rw [if_neg (by decide +kernel)]; exact ⟨rfl, rfl⟩))
    (fun os started H tok _ => frameChunks_lifted os started H tok)
#print axioms frameChunks_holds
end Go.Proofs.Ytkcnpdcgonengaa
