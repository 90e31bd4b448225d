/- What readField answers: the field that bytes begin with. Condition: the slice shows bytes, fewer than 2^46. -/
import Derived.Test.YtjnipkeadlemiaaMsgE
namespace Go.Proofs.Ytjnipkeadlemiaa
open Go.RowKit

set_option maxRecDepth 100000 in
theorem zero_shown (w : World) : zeroF.shown w none 0 := ⟨Row.nil _ _, fun _ => ⟨rfl, rfl⟩, Nat.le_refl _, by simp [maxLen]⟩

set_option maxHeartbeats 3200000 in
set_option maxRecDepth 100000 in
theorem readField_any (a : Option Addr) (zs : List Int) (cap : Nat) (w : World) (hr : Row w a zs) (hnil : a = none → zs.length = 0 ∧ cap = 0) (hlc : zs.length ≤ cap) (hlen : zs.length ≤ 35184372088832) :
    Calls Try.prog 85 #[.slice a zs.length cap] w fun e w' => ∃ fa fc, e = .returned (.tuple #[(rf zs).1.val fa fc, .int .i64 (rf zs).2.1, .int .i64 (rf zs).2.2]) ∧ (rf zs).1.shown w' fa fc ∧ (∀ x, fa = some x → w.heap.size ≤ x.block) ∧ Below w.heap.size w w' := by
  by_cases h0 : (rd zs).2.2 = 0
  · obtain ⟨hk0, hk1, hkt, hks⟩ := rd_ok zs hr.byte h0
    have hl1 := enc_len (rd zs).1
    have hle1 : (enc (rd zs).1).length ≤ zs.length := by
      have := congrArg List.length hkt
      simp at this; omega
    obtain ⟨key, s1, hq⟩ : ∃ (key : Int) (s1 : Nat), rd zs = (key, (s1 : Int), 0) := ⟨(rd zs).1, (enc (rd zs).1).length, by rw [← hks, ← h0]⟩
    have hs1 : (enc (rd zs).1).length = s1 := by rw [hq] at hks ⊢; simp only at hks ⊢; omega
    rw [hs1] at hl1 hle1
    rw [hq] at hk0 hk1
    simp only at hk0 hk1
    clear hks hkt hs1 h0
    have HQ : Hid (rd zs = (key, (s1 : Int), 0)) := hq
    have hrow1 := fun W (h : Row W a zs) => cutA_row (cap := cap) s1 (zs.length - s1) hlc W h
    have htk : (zs.drop s1).take (zs.length - s1) = zs.drop s1 := List.take_of_length_le (by simp)
    rw [htk] at hrow1
    have hsl := run_cut_l a zs.length cap s1 (s1 : Int) rfl hle1
    have CR : Hid (∀ W, Row W a zs → Calls Try.prog 112 #[.slice (cutA a cap s1) (zs.length - s1) (cap - s1)] W fun e w' => e = .returned (.tuple #[.int .u64 (rd (zs.drop s1)).1, .int .i64 (rd (zs.drop s1)).2.1, .int .i64 (rd (zs.drop s1)).2.2]) ∧ W = w') := fun W h => by
      have := read_any (cutA a cap s1) (zs.drop s1) (cap - s1) W (hrow1 W h) (by simp; omega)
      rw [List.length_drop] at this; exact this
    clear hrow1 htk hq
    by_cases h2 : (rd (zs.drop s1)).2.2 = 0
    · obtain ⟨hm0, hm1, hmt, hms⟩ := rd_ok (zs.drop s1) (fun c hc => hr.byte c (List.mem_of_mem_drop hc)) h2
      have hl2 := enc_len (rd (zs.drop s1)).1
      have hle2 : (enc (rd (zs.drop s1)).1).length ≤ zs.length - s1 := by
        have := congrArg List.length hmt
        simp at this; omega
      obtain ⟨m, s2, hq2⟩ : ∃ (m : Int) (s2 : Nat), rd (zs.drop s1) = (m, (s2 : Int), 0) := ⟨(rd (zs.drop s1)).1, (enc (rd (zs.drop s1)).1).length, by rw [← hms, ← h2]⟩
      have hs2 : (enc (rd (zs.drop s1)).1).length = s2 := by rw [hq2] at hms ⊢; simp only at hms ⊢; omega
      rw [hs2] at hl2 hle2
      rw [hq2] at hm0 hm1
      simp only at hm0 hm1
      have hrf : rf zs = if key % 2 = 0 then (⟨key / 2, false, m, []⟩, (s1 : Int) + s2, 0) else if (zs.length : Int) - ((s1 : Int) + s2) < m then (zeroF, 0, 5) else (⟨key / 2, true, 0, (zs.drop (s1 + s2)).take m.toNat⟩, (s1 : Int) + s2 + m, 0) := by
        have e : ((s1 : Int) + (s2 : Int)).toNat = s1 + s2 := by omega
        simp [rf, HQ.out, hq2, e]
      have E : Hid (rf zs = if key % 2 = 0 then (⟨key / 2, false, m, []⟩, (s1 : Int) + s2, 0) else if (zs.length : Int) - ((s1 : Int) + s2) < m then (zeroF, 0, 5) else (⟨key / 2, true, 0, (zs.drop (s1 + s2)).take m.toNat⟩, (s1 : Int) + s2 + m, 0)) := hrf
      rw [hq2] at CR
      clear hms hmt hs2 h2 hrf hq2
      by_cases hev : key % 2 = 0
      · have E2 : Hid (rf zs = (⟨key / 2, false, m, []⟩, (s1 : Int) + s2, 0)) := by show rf zs = _; rw [E.out, if_pos hev]
        clear E
        go_enter Try.func85, Try.ntmps85
        go_wp2_with fail
        refine (read_any a zs cap _ (hr.alloc _) (by omega)).mono ?_
        rintro e w1 ⟨rfl, rfl⟩
        rw [HQ.out]
        go_wp2_with fail
        refine (CR.out _ (hr.alloc _)).mono ?_
        rintro e w1 ⟨rfl, rfl⟩
        go_wp2_with fail
        refine (num_any _ _ _).mono ?_
        rintro e w2 ⟨rfl, hb2⟩
        obtain ⟨hc2, hf2⟩ := bcell hb2
        have hB2 : Below w.heap.size w w2 := ((Below.refl _ _).alloc (Nat.le_refl _) _).trans (hb2.mono (by simp))
        have hz2 : w.heap.size < w2.heap.size := by have := hb2.size; simp at this; omega
        go_wp2
        refine bodyPost_ret (v := .tuple #[.agg #[.int .i64 (key / 2), .bool false, .int .u64 m, .slice none 0 0], .int .i64 ((s1 : Int) + s2), .int .i64 0]) (by simp [results, Try.results85, go_sem, hc2]) rfl ⟨none, 0, by rw [E2.out]; rfl, ?_, by simp, (((hB2.setCell (Nat.le_refl _) _).setCell (Nat.le_refl _) _).setCell (Nat.le_refl _) _).setCell (Nat.le_refl _) _⟩
        rw [E2.out]
        exact ⟨Row.nil _ _, fun _ => ⟨rfl, rfl⟩, Nat.le_refl _, by simp [maxLen]⟩
      · have hev' : (key % 2 == 0) = false := by simpa using hev
        by_cases hbig : (zs.length : Int) - ((s1 : Int) + s2) < m
        · have E2 : Hid (rf zs = (zeroF, 0, 5)) := by show rf zs = _; rw [E.out, if_neg hev, if_pos hbig]
          clear E hev
          go_enter Try.func85, Try.ntmps85
          go_wp2_with fail
          refine (read_any a zs cap _ (hr.alloc _) (by omega)).mono ?_
          rintro e w1 ⟨rfl, rfl⟩
          rw [HQ.out]
          go_wp2_with fail
          refine (CR.out _ (hr.alloc _)).mono ?_
          rintro e w1 ⟨rfl, rfl⟩
          go_wp2
          refine bodyPost_ret (v := .tuple #[.agg #[.int .i64 0, .bool false, .int .u64 0, .slice none 0 0], .int .i64 0, .int .i64 5]) (by simp [results, Try.results85, go_sem]) rfl ⟨none, 0, by rw [E2.out]; rfl, by rw [E2.out]; exact zero_shown _, by simp, (Below.refl _ _).alloc (Nat.le_refl _) _⟩
        · obtain ⟨mm, rfl⟩ := Int.eq_ofNat_of_zero_le hm0
          have E2 : Hid (rf zs = (⟨key / 2, true, 0, (zs.drop (s1 + s2)).take mm⟩, (s1 : Int) + s2 + mm, 0)) := by show rf zs = _; rw [E.out, if_neg hev, if_neg hbig]; rfl
          clear E hev
          have hend : s1 + s2 + mm ≤ zs.length := by omega
          have hsl2 := run_cut_lh a zs.length cap (s1 + s2) (s1 + s2 + mm) ((s1 : Int) + s2) ((s1 : Int) + s2 + mm) (by omega) (by omega) (by omega) (by omega)
          have hd1 : s1 + s2 + mm - (s1 + s2) = mm := by omega
          rw [hd1] at hsl2
          have hlm : ((zs.drop (s1 + s2)).take mm).length = mm := by simp; omega
          have CB : Hid (∀ W, Row W a zs → Calls Try.prog 113 #[.int .i64 (key / 2), .slice (cutA a cap (s1 + s2)) mm (cap - (s1 + s2))] W fun e w' => ∃ a' cap', e = .returned (.agg #[.int .i64 (key / 2), .bool true, .int .u64 0, .slice a' mm cap']) ∧ Row w' a' ((zs.drop (s1 + s2)).take mm) ∧ (a' = none → mm = 0 ∧ cap' = 0) ∧ mm ≤ cap' ∧ cap' ≤ maxLen ∧ (∀ x, a' = some x → W.heap.size ≤ x.block) ∧ Below W.heap.size W w') := fun W h => by
            have := blob_any (key / 2) (cutA a cap (s1 + s2)) ((zs.drop (s1 + s2)).take mm) (cap - (s1 + s2)) W (cutA_row (s1 + s2) mm hlc W h) (fun hn => by have := cutA_nil (s1 + s2) hnil hn; simp; omega) (by omega)
            rw [hlm] at this; exact this
          have HLM : Hid (((zs.drop (s1 + s2)).take mm).length = mm) := hlm
          clear hlm hd1
          go_enter Try.func85, Try.ntmps85
          go_wp2_with fail
          refine (read_any a zs cap _ (hr.alloc _) (by omega)).mono ?_
          rintro e w1 ⟨rfl, rfl⟩
          rw [HQ.out]
          go_wp2_with fail
          refine (CR.out _ (hr.alloc _)).mono ?_
          rintro e w1 ⟨rfl, rfl⟩
          have hbig' : (mm : Int) ≤ (zs.length : Int) - ((s1 : Int) + s2) := by omega
          clear hbig hend hm0 hm1
          have hmb : (mm : Int) ≤ 35184372088832 := by omega
          go_wp2_with fail
          refine (CB.out _ (hr.alloc _)).mono ?_
          rintro e w2 ⟨fa, fc, rfl, hfr, hfn, hfl, hfm, hfb, hb2⟩
          obtain ⟨hc2, hf2⟩ := bcell hb2
          have hB2 : Below w.heap.size w w2 := ((Below.refl _ _).alloc (Nat.le_refl _) _).trans (hb2.mono (by simp))
          have hz2 : w.heap.size < w2.heap.size := by have := hb2.size; simp at this; omega
          have hne : ∀ x, fa = some x → x.block ≠ w.heap.size := fun x hx => by have := hfb x hx; simp at this; omega
          go_wp2
          refine bodyPost_ret (v := .tuple #[.agg #[.int .i64 (key / 2), .bool true, .int .u64 0, .slice fa mm fc], .int .i64 ((s1 : Int) + s2 + mm), .int .i64 0]) (by simp [results, Try.results85, go_sem, hc2]) rfl ⟨fa, fc, by rw [E2.out, Fld.val, HLM.out], ?_, fun x hx => by have := hfb x hx; simp at this; omega, (((hB2.setCell (Nat.le_refl _) _).setCell (Nat.le_refl _) _).setCell (Nat.le_refl _) _).setCell (Nat.le_refl _) _⟩
          rw [E2.out]
          refine ⟨(((hfr.setCell _ _ hne).setCell _ _ hne).setCell _ _ hne).setCell _ _ hne, ?_, ?_, hfm⟩
          · intro h; have := hfn h; simp only [HLM.out]; exact this
          · simp only [HLM.out]; exact hfl
    · have hrf : rf zs = (zeroF, 0, (rd (zs.drop s1)).2.2) := by simp [rf, HQ.out, h2]
      have E : Hid (rf zs = (zeroF, 0, (rd (zs.drop s1)).2.2)) := hrf
      have hne : ((rd (zs.drop s1)).2.2 != 0) = true := by simpa using h2
      clear hrf h2
      generalize rd (zs.drop s1) = q2 at *
      obtain ⟨m, s2, e2⟩ := q2
      simp only at hne
      go_enter Try.func85, Try.ntmps85
      go_wp2_with fail
      refine (read_any a zs cap _ (hr.alloc _) (by omega)).mono ?_
      rintro e w1 ⟨rfl, rfl⟩
      rw [HQ.out]
      go_wp2_with fail
      refine (CR.out _ (hr.alloc _)).mono ?_
      rintro e w1 ⟨rfl, rfl⟩
      go_wp2
      refine bodyPost_ret (v := .tuple #[.agg #[.int .i64 0, .bool false, .int .u64 0, .slice none 0 0], .int .i64 0, .int .i64 e2]) (by simp [results, Try.results85, go_sem]) rfl ⟨none, 0, by rw [E.out]; rfl, by rw [E.out]; exact zero_shown _, by simp, (Below.refl _ _).alloc (Nat.le_refl _) _⟩
  · have hrf : rf zs = (zeroF, 0, (rd zs).2.2) := by simp [rf, h0]
    have E : Hid (rf zs = (zeroF, 0, (rd zs).2.2)) := hrf
    have hne : ((rd zs).2.2 != 0) = true := by simpa using h0
    clear hrf h0
    have CR : Hid (∀ W, Row W a zs → Calls Try.prog 112 #[.slice a zs.length cap] W fun e w' => e = .returned (.tuple #[.int .u64 (rd zs).1, .int .i64 (rd zs).2.1, .int .i64 (rd zs).2.2]) ∧ W = w') := fun W h => read_any a zs cap W h (by omega)
    generalize rd zs = q2 at *
    obtain ⟨m, s2, e2⟩ := q2
    simp only at hne
    go_enter Try.func85, Try.ntmps85
    go_wp2_with fail
    refine (CR.out _ (hr.alloc _)).mono ?_
    rintro e w1 ⟨rfl, rfl⟩
    go_wp2
    refine bodyPost_ret (v := .tuple #[.agg #[.int .i64 0, .bool false, .int .u64 0, .slice none 0 0], .int .i64 0, .int .i64 e2]) (by simp [results, Try.results85, go_sem]) rfl ⟨none, 0, by rw [E.out]; rfl, by rw [E.out]; exact zero_shown _, by simp, (Below.refl _ _).alloc (Nat.le_refl _) _⟩
end Go.Proofs.Ytjnipkeadlemiaa
