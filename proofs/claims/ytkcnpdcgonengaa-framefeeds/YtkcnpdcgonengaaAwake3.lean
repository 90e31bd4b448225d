/- The document's example of layer 3 holds: 2, 7, and then 8, 0: a frame of 7 and 8, and an empty one. No conditions. -/
import Derived.Test.YtkcnpdcgonengaaFeed
namespace Go.Proofs.Ytkcnpdcgonengaa
open Go.RowKit

set_option maxRecDepth 100000 in
theorem feed_yes (A base : Nat) (v : Value) (H : List Int) (L t : Int) (ca : Option Addr) (cs : List Int) (cc : Nat) (w : World) (h : Asm w A base v H L 0 t) (hc : Shown w ca cs cc) (hL0 : 0 ≤ L) (hL1 : L ≤ 4096)
    (hlen : H.length + cs.length ≤ 1000000) (ht0 : 0 ≤ t) (ht1 : t ≤ 1000000000000) : Calls Try.prog 21 #[.pointer (some ⟨A, 0, none⟩), .slice ca cs.length cc] w (FeedPost A base v (H ++ cs) L t w) :=
  feed_at A base v H (H ++ cs) L t ca cs cc w rfl h hc hL0 hL1 hlen ht0 ht1

set_option maxRecDepth 100000 in
/-- Two bytes in a new block. -/
theorem shown2 (w : World) (a b : Int) (ha : 0 ≤ a ∧ a ≤ 255) (hb : 0 ≤ b ∧ b ≤ 255) : Shown (w.alloc (.cells #[.int .u8 a, .int .u8 b] 5)) (some ⟨w.heap.size, 0, none⟩) [a, b] 2 := by
  refine ⟨⟨?_, fun _ => ⟨w.heap.size, 0, rfl, fun j hj => ?_⟩⟩, (fun h => by cases h), Nat.le_refl _, by simp [maxLen]⟩
  · intro c hc
    simp at hc
    rcases hc with rfl | rfl <;> assumption
  · rw [cell_of_row _ _ _ _ _ _ (World.alloc_heap_new w _)]
    match j, hj with
    | 0, _ => rfl
    | 1, _ => rfl
set_option maxRecDepth 100000 in
theorem cut27 : cut 10 [2, 7] = ([], 0, 5) := by decide +kernel
set_option maxRecDepth 100000 in
theorem cut2780 : cut 10 [2, 7, 8, 0] = ([[7, 8], []], 4, 0) := by decide +kernel

set_option maxRecDepth 100000 in
theorem two_of {ps : List (List Int × Option Addr × Nat)} {x y : List Int} (h : ps.map (·.1) = [x, y]) : ∃ a c a' c', ps = [(x, a, c), (y, a', c')] := by
  match ps, h with
  | [(p, a, c), (q, a', c')], h =>
    simp at h
    obtain ⟨rfl, rfl⟩ := h
    exact ⟨a, c, a', c', rfl⟩

set_option maxRecDepth 100000 in
set_option maxHeartbeats 1600000 in
theorem awake3_any (w : World) : Calls Try.prog 19 #[] w fun e w' => e = .returned (.bool true) ∧ Below w.heap.size w w' := by
  go_enter Try.func19, Try.ntmps19
  go_wp2_with fail
  refine (new_yes 10 w (by decide)).mono ?_
  rintro e w1 ⟨rfl, hA1, hb1⟩
  go_wp2_with fail
  have hb2 : Below w1.heap.size w1 (w1.alloc (.cells #[.int .u8 2, .int .u8 7] 5)) := (Below.refl _ _).alloc (Nat.le_refl _) _
  refine (feed_yes w.heap.size (w.heap.size + 1) _ [] 10 0 (some ⟨w1.heap.size, 0, none⟩) [2, 7] 2 _ (hA1.below hb2) (shown2 w1 2 7 (by decide) (by decide)) (by decide) (by decide) (by decide) (by decide) (by decide)).mono ?_
  rintro e w3 ⟨v3, la3, lc3, ps3, he3, hbt3, hps3, hA3, hF3, -, -⟩
  simp only [List.nil_append, cut27] at he3 hps3 hA3
  have hl3 : ps3 = [] := by simpa using hps3
  subst hl3
  have hfl : flt 5 = 0 := by decide
  have hlf : left 10 [2, 7] = [2, 7] := by decide +kernel
  rw [hfl] at he3 hA3
  rw [hlf] at hA3
  have hln : (0 : Int) + ((lens [] : Nat) : Int) = 0 := by decide
  rw [hln] at hA3
  subst he3
  have hB3 : Below w.heap.size w w3 := by
    refine hb1.trans ⟨hF3.os, hF3.tape, hF3.output, Nat.le_trans hb2.size hF3.size, fun k hk => ?_⟩
    have hk1 : k < w1.heap.size := Nat.lt_of_lt_of_le hk hb1.size
    exact (hF3.block k (by simp; omega) (by omega) (by simp [Value.ownBlock])).trans (hb2.block k hk1)
  clear hfl hlf hln hbt3 hps3 hF3 hb1 hb2 hA1
  go_wp2_with fail
  have hb4 : Below w3.heap.size w3 (w3.alloc (.cells #[.int .u8 8, .int .u8 0] 5)) := (Below.refl _ _).alloc (Nat.le_refl _) _
  refine (feed_yes w.heap.size (w.heap.size + 1) v3 [2, 7] 10 0 (some ⟨w3.heap.size, 0, none⟩) [8, 0] 2 _ (hA3.below hb4) (shown2 w3 8 0 (by decide) (by decide)) (by decide) (by decide) (by decide) (by decide) (by decide)).mono ?_
  rintro e w5 ⟨v5, la5, lc5, ps5, he5, hbt5, hps5, hA5, hF5, -, -⟩
  simp only [List.cons_append, List.nil_append, cut2780] at he5 hps5
  have hfl : flt 0 = 0 := by decide
  rw [hfl] at he5
  have hB5 : Below w.heap.size w w5 := by
    refine hB3.trans ⟨hF5.os, hF5.tape, hF5.output, Nat.le_trans hb4.size hF5.size, fun k hk => ?_⟩
    have hk1 : k < w3.heap.size := Nat.lt_of_lt_of_le hk hB3.size
    exact (hF5.block k (by simp; omega) (by omega) (fun e => by have := (hA3.own.lt k e.symm).1; omega)).trans (hb4.block k hk1)
  obtain ⟨a0, c0, a1, c1, rfl⟩ := two_of hps5
  subst he5
  obtain ⟨a, cap, hv, hbr⟩ := hbt5.view
  simp only [Value.slice.injEq] at hv
  obtain ⟨rfl, -, rfl⟩ := hv
  obtain ⟨g, rfl, hcl⟩ := hbr (by simp)
  obtain ⟨x0, y0, q0, r0⟩ := hcl 0 (by simp)
  obtain ⟨x1, y1, q1, r1⟩ := hcl 1 (by simp)
  simp only [List.map_cons, List.getElem_cons_zero, List.getElem_cons_succ, List.length_cons, List.length_nil] at q0 r0 q1 r1
  have t0 := r0.text 2 y0 rfl
  have hlt := World.block_lt_of_cell? w5 ⟨g, 0, none⟩ q0
  clear hbt5 hcl hA5 hF5 hA3 hb4 hbr
  have hst : (strOfNums [7, 8]).toList = [7, 8] := by rw [ByteArray.toList_eq, strOfNums_data]; rfl
  go_wp2
  go_ret
  exact ⟨rfl, hB5⟩
end Go.Proofs.Ytkcnpdcgonengaa
