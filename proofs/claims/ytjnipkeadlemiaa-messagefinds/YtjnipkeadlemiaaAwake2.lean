/- The document's example of layer 2 holds: a number 5 of tag 1 is 2, 5. No conditions. -/
import Derived.Test.YtjnipkeadlemiaaMsgD
import Derived.Test.YtjnipkeadlemiaaMsgG
namespace Go.Proofs.Ytjnipkeadlemiaa
open Go.RowKit

def five : Fld := ⟨1, false, 5, []⟩
set_option maxRecDepth 100000 in
theorem enc_five : encM [five] = ([2, 5], 0) := by decide
set_option maxRecDepth 100000 in
theorem dec_five : decM [2, 5] = ([five], 1, 0) := by rfl
set_option maxRecDepth 100000 in
theorem five_row (w : World) : FRow (w.alloc (.cells #[.int .i64 1, .bool false, .int .u64 5, .slice none 0 0] 35)) (some ⟨w.heap.size, 0, none⟩) [five] := by
  refine ⟨by simp [five, Fld.ok], fun _ => ⟨w.heap.size, 0, rfl, fun j hj => ?_⟩⟩
  have hj0 : j = 0 := by simpa using hj
  subst hj0
  exact ⟨none, 0, by simp [five], by simp [five], by simp [five], by simp [five], Row.nil _ _, fun _ => ⟨rfl, rfl⟩, Nat.le_refl _, by simp [maxLen]⟩

set_option maxHeartbeats 1600000 in
set_option maxRecDepth 100000 in
theorem awake2_any (w : World) : Calls Try.prog 10 #[] w fun e w' => e = .returned (.bool true) ∧ Below w.heap.size w w' := by
  go_enter Try.func10, Try.ntmps10
  go_wp2_with fail
  refine (num_any 1 5 _).mono ?_
  rintro e w1 ⟨rfl, hb1⟩
  have CE := encode_any (some ⟨w1.heap.size, 0, none⟩) [five] 1 _ (five_row w1) (Nat.le_refl _) (by simp [maxLen])
  rw [enc_five] at CE
  have hs1 : w.heap.size ≤ w1.heap.size := hb1.size
  go_wp2_with fail
  refine CE.mono ?_
  rintro e w2 ⟨v, rfl, hown2, hb2⟩
  clear CE
  obtain ⟨a2, c2, hv2, -, hr2, hn2, hc2, hm2⟩ := own_view (zs := [2, 5]) hown2 (by decide)
  subst hv2
  have hB2 : Below w.heap.size w w2 := (hb1.alloc hb1.size _).trans (hb2.mono (by simp; omega))
  obtain ⟨b2, o2, rfl, hcell⟩ := hr2.2 (by simp)
  have CD := decode_any (some ⟨b2, o2, none⟩) [2, 5] c2 w2 hr2 hn2 hc2
  rw [dec_five] at CD
  clear hown2 hr2 hn2 hm2 hb2
  go_wp2_with fail
  refine CD.mono ?_
  rintro e w3 ⟨v3, ps, rfl, hfo, hps, hb3⟩
  clear CD
  obtain ⟨p, rfl⟩ : ∃ p, ps = [p] := by
    have := congrArg List.length hps
    simp at this
    exact List.length_eq_one_iff.1 this
  simp only [List.map_cons, List.map_nil, List.cons.injEq, and_true] at hps
  obtain ⟨a3, c3, hv3, hr3, -, -, -⟩ := hfo.view
  subst hv3
  obtain ⟨b3, o3, rfl, hc3⟩ := hr3.2 (by simp)
  obtain ⟨fa, fc, d0, d1, d2, d3, -⟩ := hc3 0 (by simp)
  simp only [List.map_cons, List.map_nil, List.getElem_cons_zero, hps, five, Nat.zero_mul, Nat.add_zero] at d0 d1 d2 d3
  have e0 := (hb3.cell (p := ⟨b2, o2 + 0, none⟩) (World.block_lt_of_cell? w2 _ (hcell 0 (by simp)))).trans (hcell 0 (by simp))
  have e1 := (hb3.cell (p := ⟨b2, o2 + 1, none⟩) (World.block_lt_of_cell? w2 _ (hcell 1 (by simp)))).trans (hcell 1 (by simp))
  simp at e0 e1
  have hB3 := hB2.trans (hb3.mono hB2.size)
  clear hfo hps hr3 hc3 hcell d0 d1 d3
  go_wp2
  go_ret
  exact ⟨rfl, hB3⟩
end Go.Proofs.Ytjnipkeadlemiaa
