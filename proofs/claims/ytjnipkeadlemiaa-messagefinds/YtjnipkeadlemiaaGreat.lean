/- What great answers: is there more than is asked of? It only reads. Condition: the slice shows fields. -/
import Derived.Test.YtjnipkeadlemiaaFld
import Derived.Test.YtjnipkeadlemiaaVarA
namespace Go.Proofs.Ytjnipkeadlemiaa
open Go.RowKit

def greatB (fs : List Fld) : Bool := fs.any (fun f => decide (5000 < f.b.length)) || decide (80 < fs.length)
set_option maxRecDepth 100000 in
theorem great_any (ao : Option Addr) (fs : List Fld) (cap : Nat) (w : World) (hr : FRow w ao fs) (hm : fs.length ≤ 9223372036854775807) :
    Calls Try.prog 9 #[.slice ao fs.length cap] w fun e w' => e = .returned (.bool (greatB fs)) ∧ w = w' := by
  by_cases hz : fs = []
  · subst hz
    clear hr
    go_enter Try.func9, Try.ntmps9
    go_wp2
    refine wp_loop_rounds 1 ?_
    rw [rounds_succ]
    go_wp2
    go_ret
    exact ⟨rfl, rfl⟩
  · obtain ⟨b0, off, rfl, hc⟩ := hr.2 hz
    clear hr
    go_enter Try.func9, Try.ntmps9
    go_wp2
    go_loop [3] (fun si => ∃ k : Nat, k ≤ fs.length ∧ si = .int .i64 k ∧ Hid ((fs.take k).any (fun f => decide (5000 < f.b.length)) = false)) (fun si => fs.length - (intOf si).toNat)
    case atStart => exact ⟨0, by omega, rfl, rfl⟩
    case round =>
      obtain ⟨k, hk, rfl, hid⟩ := hrel
      by_cases hlt : k < fs.length
      · obtain ⟨fa, fc, c0, c1, c2, c3, hsh⟩ := hc k hlt
        have htk : fs.take (k + 1) = fs.take k ++ [fs[k]] := List.take_succ_eq_append_getElem hlt
        have hmem : fs[k] ∈ fs := List.getElem_mem hlt
        have hle := hsh.2.2.1
        have hmx := hsh.2.2.2
        unfold maxLen at hmx
        have HT : Hid (fs.take (k + 1) = fs.take k ++ [fs[k]]) := htk
        clear hc c0 c1 c2 hsh htk
        generalize fs[k] = f at *
        obtain ⟨tag, isB, n, b⟩ := f
        simp only at c3 hle
        by_cases hbig : 5000 < b.length
        · have E : Hid (greatB fs = true) := by
            show greatB fs = _
            simp only [greatB, Bool.or_eq_true, List.any_eq_true, decide_eq_true_iff]
            exact Or.inl ⟨_, hmem, hbig⟩
          clear hid HT hmem
          go_wp2
          go_ret
          exact ⟨ret_bool E.out.symm, rfl⟩
        · have hid2 : Hid ((fs.take (k + 1)).any (fun f => decide (5000 < f.b.length)) = false) := by
            show _ = _
            rw [HT.out, List.any_append, hid.out]
            simp; omega
          clear hid HT hmem
          go_wp2
          go_round
          case rel => exact ⟨k + 1, by omega, by go_num, hid2⟩
          case measure => simp [intOf]; omega
      · have E : Hid (greatB fs = decide ((80 : Int) < (fs.length : Int))) := by
          show greatB fs = _
          have h := hid.out
          rw [List.take_of_length_le (by omega)] at h
          rw [greatB, h, Bool.false_or, Bool.eq_iff_iff, decide_eq_true_iff, decide_eq_true_iff]
          omega
        clear hid hc
        go_wp2
        go_ret
        exact ⟨ret_bool E.out.symm, rfl⟩
set_option maxRecDepth 100000 in
theorem greatB_no {fs : List Fld} (h : greatB fs = false) : fs.length ≤ 80 ∧ ∀ f ∈ fs, f.b.length ≤ 5000 := by
  simp only [greatB, Bool.or_eq_false_iff, List.any_eq_false, decide_eq_true_iff, decide_eq_false_iff_not] at h
  exact ⟨by omega, fun f hf => by have := h.1 f hf; omega⟩
end Go.Proofs.Ytjnipkeadlemiaa
