/- What Clean's maps lean on: the order of texts as the program tells it, keys put in one by one, cuts of slices of texts and of values. No conditions; no function of the program. -/
import Derived.Test.YtheabeapmhoclaaVOwnV
import Derived.Sort.Walk0
namespace Go.Proofs.Ytheabeapmhoclaa
open Go.RowKit Go.Maps Go.WideMaps

set_option maxRecDepth 100000 in
theorem lessB (a b : ByteArray) : Op.bytesLess a.toList b.toList = ltB a b := by
  rw [bytesLess_eq, ByteArray.toList_eq, ByteArray.toList_eq]; rfl
set_option maxRecDepth 100000 in
theorem toList_eq {a b : ByteArray} (h : a = b) : (a.toList == b.toList) = true := by subst h; simp
set_option maxRecDepth 100000 in
theorem insAll_take {ps : List (ByteArray × V)} {j : Nat} {ks : List ByteArray} {vs : List V} (hj : j < ps.length) (h : insAll (ps.take j) [] [] = (ks, vs)) :
    insAll (ps.take (j + 1)) [] [] = (insKeys ps[j].1 ks, insVals ps[j].1 ps[j].2 ks vs) := by
  rw [List.take_succ_eq_append_getElem hj, insAll_append, h]; rfl
set_option maxRecDepth 100000 in
theorem hasAt_yes {key : ByteArray} {ks : List ByteArray} (hl : below key ks < ks.length) (h : ks[below key ks] = key) : hasAt key ks = true := by
  unfold hasAt; simp [hl, h]
set_option maxRecDepth 100000 in
theorem hasAt_no {key : ByteArray} {ks : List ByteArray} (hl : below key ks < ks.length) (h : ks[below key ks] ≠ key) : hasAt key ks = false := by
  unfold hasAt; simp [hl, h]
set_option maxRecDepth 100000 in
theorem hasAt_end {key : ByteArray} {ks : List ByteArray} (hl : ¬ below key ks < ks.length) : hasAt key ks = false := by
  unfold hasAt; simp [hl]
set_option maxRecDepth 100000 in
theorem insAll_len : ∀ (ps : List (ByteArray × V)) (ks : List ByteArray) (vs : List V), ks.length = vs.length → (insAll ps ks vs).1.length = (insAll ps ks vs).2.length ∧ (insAll ps ks vs).1.length ≤ ks.length + ps.length
  | [], ks, vs, h => ⟨h, by simp [insAll]⟩
  | p :: r, ks, vs, h => by
    have ih := insAll_len r (insKeys p.1 ks) (insVals p.1 p.2 ks vs) (insKeys_len _ _ _ _ h)
    have hk : (insKeys p.1 ks).length ≤ ks.length + 1 := by
      unfold insKeys
      split
      · omega
      · have := below_le p.1 ks
        simp only [List.length_append, List.length_take, List.length_drop, List.length_singleton]; omega
    refine ⟨ih.1, ?_⟩
    have := ih.2
    simp only [insAll, List.length_cons]; omega
/-- Where a cut of a slice of elements of s cells lies. -/
def cutN (a : Option Addr) (cap i s : Nat) : Option Addr := if cap = i then a else a.map (·.add (i * s))
set_option maxRecDepth 100000 in
theorem cutN_nil {a : Option Addr} {cap n : Nat} (i s : Nat) (hnil : a = none → n = 0 ∧ cap = 0) (h : cutN a cap i s = none) : n = 0 ∧ cap = 0 := by
  unfold cutN at h
  split at h
  · exact hnil h
  · exact hnil (by simpa using h)
set_option maxRecDepth 100000 in
theorem sizeSS : ∀ W, (sizeOf (Try.prog.elem 23)).run Try.prog W = .ok 1 W := fun W => by
  have e : Try.prog.elem 23 = 9 := by kernel_rfl
  rw [e]; simp [go_sem]
set_option maxRecDepth 100000 in
theorem sizeVS : ∀ W, (sizeOf (Try.prog.elem 22)).run Try.prog W = .ok 7 W := fun W => by
  have e : Try.prog.elem 22 = 25 := by kernel_rfl
  rw [e]; simp [go_sem]
set_option maxRecDepth 100000 in
theorem cutS_h (a : Option Addr) (n cap j : Nat) (hj : j ≤ cap) (W : World) : (Instr.slice 23 (.slice a n cap) none (some (.int .i64 (j : Int))) none).run Try.prog W = .ok (.slice (cutN a cap 0 1) j cap) W := by
  rw [run_slice_h W 23 a n cap Try.underlying23 .i64 (j : Int) (by omega) (by omega), sizeSS]
  simp [Result.andThen, sliced, cutN]
set_option maxRecDepth 100000 in
theorem cutS_l (a : Option Addr) (n cap i : Nat) (hi : i ≤ n) (W : World) : (Instr.slice 23 (.slice a n cap) (some (.int .i64 (i : Int))) none none).run Try.prog W = .ok (.slice (cutN a cap i 1) (n - i) (cap - i)) W := by
  rw [run_slice_l W 23 a n cap Try.underlying23 .i64 (i : Int) (by omega) (by omega), sizeSS]
  simp [Result.andThen, sliced, cutN]
set_option maxRecDepth 100000 in
theorem cutV_h (a : Option Addr) (n cap j : Nat) (hj : j ≤ cap) (W : World) : (Instr.slice 22 (.slice a n cap) none (some (.int .i64 (j : Int))) none).run Try.prog W = .ok (.slice (cutN a cap 0 7) j cap) W := by
  rw [run_slice_h W 22 a n cap Try.underlying22 .i64 (j : Int) (by omega) (by omega), sizeVS]
  simp [Result.andThen, sliced, cutN]
set_option maxRecDepth 100000 in
theorem cutV_l (a : Option Addr) (n cap i : Nat) (hi : i ≤ n) (W : World) : (Instr.slice 22 (.slice a n cap) (some (.int .i64 (i : Int))) none none).run Try.prog W = .ok (.slice (cutN a cap i 7) (n - i) (cap - i)) W := by
  rw [run_slice_l W 22 a n cap Try.underlying22 .i64 (i : Int) (by omega) (by omega), sizeVS]
  simp [Result.andThen, sliced, cutN]
set_option maxRecDepth 100000 in
/-- A cut of texts. -/
theorem SRow.cut {W : World} {ok : Nat → Prop} {a : Option Addr} {q : List ByteArray} {cap : Nat} (h : SRow W ok a q) (hc : q.length ≤ cap) (i k : Nat) : SRow W ok (cutN a cap i 1) ((q.drop i).take k) := by
  refine ⟨fun x hx => h.1 x (List.mem_of_mem_drop (List.mem_of_mem_take hx)), fun hz => ?_⟩
  have hz1 : q.drop i ≠ [] := by intro e; rw [e] at hz; simp at hz
  have hi : i < q.length := by
    by_cases h : i < q.length
    · exact h
    · exact absurd (List.drop_eq_nil_of_le (by omega)) hz1
  obtain ⟨b, off, rfl, hb, hcc⟩ := h.2 (by intro e; subst e; simp at hi)
  refine ⟨b, off + i, ?_, hb, fun j hj => ?_⟩
  · unfold cutN
    rw [if_neg (by omega)]
    simp [Addr.add_lit]
  · have hj' : i + j < q.length := by simp at hj; omega
    have := hcc (i + j) hj'
    rw [List.getElem_take, List.getElem_drop, Nat.add_assoc]
    exact this
set_option maxRecDepth 100000 in
/-- A cut of values. -/
theorem VRow.cut {W : World} {ok : Nat → Prop} {a : Option Addr} {l : List V} {cap : Nat} (h : VRow W ok a l) (hc : l.length ≤ cap) (i k : Nat) : VRow W ok (cutN a cap i 7) ((l.drop i).take k) := by
  obtain ⟨P, hcl, hin⟩ := h
  refine ⟨fun j => P (i + j), fun hz => ?_, fun j hj => ?_⟩
  · have hz1 : l.drop i ≠ [] := by intro e; rw [e] at hz; simp at hz
    have hi : i < l.length := by
      by_cases h : i < l.length
      · exact h
      · exact absurd (List.drop_eq_nil_of_le (by omega)) hz1
    obtain ⟨b, off, rfl, hb, hcc⟩ := hcl (by intro e; subst e; simp at hi)
    refine ⟨b, off + i * 7, ?_, hb, fun j hj => ?_⟩
    · unfold cutN
      rw [if_neg (by omega)]
      simp [Addr.add_lit]
    · have hj' : i + j < l.length := by simp at hj; omega
      have := hcc (i + j) hj'
      rw [List.getElem_take, List.getElem_drop]
      unfold VAt at *
      have e : off + i * 7 + j * 7 = off + (i + j) * 7 := by omega
      rw [e]
      exact this
  · have hj' : i + j < l.length := by simp at hj; omega
    rw [List.getElem_take, List.getElem_drop]
    exact hin (i + j) hj'
end Go.Proofs.Ytheabeapmhoclaa
