/- What Number and Bytes answer. Conditions: the slice shows fields, fewer than 2^63, their bytes at most 5000 each. -/
import Derived.Test.YtjnipkeadlemiaaFindA
namespace Go.Proofs.Ytjnipkeadlemiaa
open Go.RowKit

def numN (p : Fld → Bool) (fs : List Fld) : Int := ((fs[fs.findIdx p]?).map (fun f => f.n)).getD 0
def bytB (p : Fld → Bool) (fs : List Fld) : List Int := ((fs[fs.findIdx p]?).map (fun f => f.b)).getD []
set_option maxRecDepth 100000 in
theorem any_lt {p : Fld → Bool} {fs : List Fld} (h : fs.any p = true) : fs.findIdx p < fs.length := by
  obtain ⟨f, hf, hp⟩ := List.any_eq_true.1 h
  exact List.findIdx_lt_length_of_exists ⟨f, hf, hp⟩
set_option maxRecDepth 100000 in
theorem none_ge {p : Fld → Bool} {fs : List Fld} (h : fs.any p = false) : fs[fs.findIdx p]? = none := by
  have : fs.findIdx p = fs.length := by
    apply List.findIdx_eq_length_of_false
    intro x hx
    cases hp : p x with
    | false => rfl
    | true => rw [List.any_eq_true.2 ⟨x, hx, hp⟩] at h; cases h
  rw [this]; simp

set_option maxHeartbeats 1600000 in
set_option maxRecDepth 100000 in
theorem number_any (ao : Option Addr) (fs : List Fld) (cap : Nat) (tag : Int) (w : World) (hr : FRow w ao fs) (hm : fs.length ≤ 9223372036854775806) :
    Calls Try.prog 11 #[.slice ao fs.length cap, .int .i64 tag] w fun e w' => e = .returned (.tuple #[.int .u64 (numN (fitB tag false) fs), .bool (fs.any (fitB tag false))]) ∧ Below w.heap.size w w' := by
  have CI : Hid (∀ B W, FRow W ao fs → Of W B tag false → Calls Try.prog 45 #[.slice ao fs.length cap, ofV B] W fun e w' => e = .returned (.int .i64 (idxF (fitB tag false) fs)) ∧ Below W.heap.size W w') := fun B W h1 h2 => ixf_any ao fs cap B tag false W h1 h2 hm
  cases hany : fs.any (fitB tag false) with
  | true =>
    have hlt := any_lt hany
    have hi : idxF (fitB tag false) fs = ((fs.findIdx (fitB tag false) : Nat) : Int) := by rw [idxF, if_pos hany]
    have hn : numN (fitB tag false) fs = (fs[fs.findIdx (fitB tag false)]'hlt).n := by simp [numN, List.getElem?_eq_getElem hlt]
    have HN : Hid (numN (fitB tag false) fs = (fs[fs.findIdx (fitB tag false)]'hlt).n) := hn
    rw [hi] at CI
    clear hany hi hn
    generalize fs.findIdx (fitB tag false) = k at *
    have hz : fs ≠ [] := by intro h; rw [h] at hlt; simp at hlt
    obtain ⟨b0, off, rfl, hc⟩ := hr.2 hz
    obtain ⟨fa, fc, c0, c1, c2, c3, -⟩ := hc k hlt
    have hlt0 : b0 < w.heap.size := World.block_lt_of_cell? w ⟨b0, off + k * 4, none⟩ c0
    clear c0 c1 c3 hc
    generalize fs[k] = f at *
    go_enter Try.func11, Try.ntmps11
    go_wp2_with fail
    refine (of_any tag false _).mono ?_
    rintro e w1 ⟨rfl, ho1, hb1⟩
    go_wp2_with fail
    refine (CI.out _ _ (hr.below hb1) ho1).mono ?_
    rintro e w2 ⟨rfl, hb2⟩
    have hB := hb1.trans (hb2.mono hb1.size)
    have d2 := (hB.cell (p := ⟨b0, off + k * 4 + 2, none⟩) hlt0).trans c2
    have hlt2 : b0 < w2.heap.size := Nat.lt_of_lt_of_le hlt0 hB.size
    go_wp2
    go_ret2
    exact ⟨by rw [HN.out]; rfl, hB⟩
  | false =>
    have hi : idxF (fitB tag false) fs = -1 := by rw [idxF, if_neg (by rw [hany]; simp)]
    have HN : Hid (numN (fitB tag false) fs = 0) := by show numN _ _ = _; simp [numN, none_ge hany]
    rw [hi] at CI
    clear hany hi
    go_enter Try.func11, Try.ntmps11
    go_wp2_with fail
    refine (of_any tag false _).mono ?_
    rintro e w1 ⟨rfl, ho1, hb1⟩
    go_wp2_with fail
    refine (CI.out _ _ (hr.below hb1) ho1).mono ?_
    rintro e w2 ⟨rfl, hb2⟩
    go_wp2
    go_ret2
    exact ⟨by rw [HN.out]; rfl, hb1.trans (hb2.mono hb1.size)⟩

set_option maxHeartbeats 1600000 in
set_option maxRecDepth 100000 in
theorem bytes_any (ao : Option Addr) (fs : List Fld) (cap : Nat) (tag : Int) (w : World) (hr : FRow w ao fs) (hm : fs.length ≤ 9223372036854775806) (h5 : ∀ f ∈ fs, f.b.length ≤ 5000) :
    Calls Try.prog 12 #[.slice ao fs.length cap, .int .i64 tag] w fun e w' => ∃ a c, e = .returned (.tuple #[.slice a (bytB (fitB tag true) fs).length c, .bool (fs.any (fitB tag true))]) ∧ Row w' a (bytB (fitB tag true) fs) ∧ Below w.heap.size w w' := by
  have CI : Hid (∀ B W, FRow W ao fs → Of W B tag true → Calls Try.prog 45 #[.slice ao fs.length cap, ofV B] W fun e w' => e = .returned (.int .i64 (idxF (fitB tag true) fs)) ∧ Below W.heap.size W w') := fun B W h1 h2 => ixf_any ao fs cap B tag true W h1 h2 hm
  cases hany : fs.any (fitB tag true) with
  | true =>
    have hlt := any_lt hany
    have hi : idxF (fitB tag true) fs = ((fs.findIdx (fitB tag true) : Nat) : Int) := by rw [idxF, if_pos hany]
    have hn : bytB (fitB tag true) fs = (fs[fs.findIdx (fitB tag true)]'hlt).b := by simp [bytB, List.getElem?_eq_getElem hlt]
    rw [hi] at CI
    rw [hn]
    clear hany hi hn
    generalize fs.findIdx (fitB tag true) = k at *
    have hz : fs ≠ [] := by intro h; rw [h] at hlt; simp at hlt
    obtain ⟨b0, off, rfl, hc⟩ := hr.2 hz
    obtain ⟨fa, fc, c0, c1, c2, c3, hsh⟩ := hc k hlt
    have h5k := h5 fs[k] (List.getElem_mem hlt)
    have hlt0 : b0 < w.heap.size := World.block_lt_of_cell? w ⟨b0, off + k * 4, none⟩ c0
    clear c0 c1 c2 hc
    generalize fs[k] = f at *
    go_enter Try.func12, Try.ntmps12
    go_wp2_with fail
    refine (of_any tag true _).mono ?_
    rintro e w1 ⟨rfl, ho1, hb1⟩
    go_wp2_with fail
    refine (CI.out _ _ (hr.below hb1) ho1).mono ?_
    rintro e w2 ⟨rfl, hb2⟩
    have hB := hb1.trans (hb2.mono hb1.size)
    have d3 := (hB.cell (p := ⟨b0, off + k * 4 + 3, none⟩) hlt0).trans c3
    have hlt2 : b0 < w2.heap.size := Nat.lt_of_lt_of_le hlt0 hB.size
    have hsh2 := hsh.below hB
    go_wp2_with fail
    refine (fresh_any fa f.b fc _ hsh2.1 hsh2.2.1 (by omega)).mono ?_
    rintro e w3 ⟨a3, c3', rfl, hr3, -, -, -, -, hb3⟩
    go_wp2
    go_ret2
    exact ⟨a3, c3', rfl, hr3, hB.trans (hb3.mono hB.size)⟩
  | false =>
    have hi : idxF (fitB tag true) fs = -1 := by rw [idxF, if_neg (by rw [hany]; simp)]
    have hn : bytB (fitB tag true) fs = [] := by simp [bytB, none_ge hany]
    rw [hi] at CI
    rw [hn]
    clear hany hi hn
    go_enter Try.func12, Try.ntmps12
    go_wp2_with fail
    refine (of_any tag true _).mono ?_
    rintro e w1 ⟨rfl, ho1, hb1⟩
    go_wp2_with fail
    refine (CI.out _ _ (hr.below hb1) ho1).mono ?_
    rintro e w2 ⟨rfl, hb2⟩
    go_wp2
    go_ret2
    exact ⟨none, 0, rfl, Row.nil _ _, hb1.trans (hb2.mono hb1.size)⟩
end Go.Proofs.Ytjnipkeadlemiaa
