/- What mixed, mayStand and tooMuch answer. Conditions: the slices show fields. -/
import Derived.Test.YtjnipkeadlemiaaFld
import Derived.Test.YtjnipkeadlemiaaVarA
import Derived.Deep.DeepMust
namespace Go.Proofs.Ytjnipkeadlemiaa
open Go.RowKit

def mixedB (f : Fld) : Bool := if f.isB then f.n != 0 else decide (0 < f.b.length)
set_option maxRecDepth 100000 in
theorem mixed_any (f : Fld) (a : Option Addr) (c : Nat) (w : World) : Calls Try.prog 83 #[f.val a c] w fun e w' => e = .returned (.bool (mixedB f)) ∧ Below w.heap.size w w' := by
  obtain ⟨tag, isB, n, b⟩ := f
  cases isB
  · have E : Hid (mixedB ⟨tag, false, n, b⟩ = decide (0 < b.length)) := by show mixedB _ = _; simp [mixedB]
    unfold Fld.val
    go_enter Try.func83, Try.ntmps83
    go_wp2
    go_ret
    exact ⟨ret_bool E.out.symm, (Below.refl _ _).alloc (Nat.le_refl _) _⟩
  · have E : Hid (mixedB ⟨tag, true, n, b⟩ = (n != 0)) := by show mixedB _ = _; simp [mixedB]
    unfold Fld.val
    go_enter Try.func83, Try.ntmps83
    go_wp2
    go_ret
    exact ⟨ret_bool E.out.symm, (Below.refl _ _).alloc (Nat.le_refl _) _⟩

/-- May a field stand behind those ahead? -/
def fmay (ahead : List Fld) (f : Fld) : Bool :=
  if f.tag < 1 ∨ 1000 < f.tag then false else match ahead.getLast? with
    | none => true
    | some l => if f.tag = l.tag then f.isB && l.isB else decide (l.tag < f.tag)
set_option maxRecDepth 100000 in
theorem fmay_any (ao : Option Addr) (fs : List Fld) (cap : Nat) (f : Fld) (a : Option Addr) (c : Nat) (w : World) (hr : FRow w ao fs) (hm : fs.length ≤ 9223372036854775807) :
    Calls Try.prog 82 #[.slice ao fs.length cap, f.val a c] w fun e w' => e = .returned (.bool (fmay fs f)) ∧ Below w.heap.size w w' := by
  obtain ⟨tag, isB, n, b⟩ := f
  by_cases h1 : tag < 1
  · have E : Hid (fmay fs ⟨tag, isB, n, b⟩ = false) := by show fmay _ _ = _; simp [fmay, h1]
    unfold Fld.val
    clear hr
    go_enter Try.func82, Try.ntmps82
    go_wp2
    go_ret
    exact ⟨ret_bool E.out.symm, (Below.refl _ _).alloc (Nat.le_refl _) _⟩
  by_cases h2 : 1000 < tag
  · have E : Hid (fmay fs ⟨tag, isB, n, b⟩ = false) := by show fmay _ _ = _; simp [fmay, h2]
    unfold Fld.val
    clear hr
    go_enter Try.func82, Try.ntmps82
    go_wp2
    go_ret
    exact ⟨ret_bool E.out.symm, (Below.refl _ _).alloc (Nat.le_refl _) _⟩
  by_cases hz : fs = []
  · subst hz
    have E : Hid (fmay [] ⟨tag, isB, n, b⟩ = true) := by show fmay _ _ = _; simp [fmay]; omega
    unfold Fld.val
    clear hr
    go_enter Try.func82, Try.ntmps82
    go_wp2
    go_ret
    exact ⟨ret_bool E.out.symm, (Below.refl _ _).alloc (Nat.le_refl _) _⟩
  · obtain ⟨k, hk⟩ : ∃ k, fs.length = k + 1 := ⟨fs.length - 1, by have := List.length_pos_iff.2 hz; omega⟩
    obtain ⟨b0, off, rfl, hc⟩ := hr.2 hz
    obtain ⟨la, lc, c0, c1, c2, c3, -⟩ := hc k (by omega)
    have hlast : fs.getLast? = some fs[k] := by rw [List.getLast?_eq_getElem?, show fs.length - 1 = k by omega]; exact List.getElem?_eq_getElem (by omega)
    generalize fs[k] = l at *
    obtain ⟨ltag, lB, ln, lb⟩ := l
    simp only at c0 c1 c2 c3
    have hE : fmay fs ⟨tag, isB, n, b⟩ = if tag = ltag then isB && lB else decide (ltag < tag) := by
      have : ¬ (tag < 1 ∨ 1000 < tag) := by omega
      simp [fmay, this, hlast]
    have E : Hid (fmay fs ⟨tag, isB, n, b⟩ = if tag = ltag then isB && lB else decide (ltag < tag)) := hE
    unfold Fld.val
    clear hr hc hlast hE
    rw [hk]
    have hne : (((k + 1 : Nat) : Int) == 0) = false := by rw [beq_eq_false_iff_ne]; omega
    have hkm : k ≤ 9223372036854775806 := by omega
    have hlt : b0 < w.heap.size := World.block_lt_of_cell? w ⟨b0, off + k * 4, none⟩ c0
    clear hz hk
    by_cases ht : tag = ltag
    · subst ht
      cases isB
      · go_enter Try.func82, Try.ntmps82
        go_wp2
        go_ret
        exact ⟨ret_bool (by rw [E.out]; simp), ((Below.refl _ _).alloc (Nat.le_refl _) _).alloc (by simp) _⟩
      · go_enter Try.func82, Try.ntmps82
        go_wp2
        go_ret
        exact ⟨ret_bool (by rw [E.out]; simp), ((Below.refl _ _).alloc (Nat.le_refl _) _).alloc (by simp) _⟩
    · have ht' : (tag == ltag) = false := by simpa using ht
      go_enter Try.func82, Try.ntmps82
      go_wp2
      go_ret
      exact ⟨ret_bool (by rw [E.out, if_neg ht]), ((Below.refl _ _).alloc (Nat.le_refl _) _).alloc (by simp) _⟩

/-- How many bytes fields have. -/
def blen (fs : List Fld) : Nat := (fs.map fun f => f.b.length).sum
set_option maxRecDepth 100000 in
theorem blen_snoc (fs : List Fld) (f : Fld) : blen (fs ++ [f]) = blen fs + f.b.length := by simp [blen]
set_option maxRecDepth 100000 in
theorem blen_take_le : ∀ (fs : List Fld) (k : Nat), blen (fs.take k) ≤ blen fs
  | [], k => by simp
  | f :: fs, 0 => by simp [blen]
  | f :: fs, k + 1 => by
    have h := blen_take_le fs k
    simp only [blen] at h
    simp only [List.take_succ_cons, blen, List.map_cons, List.sum_cons]
    omega
def tooB (fs : List Fld) : Bool := decide (64 < fs.length) || decide (4096 < blen fs)

set_option maxHeartbeats 1600000 in
set_option maxRecDepth 100000 in
theorem too_any (ao : Option Addr) (fs : List Fld) (cap : Nat) (w : World) (hr : FRow w ao fs) (hm : fs.length ≤ 9223372036854775807) :
    Calls Try.prog 81 #[.slice ao fs.length cap] w fun e w' => e = .returned (.bool (tooB fs)) ∧ Below w.heap.size w w' := by
  by_cases h64 : 64 < fs.length
  · have E : Hid (tooB fs = true) := by show tooB fs = _; simp [tooB, h64]
    clear hr
    go_enter Try.func81, Try.ntmps81
    go_wp2
    go_ret
    exact ⟨ret_bool E.out.symm, Below.refl _ _⟩
  have E : Hid (tooB fs = decide (4096 < blen fs)) := by show tooB fs = _; simp [tooB, h64]
  by_cases hz : fs = []
  · subst hz
    clear hr
    go_enter Try.func81, Try.ntmps81
    go_wp2
    refine wp_loop_rounds 1 ?_
    rw [rounds_succ]
    go_wp2
    go_ret
    exact ⟨ret_bool E.out.symm, Below.refl _ _⟩
  · obtain ⟨b0, off, rfl, hc⟩ := hr.2 hz
    go_enter Try.func81, Try.ntmps81
    go_wp2
    go_loopw [3, 11] (fun sr si wr => ∃ (k : Nat) (room : Int), k ≤ fs.length ∧ si = .int .i64 k ∧ sr = .int .i64 room ∧ 0 ≤ room ∧ room ≤ 4096 ∧ Hid (room = 4096 - (blen (fs.take k) : Int)) ∧ Below w.heap.size w wr) (fun _ si _ => fs.length - (intOf si).toNat)
    case atStart => exact ⟨0, 4096, by omega, rfl, rfl, by omega, by omega, by simp [Hid, blen], Below.refl _ _⟩
    case round =>
      obtain ⟨k, room, hk, rfl, rfl, hr0, hr1, hroom, hb⟩ := hrel
      by_cases hlt : k < fs.length
      · obtain ⟨fa, fc, c0, c1, c2, c3, hsh⟩ := (hc k hlt)
        have hlt0 : b0 < w.heap.size := World.block_lt_of_cell? w ⟨b0, off + k * 4, none⟩ c0
        have d0 := (hb.cell (p := ⟨b0, off + k * 4, none⟩) hlt0).trans c0
        have d1 := (hb.cell (p := ⟨b0, off + k * 4 + 1, none⟩) hlt0).trans c1
        have d2 := (hb.cell (p := ⟨b0, off + k * 4 + 2, none⟩) hlt0).trans c2
        have d3 := (hb.cell (p := ⟨b0, off + k * 4 + 3, none⟩) hlt0).trans c3
        have htk : fs.take (k + 1) = fs.take k ++ [fs[k]] := List.take_succ_eq_append_getElem hlt
        have hbl : blen (fs.take (k + 1)) = blen (fs.take k) + (fs[k]).b.length := by rw [htk, blen_snoc]
        have hmax := hsh.2.2.2
        have hle := hsh.2.2.1
        unfold maxLen at hmax
        have HB : Hid (blen (fs.take (k + 1)) = blen (fs.take k) + (fs[k]).b.length) := hbl
        have hlt1 : b0 < wr.heap.size := Nat.lt_of_lt_of_le hlt0 hb.size
        clear c0 c1 c2 c3 htk hbl hsh hc hr
        generalize fs[k] = f at *
        obtain ⟨tag, isB, n, b⟩ := f
        simp only at d0 d1 d2 d3 hle
        by_cases hgt : room < (b.length : Int)
        · have E2 : Hid (tooB fs = true) := by
            show tooB fs = _
            rw [E.out, decide_eq_true_iff]
            have h1 := blen_take_le fs (k + 1)
            have h2 := hroom.out
            have h3 := HB.out
            simp only at h3
            omega
          clear E
          go_wp2
          go_ret
          exact ⟨ret_bool E2.out.symm, hb.alloc hb.size _⟩
        · go_wp2
          go_roundw
          case rel => exact ⟨k + 1, room - b.length, by omega, by go_num, rfl, by omega, by omega, by have h2 := hroom.out; have h3 := HB.out; simp only at h3; show _ = _; omega, hb.alloc hb.size _⟩
          case measure => simp [intOf]; omega
      · have E2 : Hid (tooB fs = false) := by
          show tooB fs = _
          rw [E.out, decide_eq_false_iff_not]
          have h2 := hroom.out
          rw [List.take_of_length_le (by omega)] at h2
          omega
        clear E hr hc
        go_wp2
        go_ret
        exact ⟨ret_bool E2.out.symm, hb⟩
end Go.Proofs.Ytjnipkeadlemiaa
