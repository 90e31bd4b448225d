/- What Only answers: has each field one of the tags? Conditions: the slices show fields and ints. -/
import Derived.Test.YtjnipkeadlemiaaFindA
namespace Go.Proofs.Ytjnipkeadlemiaa
open Go.RowKit

/-- Ints in memory. -/
def IRow (w : World) (a : Option Addr) (ts : List Int) : Prop := ts ≠ [] → ∃ b off, a = some ⟨b, off, none⟩ ∧ ∀ j (hj : j < ts.length), w.cell? ⟨b, off + j, none⟩ = some (.int .i64 ts[j])
set_option maxRecDepth 100000 in
theorem IRow.below {w w' : World} {a : Option Addr} {ts : List Int} (h : IRow w a ts) (hb : Below w.heap.size w w') : IRow w' a ts := fun hz => by
  obtain ⟨b, off, rfl, hc⟩ := h hz
  exact ⟨b, off, rfl, fun j hj => (hb.cell (p := ⟨b, off + j, none⟩) (World.block_lt_of_cell? w ⟨b, off + j, none⟩ (hc j hj))).trans (hc j hj)⟩

set_option maxHeartbeats 1600000 in
set_option maxRecDepth 100000 in
/-- Where an int is the first time: not below 0 just if it is there. -/
theorem ix_any (ao : Option Addr) (ts : List Int) (cap : Nat) (t : Int) (w : World) (hr : IRow w ao ts) (hm : ts.length ≤ 9223372036854775806) :
    Calls Try.prog 88 #[.slice ao ts.length cap, .int .i64 t] w fun e w' => (∃ r : Int, e = .returned (.int .i64 r) ∧ (decide (0 ≤ r)) = ts.contains t) ∧ w = w' := by
  go_enter Try.func88, Try.ntmps88
  go_wp2
  go_loopw [8] (fun si wr => ∃ k : Nat, k ≤ ts.length ∧ si = .int .i64 k ∧ Hid (∀ j (hj : j < k) (hj' : j < ts.length), ts[j] ≠ t) ∧ w = wr) (fun si _ => ts.length - (intOf si).toNat)
  case atStart => exact ⟨0, by omega, rfl, (fun j hj => by omega), rfl⟩
  case round =>
    obtain ⟨k, hk, rfl, hid, rfl⟩ := hrel
    by_cases hlt : k < ts.length
    · have hz : ts ≠ [] := by intro h; rw [h] at hlt; simp at hlt
      obtain ⟨b0, off, rfl, hc⟩ := hr hz
      have c0 := hc k hlt
      have hlt0 : b0 < w.heap.size := World.block_lt_of_cell? w ⟨b0, off + k, none⟩ c0
      clear hc hr
      by_cases h1 : t = ts[k]
      · have hv : Hid (ts.contains t = true) := by show ts.contains t = true; rw [h1]; simp
        have h1' : (t == ts[k]) = true := by simpa using h1
        go_wp2
        go_ret
        exact ⟨⟨(k : Int), rfl, by rw [hv.out]; simp⟩, rfl⟩
      · have h1' : (t == ts[k]) = false := by simpa using h1
        have hn : Hid (∀ j (hj : j < k + 1) (hj' : j < ts.length), ts[j] ≠ t) := fun j hj hj' => by
          by_cases e : j = k
          · subst e; exact fun e => h1 e.symm
          · exact hid.out j (by omega) hj'
        clear h1
        go_wp2
        go_roundw
        case rel => exact ⟨k + 1, by omega, by go_num, hn, by trivial⟩
        case measure => simp [intOf]; omega
    · have hv : Hid (ts.contains t = false) := by
        show ts.contains t = false
        rw [List.contains_eq_mem, decide_eq_false_iff_not]
        intro hm
        obtain ⟨j, hj, e⟩ := List.getElem_of_mem hm
        exact hid.out j (by omega) hj e
      go_wp2
      go_ret
      exact ⟨⟨-1, rfl, by rw [hv.out]; simp⟩, rfl⟩

set_option maxRecDepth 100000 in
theorem ct_any (ao : Option Addr) (ts : List Int) (cap : Nat) (t : Int) (w : World) (hr : IRow w ao ts) (hm : ts.length ≤ 9223372036854775806) :
    Calls Try.prog 50 #[.slice ao ts.length cap, .int .i64 t] w fun e w' => e = .returned (.bool (ts.contains t)) ∧ w = w' := by
  go_enter Try.func50, Try.ntmps50
  go_wp2_with fail
  refine (ix_any ao ts cap t _ hr hm).mono ?_
  rintro e w' ⟨⟨r, rfl, hd⟩, rfl⟩
  have HD : Hid (decide (0 ≤ r) = ts.contains t) := hd
  clear hd
  go_wp2
  go_ret
  exact ⟨ret_bool HD.out, rfl⟩

/-- The function that Only hands on: its variable in memory. -/
def onV (B : Nat) : Value := .func (.func 49) #[] #[.pointer (some ⟨B, 0, none⟩)]
def noneOf (ts : List Int) (f : Fld) : Bool := !ts.contains f.tag
set_option maxRecDepth 100000 in
theorem idxF_any (p : Fld → Bool) (fs : List Fld) : decide (0 ≤ idxF p fs) = fs.any p := by
  unfold idxF
  cases fs.any p <;> simp

set_option maxRecDepth 100000 in
theorem only1_any (t : Int) (isB : Bool) (n : Int) (x : Value) (B : Nat) (bo : Option Addr) (ts : List Int) (tc : Nat) (w : World) (ho : w.cell? ⟨B, 0, none⟩ = some (.slice bo ts.length tc)) (hi : IRow w bo ts) (hm2 : ts.length ≤ 9223372036854775806) :
    Calls Try.prog 49 #[.agg #[.int .i64 t, .bool isB, .int .u64 n, x], .pointer (some ⟨B, 0, none⟩)] w fun e w' => e = .returned (.bool (!ts.contains t)) ∧ Below w.heap.size w w' := by
  have hB0 := World.block_lt_of_cell? w ⟨B, 0, none⟩ ho
  simp only at hB0
  have CC : Hid (∀ W, IRow W bo ts → Calls Try.prog 50 #[.slice bo ts.length tc, .int .i64 t] W fun e w' => e = .returned (.bool (ts.contains t)) ∧ W = w') := fun W h => ct_any bo ts tc t W h hm2
  generalize ts.contains t = ct at *
  go_enter Try.func49, Try.ntmps49
  go_wp2_with fail
  refine (CC.out _ (hi.below ((Below.refl _ _).alloc (Nat.le_refl _) _))).mono ?_
  rintro e w1 ⟨rfl, rfl⟩
  go_wp2
  go_ret
  exact ⟨rfl, (Below.refl _ _).alloc (Nat.le_refl _) _⟩

set_option maxHeartbeats 1600000 in
set_option maxRecDepth 100000 in
theorem ixf2_any (ao : Option Addr) (fs : List Fld) (cap : Nat) (B : Nat) (bo : Option Addr) (ts : List Int) (tc : Nat) (w : World) (hr : FRow w ao fs) (ho : w.cell? ⟨B, 0, none⟩ = some (.slice bo ts.length tc)) (hi : IRow w bo ts) (hm : fs.length ≤ 9223372036854775806) (hm2 : ts.length ≤ 9223372036854775806) :
    Calls Try.prog 45 #[.slice ao fs.length cap, onV B] w fun e w' => e = .returned (.int .i64 (idxF (noneOf ts) fs)) ∧ Below w.heap.size w w' := by
  unfold onV
  go_enter Try.func45, Try.ntmps45
  go_wp2
  go_loopw [8] (fun si wr => ∃ k : Nat, k ≤ fs.length ∧ si = .int .i64 k ∧ Hid (∀ j (hj : j < k) (hj' : j < fs.length), noneOf ts fs[j] = false) ∧ Below w.heap.size w wr) (fun si _ => fs.length - (intOf si).toNat)
  case atStart => exact ⟨0, by omega, rfl, (fun j hj => by omega), Below.refl _ _⟩
  case round =>
    obtain ⟨k, hk, rfl, hid, hb⟩ := hrel
    by_cases hlt : k < fs.length
    · have hz : fs ≠ [] := by intro h; rw [h] at hlt; simp at hlt
      obtain ⟨b0, off, rfl, hc⟩ := hr.2 hz
      obtain ⟨fa, fc, c0, c1, c2, c3, -⟩ := hc k hlt
      have hlt0 : b0 < w.heap.size := World.block_lt_of_cell? w ⟨b0, off + k * 4, none⟩ c0
      have d0 := (hb.cell (p := ⟨b0, off + k * 4, none⟩) hlt0).trans c0
      have d1 := (hb.cell (p := ⟨b0, off + k * 4 + 1, none⟩) hlt0).trans c1
      have d2 := (hb.cell (p := ⟨b0, off + k * 4 + 2, none⟩) hlt0).trans c2
      have d3 := (hb.cell (p := ⟨b0, off + k * 4 + 3, none⟩) hlt0).trans c3
      have hB0 := World.block_lt_of_cell? w ⟨B, 0, none⟩ ho
      have e0 := (hb.cell (p := ⟨B, 0, none⟩) hB0).trans ho
      simp only at hB0
      have hB2 : B < wr.heap.size := Nat.lt_of_lt_of_le hB0 hb.size
      have hir := hi.below hb
      clear c0 c1 c2 c3 hc
      generalize hfk : fs[k] = f at *
      have HF : Hid (fs[k] = f) := hfk
      clear hfk
      obtain ⟨t, isB, n, b⟩ := f
      simp only at d0 d1 d2 d3
      have HE : Hid (noneOf ts ⟨t, isB, n, b⟩ = !ts.contains t) := rfl
      go_wp2_with fail
      refine (only1_any t isB n _ B bo ts tc _ e0 hir hm2).mono ?_
      rintro e w1 ⟨rfl, hb1⟩
      have hB1 := hb.trans (hb1.mono hb.size)
      clear hir e0 d0 d1 d2 d3
      cases hct : ts.contains t with
      | false =>
        have hv : Hid (idxF (noneOf ts) fs = k) := idxF_at hlt (by rw [HF.out, HE.out, hct]; rfl) (fun j hj => hid.out j hj (by omega))
        clear hct
        go_wp2
        go_ret
        exact ⟨ret_int hv.out.symm, hB1⟩
      | true =>
        have hn : Hid (∀ j (hj : j < k + 1) (hj' : j < fs.length), noneOf ts fs[j] = false) := fun j hj hj' => by
          by_cases e : j = k
          · subst e; rw [HF.out, HE.out, hct]; rfl
          · exact hid.out j (by omega) hj'
        clear hct
        go_wp2
        go_roundw
        case rel => exact ⟨k + 1, by omega, by go_num, hn, hB1⟩
        case measure => simp [intOf]; omega
    · have hv : Hid (idxF (noneOf ts) fs = -1) := idxF_none (fun j hj => hid.out j (by omega) hj)
      go_wp2
      go_ret
      exact ⟨ret_int hv.out.symm, hb⟩

set_option maxRecDepth 100000 in
theorem only_any (ao : Option Addr) (fs : List Fld) (cap : Nat) (bo : Option Addr) (ts : List Int) (tc : Nat) (w : World) (hr : FRow w ao fs) (hi : IRow w bo ts) (hm : fs.length ≤ 9223372036854775806) (hm2 : ts.length ≤ 9223372036854775806) :
    Calls Try.prog 14 #[.slice ao fs.length cap, .slice bo ts.length tc] w fun e w' => e = .returned (.bool (!fs.any (noneOf ts))) ∧ Below w.heap.size w w' := by
  have C1 : Hid (∀ B W, FRow W ao fs → W.cell? ⟨B, 0, none⟩ = some (.slice bo ts.length tc) → IRow W bo ts → Calls Try.prog 48 #[.slice ao fs.length cap, onV B] W fun e w' => e = .returned (.bool (fs.any (noneOf ts))) ∧ Below W.heap.size W w') := fun B W h1 h2 h3 => by
    have HA : Hid (decide (0 ≤ idxF (noneOf ts) fs) = fs.any (noneOf ts)) := idxF_any _ _
    go_enter Try.func48, Try.ntmps48
    go_wp2_with fail
    refine (ixf2_any ao fs cap B bo ts tc _ h1 h2 h3 hm hm2).mono ?_
    rintro e w1 ⟨rfl, hb1⟩
    go_wp2
    go_ret
    exact ⟨ret_bool HA.out, hb1⟩
  go_enter Try.func14, Try.ntmps14
  go_wp2_with fail
  have hbA : Below w.heap.size w (w.alloc (.cells #[.slice bo ts.length tc] 23)) := (Below.refl _ _).alloc (Nat.le_refl _) _
  refine (C1.out w.heap.size _ (hr.below hbA) (by simp) (hi.below hbA)).mono ?_
  rintro e w1 ⟨rfl, hb1⟩
  go_wp2
  go_ret
  exact ⟨rfl, hbA.trans (hb1.mono (by simp))⟩
end Go.Proofs.Ytjnipkeadlemiaa
