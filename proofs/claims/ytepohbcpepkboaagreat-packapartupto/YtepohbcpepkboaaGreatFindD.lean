/- What Many answers: the bytes of all fields of a tag. Conditions: the slice shows at most 80 fields, their bytes at most 5000 each. -/
import Derived.Test.YtepohbcpepkboaaGreatFld
import Derived.Test.YtepohbcpepkboaaGreatMsgE
import Derived.Test.YtepohbcpepkboaaGreatFOwn
import Derived.Maps.AppendAt
namespace Go.Proofs.YtepohbcpepkboaaGreat
open Go.RowKit

/-- Has a field this tag, and is it of this kind? -/
def fitB (tag : Int) (b : Bool) (f : Fld) : Bool := (f.tag == tag) && (f.isB == b)
/-- Where the first field is that p takes; -1: nowhere. -/
def idxF (p : Fld → Bool) (fs : List Fld) : Int := if fs.any p then (fs.findIdx p : Int) else -1
set_option maxRecDepth 100000 in
theorem idxF_at {p : Fld → Bool} {fs : List Fld} {k : Nat} (hk : k < fs.length) (h : p fs[k] = true) (hb : ∀ j (hj : j < k), p (fs[j]'(by omega)) = false) : idxF p fs = k := by
  have h1 : fs.any p = true := List.any_eq_true.2 ⟨fs[k], List.getElem_mem hk, h⟩
  have h2 : fs.findIdx p = k := (List.findIdx_eq hk).2 ⟨h, hb⟩
  rw [idxF, if_pos h1, h2]
set_option maxRecDepth 100000 in
theorem idxF_none {p : Fld → Bool} {fs : List Fld} (hb : ∀ j (hj : j < fs.length), p fs[j] = false) : idxF p fs = -1 := by
  have h1 : ¬ fs.any p = true := by
    intro h
    obtain ⟨f, hf, hp⟩ := List.any_eq_true.1 h
    obtain ⟨j, hj, rfl⟩ := List.getElem_of_mem hf
    rw [hb j hj] at hp; cases hp
  rw [idxF, if_neg h1]

/-- What of hands out: its two variables in memory. -/
def ofV (B : Nat) : Value := .func (.func 109) #[] #[.pointer (some ⟨B, 0, none⟩), .pointer (some ⟨B + 1, 0, none⟩)]
def Of (w : World) (B : Nat) (tag : Int) (b : Bool) : Prop := w.cell? ⟨B, 0, none⟩ = some (.int .i64 tag) ∧ w.cell? ⟨B + 1, 0, none⟩ = some (.bool b)
set_option maxRecDepth 100000 in
theorem Of.below {w w' : World} {B : Nat} {tag : Int} {b : Bool} (h : Of w B tag b) (hb : Below w.heap.size w w') : Of w' B tag b :=
  ⟨(hb.cell (p := ⟨B, 0, none⟩) (World.block_lt_of_cell? w ⟨B, 0, none⟩ h.1)).trans h.1, (hb.cell (p := ⟨B + 1, 0, none⟩) (World.block_lt_of_cell? w ⟨B + 1, 0, none⟩ h.2)).trans h.2⟩
set_option maxRecDepth 100000 in
theorem of_any (tag : Int) (b : Bool) (w : World) : Calls Tryz.prog 99 #[.int .i64 tag, .bool b] w fun e w' => e = .returned (ofV w.heap.size) ∧ Of w' w.heap.size tag b ∧ Below w.heap.size w w' := by
  go_enter Tryz.func99, Tryz.ntmps99
  go_wp2
  go_ret
  refine ⟨rfl, ⟨?_, ?_⟩, ((Below.refl _ _).alloc (Nat.le_refl _) _).alloc (by simp) _⟩
  · simp
  · simp

set_option maxHeartbeats 1600000 in
set_option maxRecDepth 100000 in
theorem ixf_any (ao : Option Addr) (fs : List Fld) (cap : Nat) (B : Nat) (tag : Int) (kb : Bool) (w : World) (hr : FRow w ao fs) (ho : Of w B tag kb) (hm : fs.length ≤ 9223372036854775806) :
    Calls Tryz.prog 98 #[.slice ao fs.length cap, ofV B] w fun e w' => e = .returned (.int .i64 (idxF (fitB tag kb) fs)) ∧ Below w.heap.size w w' := by
  unfold ofV
  go_enter Tryz.func98, Tryz.ntmps98
  go_wp2
  go_loopw [8] (fun si wr => ∃ k : Nat, k ≤ fs.length ∧ si = .int .i64 k ∧ Hid (∀ j (hj : j < k) (hj' : j < fs.length), fitB tag kb fs[j] = false) ∧ Below w.heap.size w wr) (fun si _ => fs.length - (intOf si).toNat)
  case atStart => exact ⟨0, by omega, rfl, (fun j hj => by omega), Below.refl _ _⟩
  case round =>
    obtain ⟨k, hk, rfl, hid, hb⟩ := hrel
    by_cases hlt : k < fs.length
    · have hz : fs ≠ [] := by intro h; rw [h] at hlt; simp at hlt
      obtain ⟨b0, off, rfl, hc⟩ := hr.2 hz
      obtain ⟨fa, fc, c0, c1, c2, c3, -⟩ := hc k hlt
      have hlt0 : b0 < w.heap.size := World.block_lt_of_cell? w ⟨b0, off + k * 4, none⟩ c0
      have d0 := (hb.cell (p := ⟨b0, off + k * 4, none⟩) hlt0).trans c0
      have d1 := (hb.cell (p := ⟨b0, off + k * 4 + 1, none⟩) hlt0).trans c1
      have d2 := (hb.cell (p := ⟨b0, off + k * 4 + 2, none⟩) hlt0).trans c2
      have d3 := (hb.cell (p := ⟨b0, off + k * 4 + 3, none⟩) hlt0).trans c3
      have hB0 := World.block_lt_of_cell? w ⟨B, 0, none⟩ ho.1
      have hB1 := World.block_lt_of_cell? w ⟨B + 1, 0, none⟩ ho.2
      have e0 := (hb.cell (p := ⟨B, 0, none⟩) hB0).trans ho.1
      have e1 := (hb.cell (p := ⟨B + 1, 0, none⟩) hB1).trans ho.2
      simp only at hB0 hB1
      have hB2 : B < wr.heap.size := Nat.lt_of_lt_of_le hB0 hb.size
      have hB3 : B + 1 < wr.heap.size := Nat.lt_of_lt_of_le hB1 hb.size
      have HP : Hid (∀ f : Fld, f = fs[k] → fitB tag kb fs[k] = fitB tag kb f) := fun f hf => by rw [hf]
      clear c0 c1 c2 c3 hc
      generalize hfk : fs[k] = f at *
      have HF : Hid (fs[k] = f) := hfk
      clear hfk HP
      obtain ⟨t, isB, n, b⟩ := f
      simp only at d0 d1 d2 d3
      have hE : fitB tag kb ⟨t, isB, n, b⟩ = ((t == tag) && (isB == kb)) := rfl
      have HE : Hid (fitB tag kb ⟨t, isB, n, b⟩ = ((t == tag) && (isB == kb))) := hE
      clear hE
      by_cases h1 : t = tag
      · subst h1
        by_cases h2 : isB = kb
        · subst h2
          have hv : Hid (idxF (fitB t isB) fs = k) := idxF_at hlt (by rw [HF.out, HE.out]; simp) (fun j hj => hid.out j hj (by omega))
          go_wp2
          go_ret
          exact ⟨ret_int hv.out.symm, hb.alloc hb.size _⟩
        · have h2' : (isB == kb) = false := by simpa using h2
          have hn : Hid (∀ j (hj : j < k + 1) (hj' : j < fs.length), fitB t kb fs[j] = false) := fun j hj hj' => by
            by_cases e : j = k
            · subst e; rw [HF.out, HE.out, h2']; simp
            · exact hid.out j (by omega) hj'
          go_wp2
          go_roundw
          case rel => exact ⟨k + 1, by omega, by go_num, hn, hb.alloc hb.size _⟩
          case measure => simp [intOf]; omega
      · have h1' : (t == tag) = false := by simpa using h1
        have hn : Hid (∀ j (hj : j < k + 1) (hj' : j < fs.length), fitB tag kb fs[j] = false) := fun j hj hj' => by
          by_cases e : j = k
          · subst e; rw [HF.out, HE.out, h1']; simp
          · exact hid.out j (by omega) hj'
        go_wp2
        go_roundw
        case rel => exact ⟨k + 1, by omega, by go_num, hn, hb.alloc hb.size _⟩
        case measure => simp [intOf]; omega
    · have hv : Hid (idxF (fitB tag kb) fs = -1) := idxF_none (fun j hj => hid.out j (by omega) hj)
      go_wp2
      go_ret
      exact ⟨ret_int hv.out.symm, hb⟩
end Go.Proofs.YtepohbcpepkboaaGreat

namespace Go.Proofs.YtepohbcpepkboaaGreat
open Go.RowKit

def numN (p : Fld → Bool) (fs : List Fld) : Int := ((fs[fs.findIdx p]?).map (fun f => f.n)).getD 0
def bytB (p : Fld → Bool) (fs : List Fld) : List Int := ((fs[fs.findIdx p]?).map (fun f => f.b)).getD []
set_option maxRecDepth 100000 in
theorem any_lt {p : Fld → Bool} {fs : List Fld} (h : fs.any p = true) : fs.findIdx p < fs.length := by
  obtain ⟨f, hf, hp⟩ := List.any_eq_true.1 h
  exact List.findIdx_lt_length_of_exists ⟨f, hf, hp⟩
set_option maxRecDepth 100000 in
theorem none_ge {p : Fld → Bool} {fs : List Fld} (h : fs.any p = false) : fs[fs.findIdx p]? = none := by
  have : fs.findIdx p = fs.length := by
    apply List.findIdx_eq_length_of_false
    intro x hx
    cases hp : p x with
    | false => rfl
    | true => rw [List.any_eq_true.2 ⟨x, hx, hp⟩] at h; cases h
  rw [this]; simp

set_option maxHeartbeats 1600000 in
set_option maxRecDepth 100000 in
theorem number_any (ao : Option Addr) (fs : List Fld) (cap : Nat) (tag : Int) (w : World) (hr : FRow w ao fs) (hm : fs.length ≤ 9223372036854775806) :
    Calls Tryz.prog 97 #[.slice ao fs.length cap, .int .i64 tag] w fun e w' => e = .returned (.tuple #[.int .u64 (numN (fitB tag false) fs), .bool (fs.any (fitB tag false))]) ∧ Below w.heap.size w w' := by
  have CI : Hid (∀ B W, FRow W ao fs → Of W B tag false → Calls Tryz.prog 98 #[.slice ao fs.length cap, ofV B] W fun e w' => e = .returned (.int .i64 (idxF (fitB tag false) fs)) ∧ Below W.heap.size W w') := fun B W h1 h2 => ixf_any ao fs cap B tag false W h1 h2 hm
  cases hany : fs.any (fitB tag false) with
  | true =>
    have hlt := any_lt hany
    have hi : idxF (fitB tag false) fs = ((fs.findIdx (fitB tag false) : Nat) : Int) := by rw [idxF, if_pos hany]
    have hn : numN (fitB tag false) fs = (fs[fs.findIdx (fitB tag false)]'hlt).n := by simp [numN, List.getElem?_eq_getElem hlt]
    have HN : Hid (numN (fitB tag false) fs = (fs[fs.findIdx (fitB tag false)]'hlt).n) := hn
    rw [hi] at CI
    clear hany hi hn
    generalize fs.findIdx (fitB tag false) = k at *
    have hz : fs ≠ [] := by intro h; rw [h] at hlt; simp at hlt
    obtain ⟨b0, off, rfl, hc⟩ := hr.2 hz
    obtain ⟨fa, fc, c0, c1, c2, c3, -⟩ := hc k hlt
    have hlt0 : b0 < w.heap.size := World.block_lt_of_cell? w ⟨b0, off + k * 4, none⟩ c0
    clear c0 c1 c3 hc
    generalize fs[k] = f at *
    go_enter Tryz.func97, Tryz.ntmps97
    go_wp2_with fail
    refine (of_any tag false _).mono ?_
    rintro e w1 ⟨rfl, ho1, hb1⟩
    go_wp2_with fail
    refine (CI.out _ _ (hr.below hb1) ho1).mono ?_
    rintro e w2 ⟨rfl, hb2⟩
    have hB := hb1.trans (hb2.mono hb1.size)
    have d2 := (hB.cell (p := ⟨b0, off + k * 4 + 2, none⟩) hlt0).trans c2
    have hlt2 : b0 < w2.heap.size := Nat.lt_of_lt_of_le hlt0 hB.size
    go_wp2
    go_ret2
    exact ⟨by rw [HN.out]; rfl, hB⟩
  | false =>
    have hi : idxF (fitB tag false) fs = -1 := by rw [idxF, if_neg (by rw [hany]; simp)]
    have HN : Hid (numN (fitB tag false) fs = 0) := by show numN _ _ = _; simp [numN, none_ge hany]
    rw [hi] at CI
    clear hany hi
    go_enter Tryz.func97, Tryz.ntmps97
    go_wp2_with fail
    refine (of_any tag false _).mono ?_
    rintro e w1 ⟨rfl, ho1, hb1⟩
    go_wp2_with fail
    refine (CI.out _ _ (hr.below hb1) ho1).mono ?_
    rintro e w2 ⟨rfl, hb2⟩
    go_wp2
    go_ret2
    exact ⟨by rw [HN.out]; rfl, hb1.trans (hb2.mono hb1.size)⟩

set_option maxHeartbeats 1600000 in
set_option maxRecDepth 100000 in
theorem bytes_any (ao : Option Addr) (fs : List Fld) (cap : Nat) (tag : Int) (w : World) (hr : FRow w ao fs) (hm : fs.length ≤ 9223372036854775806) (h5 : ∀ f ∈ fs, f.b.length ≤ 5000) :
    Calls Tryz.prog 68 #[.slice ao fs.length cap, .int .i64 tag] w fun e w' => ∃ a c, e = .returned (.tuple #[.slice a (bytB (fitB tag true) fs).length c, .bool (fs.any (fitB tag true))]) ∧ Row w' a (bytB (fitB tag true) fs) ∧ Below w.heap.size w w' := by
  have CI : Hid (∀ B W, FRow W ao fs → Of W B tag true → Calls Tryz.prog 98 #[.slice ao fs.length cap, ofV B] W fun e w' => e = .returned (.int .i64 (idxF (fitB tag true) fs)) ∧ Below W.heap.size W w') := fun B W h1 h2 => ixf_any ao fs cap B tag true W h1 h2 hm
  cases hany : fs.any (fitB tag true) with
  | true =>
    have hlt := any_lt hany
    have hi : idxF (fitB tag true) fs = ((fs.findIdx (fitB tag true) : Nat) : Int) := by rw [idxF, if_pos hany]
    have hn : bytB (fitB tag true) fs = (fs[fs.findIdx (fitB tag true)]'hlt).b := by simp [bytB, List.getElem?_eq_getElem hlt]
    rw [hi] at CI
    rw [hn]
    clear hany hi hn
    generalize fs.findIdx (fitB tag true) = k at *
    have hz : fs ≠ [] := by intro h; rw [h] at hlt; simp at hlt
    obtain ⟨b0, off, rfl, hc⟩ := hr.2 hz
    obtain ⟨fa, fc, c0, c1, c2, c3, hsh⟩ := hc k hlt
    have h5k := h5 fs[k] (List.getElem_mem hlt)
    have hlt0 : b0 < w.heap.size := World.block_lt_of_cell? w ⟨b0, off + k * 4, none⟩ c0
    clear c0 c1 c2 hc
    generalize fs[k] = f at *
    go_enter Tryz.func68, Tryz.ntmps68
    go_wp2_with fail
    refine (of_any tag true _).mono ?_
    rintro e w1 ⟨rfl, ho1, hb1⟩
    go_wp2_with fail
    refine (CI.out _ _ (hr.below hb1) ho1).mono ?_
    rintro e w2 ⟨rfl, hb2⟩
    have hB := hb1.trans (hb2.mono hb1.size)
    have d3 := (hB.cell (p := ⟨b0, off + k * 4 + 3, none⟩) hlt0).trans c3
    have hlt2 : b0 < w2.heap.size := Nat.lt_of_lt_of_le hlt0 hB.size
    have hsh2 := hsh.below hB
    go_wp2_with fail
    refine (fresh_any fa f.b fc _ hsh2.1 hsh2.2.1 (by omega)).mono ?_
    rintro e w3 ⟨a3, c3', rfl, hr3, -, -, -, -, hb3⟩
    go_wp2
    go_ret2
    exact ⟨a3, c3', rfl, hr3, hB.trans (hb3.mono hB.size)⟩
  | false =>
    have hi : idxF (fitB tag true) fs = -1 := by rw [idxF, if_neg (by rw [hany]; simp)]
    have hn : bytB (fitB tag true) fs = [] := by simp [bytB, none_ge hany]
    rw [hi] at CI
    rw [hn]
    clear hany hi hn
    go_enter Tryz.func68, Tryz.ntmps68
    go_wp2_with fail
    refine (of_any tag true _).mono ?_
    rintro e w1 ⟨rfl, ho1, hb1⟩
    go_wp2_with fail
    refine (CI.out _ _ (hr.below hb1) ho1).mono ?_
    rintro e w2 ⟨rfl, hb2⟩
    go_wp2
    go_ret2
    exact ⟨none, 0, rfl, Row.nil _ _, hb1.trans (hb2.mono hb1.size)⟩
end Go.Proofs.YtepohbcpepkboaaGreat

namespace Go.Proofs.YtepohbcpepkboaaGreat
open Go.RowKit

/-- Ints in memory. -/
def IRow (w : World) (a : Option Addr) (ts : List Int) : Prop := ts ≠ [] → ∃ b off, a = some ⟨b, off, none⟩ ∧ ∀ j (hj : j < ts.length), w.cell? ⟨b, off + j, none⟩ = some (.int .i64 ts[j])
set_option maxRecDepth 100000 in
theorem IRow.below {w w' : World} {a : Option Addr} {ts : List Int} (h : IRow w a ts) (hb : Below w.heap.size w w') : IRow w' a ts := fun hz => by
  obtain ⟨b, off, rfl, hc⟩ := h hz
  exact ⟨b, off, rfl, fun j hj => (hb.cell (p := ⟨b, off + j, none⟩) (World.block_lt_of_cell? w ⟨b, off + j, none⟩ (hc j hj))).trans (hc j hj)⟩

def noneOf (ts : List Int) (f : Fld) : Bool := !ts.contains f.tag
set_option maxRecDepth 100000 in
theorem idxF_any (p : Fld → Bool) (fs : List Fld) : decide (0 ≤ idxF p fs) = fs.any p := by
  unfold idxF
  cases fs.any p <;> simp

end Go.Proofs.YtepohbcpepkboaaGreat

namespace Go.Proofs.YtepohbcpepkboaaGreat
open Go.RowKit

/-- The bytes of all fields of a tag. -/
def manyB (tag : Int) (fs : List Fld) : List (List Int) := (fs.filter (fitB tag true)).map (fun f => f.b)

set_option maxRecDepth 100000 in
theorem of1_any (t : Int) (isB : Bool) (n : Int) (x : Value) (B : Nat) (tag : Int) (kb : Bool) (w : World) (ho : Of w B tag kb) :
    Calls Tryz.prog 109 #[.agg #[.int .i64 t, .bool isB, .int .u64 n, x], .pointer (some ⟨B, 0, none⟩), .pointer (some ⟨B + 1, 0, none⟩)] w fun e w' => e = .returned (.bool ((t == tag) && (isB == kb))) ∧ Below w.heap.size w w' := by
  obtain ⟨e0, e1⟩ := ho
  have hB0 := World.block_lt_of_cell? w ⟨B, 0, none⟩ e0
  have hB1 := World.block_lt_of_cell? w ⟨B + 1, 0, none⟩ e1
  simp only at hB0 hB1
  by_cases h1 : t = tag
  · subst h1
    go_enter Tryz.func109, Tryz.ntmps109
    go_wp2
    go_ret
    exact ⟨ret_bool (by simp), (Below.refl _ _).alloc (Nat.le_refl _) _⟩
  · have h1' : (t == tag) = false := by simpa using h1
    go_enter Tryz.func109, Tryz.ntmps109
    go_wp2
    go_ret
    exact ⟨ret_bool (by simp [h1']), (Below.refl _ _).alloc (Nat.le_refl _) _⟩

set_option maxHeartbeats 1600000 in
set_option maxRecDepth 100000 in
theorem many_any (ao : Option Addr) (fs : List Fld) (cap : Nat) (tag : Int) (w : World) (hr : FRow w ao fs) (hm : fs.length ≤ 80) (h5 : ∀ f ∈ fs, f.b.length ≤ 5000) :
    Calls Tryz.prog 101 #[.slice ao fs.length cap, .int .i64 tag] w fun e w' => ∃ a c, e = .returned (.slice a (manyB tag fs).length c) ∧ BRow w' a (manyB tag fs) ∧ Below w.heap.size w w' := by
  obtain ⟨i0, hi, hz0, hz1, hz2⟩ := info_parts infoB
  go_enter Tryz.func101, Tryz.ntmps101
  go_wp2_with fail
  refine (of_any tag true _).mono ?_
  rintro e w1 ⟨rfl, ho1, hb1⟩
  have hr1 := hr.below hb1
  unfold ofV
  clear hr
  go_wp2
  go_loopw [6, 13] (fun v si wr => ∃ (k : Nat) (ps : List (List Int × Option Addr × Nat)), k ≤ fs.length ∧ si = .int .i64 k ∧ BOwn wr w1.heap.size v ps ∧ Hid (ps.map (·.1) = manyB tag (fs.take k)) ∧ ps.length ≤ k ∧ Below w1.heap.size w1 wr) (fun _ si _ => fs.length - (intOf si).toNat)
  case atStart => exact ⟨0, [], by omega, rfl, BOwn.nil _ _, rfl, by simp, Below.refl _ _⟩
  case round =>
    obtain ⟨k, ps, hk, rfl, hbo, hid, hpl, hb⟩ := hrel
    obtain ⟨va, vc, hv, -⟩ := hbo.view
    subst hv
    by_cases hlt : k < fs.length
    · have hz : fs ≠ [] := by intro h; rw [h] at hlt; simp at hlt
      obtain ⟨b0, off, rfl, hc⟩ := hr1.2 hz
      obtain ⟨fa, fc, c0, c1, c2, c3, hsh⟩ := hc k hlt
      have hlt0 : b0 < w1.heap.size := World.block_lt_of_cell? w1 ⟨b0, off + k * 4, none⟩ c0
      have d0 := (hb.cell (p := ⟨b0, off + k * 4, none⟩) hlt0).trans c0
      have d1 := (hb.cell (p := ⟨b0, off + k * 4 + 1, none⟩) hlt0).trans c1
      have d2 := (hb.cell (p := ⟨b0, off + k * 4 + 2, none⟩) hlt0).trans c2
      have d3 := (hb.cell (p := ⟨b0, off + k * 4 + 3, none⟩) hlt0).trans c3
      have hB0 := World.block_lt_of_cell? w1 ⟨w.heap.size, 0, none⟩ ho1.1
      have hB1 := World.block_lt_of_cell? w1 ⟨w.heap.size + 1, 0, none⟩ ho1.2
      have e0 := (hb.cell (p := ⟨w.heap.size, 0, none⟩) hB0).trans ho1.1
      have e1 := (hb.cell (p := ⟨w.heap.size + 1, 0, none⟩) hB1).trans ho1.2
      simp only at hB0 hB1
      have hB2 : w.heap.size < wr.heap.size := Nat.lt_of_lt_of_le hB0 hb.size
      have hB3 : w.heap.size + 1 < wr.heap.size := Nat.lt_of_lt_of_le hB1 hb.size
      have hlt1 : b0 < wr.heap.size := Nat.lt_of_lt_of_le hlt0 hb.size
      have h5k := h5 fs[k] (List.getElem_mem hlt)
      have HM : Hid (manyB tag (fs.take (k + 1)) = manyB tag (fs.take k) ++ (if fitB tag true fs[k] then [fs[k].b] else [])) := by
        show manyB _ _ = _
        rw [List.take_succ_eq_append_getElem hlt]
        simp only [manyB, List.filter_append, List.map_append]
        congr 1
        by_cases h : fitB tag true fs[k] = true <;> simp [h]
      have hshw := hsh.below hb
      clear c0 c1 c2 c3 hc hsh
      generalize fs[k] = f at *
      obtain ⟨t, isB, n, b⟩ := f
      simp only at d0 d1 d2 d3 h5k
      have HE : Hid (fitB tag true ⟨t, isB, n, b⟩ = ((t == tag) && (isB == true))) := rfl
      by_cases h1 : t = tag
      · subst h1
        cases isB
        · have HN : Hid (manyB t (fs.take (k + 1)) = manyB t (fs.take k)) := by show manyB _ _ = _; rw [HM.out, HE.out]; simp
          go_wp2
          go_roundw
          case rel => exact ⟨k + 1, ps, by omega, by go_num, (hbo.below ((Below.refl _ _).alloc (Nat.le_refl _) _)).below ((Below.refl _ _).alloc (Nat.le_refl _) _), by rw [HN.out]; exact hid, by omega, (hb.alloc hb.size _).alloc (by have := hb.size; simp; omega) _⟩
          case measure => simp [intOf]; omega
        · have HN : Hid (manyB t (fs.take (k + 1)) = manyB t (fs.take k) ++ [b]) := by show manyB _ _ = _; rw [HM.out, HE.out]; simp
          have hbA : Below wr.heap.size wr (wr.alloc (.cells #[.int .i64 t, .bool true, .int .u64 n, .slice fa b.length fc] 149)) := (Below.refl _ _).alloc (Nat.le_refl _) _
          have hoA : Of (wr.alloc (.cells #[.int .i64 t, .bool true, .int .u64 n, .slice fa b.length fc] 149)) w.heap.size t true := Of.below ⟨e0, e1⟩ hbA
          have hbx := heap_alloc_new wr (.cells #[.int .i64 t, .bool true, .int .u64 n, .slice fa b.length fc] 149)
          go_wp2_with fail
          refine (of1_any t true n _ w.heap.size t true _ hoA).mono ?_
          rintro e w4 ⟨rfl, hb4⟩
          have x3 := (hb4.cell (p := ⟨wr.heap.size, 3, none⟩) (by simp)).trans (cell_of_row _ _ 3 _ _ _ hbx)
          simp only [List.getElem?_toArray, List.getElem?_cons_zero, List.getElem?_cons_succ] at x3
          have hlx : wr.heap.size < w4.heap.size := by have := hb4.size; simp at this; omega
          have hbr4 : Below wr.heap.size wr w4 := hbA.trans (hb4.mono (by simp))
          have hsh4 := hshw.below hbr4
          clear hbA hoA hbx hb4
          simp only [BEq.rfl, Bool.and_self]
          go_wp2_with fail
          refine (fresh_any fa b fc _ hsh4.1 hsh4.2.1 (by omega)).mono ?_
          rintro e w5 ⟨a5, c5, rfl, hr5, -, -, -, hg5, hb5⟩
          have hbr5 : Below wr.heap.size wr w5 := hbr4.trans (hb5.mono hbr4.size)
          have hbo5 := (hbo.below hbr5).below ((Below.refl _ _).alloc (Nat.le_refl _) (.cells #[.slice a5 b.length c5] 29))
          have hr5' := hr5.alloc (.cells #[.slice a5 b.length c5] 29)
          have hap : b ≠ [] → ∀ x, a5 = some x → some x.block ≠ (Value.slice va ps.length vc).ownBlock := fun _ x hx e => by
            have h1 := hg5 x hx
            have h2 := (hbo.own.lt x.block e.symm).2
            have h3 := hbr4.size
            omega
          have hB5 := hb.trans (hbr5.mono hb.size)
          clear hbo hbr4 hsh4 hb5 hr5 hg5 x3 e0 e1 d0 d1 d2 d3
          go_wp2_with (at_builtin; go_must (refine wpList_append_own_at _ rfl (.tmp 20) (.tmp 24) 46 rfl w1.heap.size 29 i0 _ 1 24 Tryz.underlying46 hi hz0 hz1 hz2 rfl (by decide) _ _ _ rfl hbo5.own ⟨w5.heap.size, 0, none⟩ 1 1 [bc (b, a5, c5)] rfl rfl ?c1 ?c2 (by unfold maxLen; omega) (by omega) (by have := hB5.size; simp; omega) ?_))
          case c1 =>
            intro j u hj
            match j, hj with
            | 0, hj => simp [bc] at hj; subst hj; simp [Addr.add]
            | j + 1, hj => simp at hj
          case c2 =>
            intro u hu
            simp only [List.mem_singleton] at hu
            subst hu; rfl
          intro v6 w6 hown6 hgrow6 _ hat6
          have hbo6 := hbo5.append (p := (b, a5, c5)) hown6 hgrow6 (by simpa using hat6) hr5' hap
          have hB6 : Below w1.heap.size w1 w6 := (hB5.alloc hB5.size _).grown hgrow6 (by have := hB5.size; simp; omega) (fun q hq => (hbo5.own.lt q hq).1)
          clear hown6 hgrow6 hat6 hbo5 hr5' hap
          go_wp2
          go_roundw
          case rel => exact ⟨k + 1, ps ++ [(b, a5, c5)], by omega, by go_num, hbo6, by rw [HN.out, List.map_append]; exact congrArg (· ++ [b]) hid.out, by simp; omega, hB6⟩
          case measure => simp [intOf]; omega
      · have h1' : (t == tag) = false := by simpa using h1
        have HN : Hid (manyB tag (fs.take (k + 1)) = manyB tag (fs.take k)) := by show manyB _ _ = _; rw [HM.out, HE.out, h1']; simp
        go_wp2
        go_roundw
        case rel => exact ⟨k + 1, ps, by omega, by go_num, (hbo.below ((Below.refl _ _).alloc (Nat.le_refl _) _)).below ((Below.refl _ _).alloc (Nat.le_refl _) _), by rw [HN.out]; exact hid, by omega, (hb.alloc hb.size _).alloc (by have := hb.size; simp; omega) _⟩
        case measure => simp [intOf]; omega
    · have hkl : fs.take k = fs := List.take_of_length_le (by omega)
      rw [hkl] at hid
      have hlen : ps.length = (manyB tag fs).length := by rw [← hid.out, List.length_map]
      obtain ⟨a2, c2, hv2, hbr⟩ := hbo.view
      rw [hid.out] at hbr
      simp only [Value.slice.injEq] at hv2
      obtain ⟨rfl, -, rfl⟩ := hv2
      have hB := hb1.trans (hb.mono hb1.size)
      go_wp2
      go_ret
      refine ⟨va, vc, ?_, ?_, hB⟩
      · rw [← hlen]; rfl
      · exact hbr
end Go.Proofs.YtepohbcpepkboaaGreat

