/- What Number and Bytes answer: the first field of a tag and a kind. Conditions: the slice shows fields, fewer than 2^63, their bytes fewer than 2^46. -/
import Derived.Test.YtjnipkeadlemiaaFld
import Derived.Test.YtjnipkeadlemiaaMsgA
namespace Go.Proofs.Ytjnipkeadlemiaa
open Go.RowKit

/-- Has a field this tag, and is it of this kind? -/
def fitB (tag : Int) (b : Bool) (f : Fld) : Bool := (f.tag == tag) && (f.isB == b)
/-- Where the first field is that p takes; -1: nowhere. -/
def idxF (p : Fld → Bool) (fs : List Fld) : Int := if fs.any p then (fs.findIdx p : Int) else -1
set_option maxRecDepth 100000 in
theorem idxF_at {p : Fld → Bool} {fs : List Fld} {k : Nat} (hk : k < fs.length) (h : p fs[k] = true) (hb : ∀ j (hj : j < k), p (fs[j]'(by omega)) = false) : idxF p fs = k := by
  have h1 : fs.any p = true := List.any_eq_true.2 ⟨fs[k], List.getElem_mem hk, h⟩
  have h2 : fs.findIdx p = k := (List.findIdx_eq hk).2 ⟨h, hb⟩
  rw [idxF, if_pos h1, h2]
set_option maxRecDepth 100000 in
theorem idxF_none {p : Fld → Bool} {fs : List Fld} (hb : ∀ j (hj : j < fs.length), p fs[j] = false) : idxF p fs = -1 := by
  have h1 : ¬ fs.any p = true := by
    intro h
    obtain ⟨f, hf, hp⟩ := List.any_eq_true.1 h
    obtain ⟨j, hj, rfl⟩ := List.getElem_of_mem hf
    rw [hb j hj] at hp; cases hp
  rw [idxF, if_neg h1]

/-- What of hands out: its two variables in memory. -/
def ofV (B : Nat) : Value := .func (.func 87) #[] #[.pointer (some ⟨B, 0, none⟩), .pointer (some ⟨B + 1, 0, none⟩)]
def Of (w : World) (B : Nat) (tag : Int) (b : Bool) : Prop := w.cell? ⟨B, 0, none⟩ = some (.int .i64 tag) ∧ w.cell? ⟨B + 1, 0, none⟩ = some (.bool b)
set_option maxRecDepth 100000 in
theorem Of.below {w w' : World} {B : Nat} {tag : Int} {b : Bool} (h : Of w B tag b) (hb : Below w.heap.size w w') : Of w' B tag b :=
  ⟨(hb.cell (p := ⟨B, 0, none⟩) (World.block_lt_of_cell? w ⟨B, 0, none⟩ h.1)).trans h.1, (hb.cell (p := ⟨B + 1, 0, none⟩) (World.block_lt_of_cell? w ⟨B + 1, 0, none⟩ h.2)).trans h.2⟩
set_option maxRecDepth 100000 in
theorem of_any (tag : Int) (b : Bool) (w : World) : Calls Try.prog 46 #[.int .i64 tag, .bool b] w fun e w' => e = .returned (ofV w.heap.size) ∧ Of w' w.heap.size tag b ∧ Below w.heap.size w w' := by
  go_enter Try.func46, Try.ntmps46
  go_wp2
  go_ret
  refine ⟨rfl, ⟨?_, ?_⟩, ((Below.refl _ _).alloc (Nat.le_refl _) _).alloc (by simp) _⟩
  · simp
  · simp

set_option maxHeartbeats 1600000 in
set_option maxRecDepth 100000 in
theorem ixf_any (ao : Option Addr) (fs : List Fld) (cap : Nat) (B : Nat) (tag : Int) (kb : Bool) (w : World) (hr : FRow w ao fs) (ho : Of w B tag kb) (hm : fs.length ≤ 9223372036854775806) :
    Calls Try.prog 45 #[.slice ao fs.length cap, ofV B] w fun e w' => e = .returned (.int .i64 (idxF (fitB tag kb) fs)) ∧ Below w.heap.size w w' := by
  unfold ofV
  go_enter Try.func45, Try.ntmps45
  go_wp2
  go_loopw [8] (fun si wr => ∃ k : Nat, k ≤ fs.length ∧ si = .int .i64 k ∧ Hid (∀ j (hj : j < k) (hj' : j < fs.length), fitB tag kb fs[j] = false) ∧ Below w.heap.size w wr) (fun si _ => fs.length - (intOf si).toNat)
  case atStart => exact ⟨0, by omega, rfl, (fun j hj => by omega), Below.refl _ _⟩
  case round =>
    obtain ⟨k, hk, rfl, hid, hb⟩ := hrel
    by_cases hlt : k < fs.length
    · have hz : fs ≠ [] := by intro h; rw [h] at hlt; simp at hlt
      obtain ⟨b0, off, rfl, hc⟩ := hr.2 hz
      obtain ⟨fa, fc, c0, c1, c2, c3, -⟩ := hc k hlt
      have hlt0 : b0 < w.heap.size := World.block_lt_of_cell? w ⟨b0, off + k * 4, none⟩ c0
      have d0 := (hb.cell (p := ⟨b0, off + k * 4, none⟩) hlt0).trans c0
      have d1 := (hb.cell (p := ⟨b0, off + k * 4 + 1, none⟩) hlt0).trans c1
      have d2 := (hb.cell (p := ⟨b0, off + k * 4 + 2, none⟩) hlt0).trans c2
      have d3 := (hb.cell (p := ⟨b0, off + k * 4 + 3, none⟩) hlt0).trans c3
      have hB0 := World.block_lt_of_cell? w ⟨B, 0, none⟩ ho.1
      have hB1 := World.block_lt_of_cell? w ⟨B + 1, 0, none⟩ ho.2
      have e0 := (hb.cell (p := ⟨B, 0, none⟩) hB0).trans ho.1
      have e1 := (hb.cell (p := ⟨B + 1, 0, none⟩) hB1).trans ho.2
      simp only at hB0 hB1
      have hB2 : B < wr.heap.size := Nat.lt_of_lt_of_le hB0 hb.size
      have hB3 : B + 1 < wr.heap.size := Nat.lt_of_lt_of_le hB1 hb.size
      have HP : Hid (∀ f : Fld, f = fs[k] → fitB tag kb fs[k] = fitB tag kb f) := fun f hf => by rw [hf]
      clear c0 c1 c2 c3 hc
      generalize hfk : fs[k] = f at *
      have HF : Hid (fs[k] = f) := hfk
      clear hfk HP
      obtain ⟨t, isB, n, b⟩ := f
      simp only at d0 d1 d2 d3
      have hE : fitB tag kb ⟨t, isB, n, b⟩ = ((t == tag) && (isB == kb)) := rfl
      have HE : Hid (fitB tag kb ⟨t, isB, n, b⟩ = ((t == tag) && (isB == kb))) := hE
      clear hE
      by_cases h1 : t = tag
      · subst h1
        by_cases h2 : isB = kb
        · subst h2
          have hv : Hid (idxF (fitB t isB) fs = k) := idxF_at hlt (by rw [HF.out, HE.out]; simp) (fun j hj => hid.out j hj (by omega))
          go_wp2
          go_ret
          exact ⟨ret_int hv.out.symm, hb.alloc hb.size _⟩
        · have h2' : (isB == kb) = false := by simpa using h2
          have hn : Hid (∀ j (hj : j < k + 1) (hj' : j < fs.length), fitB t kb fs[j] = false) := fun j hj hj' => by
            by_cases e : j = k
            · subst e; rw [HF.out, HE.out, h2']; simp
            · exact hid.out j (by omega) hj'
          go_wp2
          go_roundw
          case rel => exact ⟨k + 1, by omega, by go_num, hn, hb.alloc hb.size _⟩
          case measure => simp [intOf]; omega
      · have h1' : (t == tag) = false := by simpa using h1
        have hn : Hid (∀ j (hj : j < k + 1) (hj' : j < fs.length), fitB tag kb fs[j] = false) := fun j hj hj' => by
          by_cases e : j = k
          · subst e; rw [HF.out, HE.out, h1']; simp
          · exact hid.out j (by omega) hj'
        go_wp2
        go_roundw
        case rel => exact ⟨k + 1, by omega, by go_num, hn, hb.alloc hb.size _⟩
        case measure => simp [intOf]; omega
    · have hv : Hid (idxF (fitB tag kb) fs = -1) := idxF_none (fun j hj => hid.out j (by omega) hj)
      go_wp2
      go_ret
      exact ⟨ret_int hv.out.symm, hb⟩
end Go.Proofs.Ytjnipkeadlemiaa
