/- What next and readField answer. Conditions: the slices show fields, or bytes. -/
import Derived.Test.YteidjnkkjjigoaaMsgB
import Derived.Test.YteidjnkkjjigoaaMsgA
import Derived.Test.YteidjnkkjjigoaaPureB
import Derived.Test.YteidjnkkjjigoaaRead
namespace Go.Proofs.Yteidjnkkjjigoaa
open Go.RowKit

/-- The error of a field behind those ahead. -/
def nextE (ahead : List Fld) (f : Fld) : Int := if fmay ahead f then (if ahead.length = 64 then 3 else 0) else 1
theorem next_any (ao : Option Addr) (fs : List Fld) (cap : Nat) (f : Fld) (a : Option Addr) (c : Nat) (w : World) (hr : FRow w ao fs) (hm : fs.length ≤ 9223372036854775807) :
    Calls Try.prog 47 #[.slice ao fs.length cap, f.val a c] w fun e w' => e = .returned (.int .i64 (nextE fs f)) ∧ Below w.heap.size w w' := by
  have CM : Hid (∀ W, FRow W ao fs → Calls Try.prog 41 #[.slice ao fs.length cap, f.val a c] W fun e w' => e = .returned (.bool (fmay fs f)) ∧ Below W.heap.size W w') := fun W h => fmay_any ao fs cap f a c W h hm
  have E : Hid (nextE fs f = if fmay fs f then (if fs.length = 64 then 3 else 0) else 1) := rfl
  obtain ⟨tag, isB, n, b⟩ := f
  generalize fmay fs ⟨tag, isB, n, b⟩ = m at *
  unfold Fld.val at CM ⊢
  cases m
  · have E2 : Hid (nextE fs ⟨tag, isB, n, b⟩ = 1) := by show nextE _ _ = _; rw [E.out]; rfl
    clear E
    go_enter Try.func47, Try.ntmps47
    go_wp2_with fail
    refine (CM.out _ (hr.alloc _)).mono ?_
    rintro e w1 ⟨rfl, hb1⟩
    go_wp2
    go_ret
    exact ⟨ret_int E2.out.symm, ((Below.refl _ _).alloc (Nat.le_refl _) _).trans (hb1.mono (by simp))⟩
  · by_cases h64 : fs.length = 64
    · have E2 : Hid (nextE fs ⟨tag, isB, n, b⟩ = 3) := by show nextE _ _ = _; rw [E.out, if_pos rfl, if_pos h64]
      have h64' : ((fs.length : Int) == 64) = true := by rw [beq_iff_eq]; omega
      clear E h64
      go_enter Try.func47, Try.ntmps47
      go_wp2_with fail
      refine (CM.out _ (hr.alloc _)).mono ?_
      rintro e w1 ⟨rfl, hb1⟩
      go_wp2
      go_ret
      exact ⟨ret_int E2.out.symm, ((Below.refl _ _).alloc (Nat.le_refl _) _).trans (hb1.mono (by simp))⟩
    · have E2 : Hid (nextE fs ⟨tag, isB, n, b⟩ = 0) := by show nextE _ _ = _; rw [E.out, if_pos rfl, if_neg h64]
      have h64' : ((fs.length : Int) == 64) = false := by rw [beq_eq_false_iff_ne]; omega
      clear E h64
      go_enter Try.func47, Try.ntmps47
      go_wp2_with fail
      refine (CM.out _ (hr.alloc _)).mono ?_
      rintro e w1 ⟨rfl, hb1⟩
      go_wp2
      go_ret
      exact ⟨ret_int E2.out.symm, ((Below.refl _ _).alloc (Nat.le_refl _) _).trans (hb1.mono (by simp))⟩

def zeroF : Fld := ⟨0, false, 0, []⟩
/-- The field that bytes begin with, how many bytes it has, the error. -/
def rf (zs : List Int) : Fld × Int × Int :=
  if (rd zs).2.2 ≠ 0 then (zeroF, 0, (rd zs).2.2) else
  if (rd (zs.drop (rd zs).2.1.toNat)).2.2 ≠ 0 then (zeroF, 0, (rd (zs.drop (rd zs).2.1.toNat)).2.2) else
  if (rd zs).1 % 2 = 0 then (⟨(rd zs).1 / 2, false, (rd (zs.drop (rd zs).2.1.toNat)).1, []⟩, (rd zs).2.1 + (rd (zs.drop (rd zs).2.1.toNat)).2.1, 0) else
  if (zs.length : Int) - ((rd zs).2.1 + (rd (zs.drop (rd zs).2.1.toNat)).2.1) < (rd (zs.drop (rd zs).2.1.toNat)).1 then (zeroF, 0, 5) else
  (⟨(rd zs).1 / 2, true, 0, (zs.drop ((rd zs).2.1 + (rd (zs.drop (rd zs).2.1.toNat)).2.1).toNat).take (rd (zs.drop (rd zs).2.1.toNat)).1.toNat⟩,
    (rd zs).2.1 + (rd (zs.drop (rd zs).2.1.toNat)).2.1 + (rd (zs.drop (rd zs).2.1.toNat)).1, 0)

/-- Where a cut of a slice of bytes lies. -/
def cutA (a : Option Addr) (cap i : Nat) : Option Addr := if cap = i then a else a.map (·.add (i * 1))
theorem cutA_row {zs : List Int} {a : Option Addr} {cap : Nat} (i k : Nat) (hc : zs.length ≤ cap) (W : World) (h : Row W a zs) : Row W (cutA a cap i) ((zs.drop i).take k) := by
  unfold cutA
  by_cases hz : (zs.drop i).take k = []
  · rw [hz]; exact Row.nil _ _
  have hz1 : zs.drop i ≠ [] := by intro e; rw [e] at hz; simp at hz
  have hz2 : zs ≠ [] := by intro e; rw [e] at hz1; simp at hz1
  have hi : i < zs.length := by
    by_cases h : i < zs.length
    · exact h
    · exact absurd (List.drop_eq_nil_of_le (by omega)) hz1
  rw [if_neg (by omega)]
  obtain ⟨b, off, rfl, hc'⟩ := h.2 hz2
  have e : (some (⟨b, off, none⟩ : Addr)).map (·.add (i * 1)) = some ⟨b, off + i, none⟩ := by simp [Addr.add_lit]
  rw [e]
  exact (Row.drop h i).take k
theorem cutA_nil {a : Option Addr} {cap n : Nat} (i : Nat) (hnil : a = none → n = 0 ∧ cap = 0) (h : cutA a cap i = none) : n = 0 ∧ cap = 0 := by
  unfold cutA at h
  split at h
  · exact hnil h
  · exact hnil (by simpa using h)
theorem size8 : ∀ W, (sizeOf (Try.prog.elem 22)).run Try.prog W = .ok 1 W := fun W => by
  have e : Try.prog.elem 22 = 5 := by kernel_rfl
  rw [e]; simp [go_sem]
theorem run_cut_lh (a : Option Addr) (n cap i j : Nat) (x y : Int) (hx : x = i) (hy : y = j) (hij : i ≤ j) (hj : j ≤ cap) (W : World) :
    (Instr.slice 22 (.slice a n cap) (some (.int .i64 x)) (some (.int .i64 y)) none).run Try.prog W = .ok (.slice (cutA a cap i) (j - i) (cap - i)) W := by
  subst hx hy
  rw [run_slice_lh W 22 a n cap Try.underlying22 .i64 .i64 (i : Int) (j : Int) (by omega) (by omega) (by omega), size8]
  simp [Result.andThen, sliced, cutA]
theorem run_cut_l (a : Option Addr) (n cap i : Nat) (x : Int) (hx : x = i) (hi : i ≤ n) (W : World) :
    (Instr.slice 22 (.slice a n cap) (some (.int .i64 x)) none none).run Try.prog W = .ok (.slice (cutA a cap i) (n - i) (cap - i)) W := by
  subst hx
  rw [run_slice_l W 22 a n cap Try.underlying22 .i64 (i : Int) (by omega) (by omega), size8]
  simp [Result.andThen, sliced, cutA]
end Go.Proofs.Yteidjnkkjjigoaa
