/- What next and readField answer. Conditions: the slices show fields, or bytes. -/
import Derived.Test.YtjnipkeadlemiaaMsgB
import Derived.Test.YtjnipkeadlemiaaMsgA
import Derived.Test.YtjnipkeadlemiaaPureB
import Derived.Test.YtjnipkeadlemiaaRead
import Derived.Test.YtjnipkeadlemiaaCut
namespace Go.Proofs.Ytjnipkeadlemiaa
open Go.RowKit

/-- The error of a field behind those ahead. -/
def nextE (ahead : List Fld) (f : Fld) : Int := if fmay ahead f then (if ahead.length = 64 then 3 else 0) else 1
set_option maxRecDepth 100000 in
theorem next_any (ao : Option Addr) (fs : List Fld) (cap : Nat) (f : Fld) (a : Option Addr) (c : Nat) (w : World) (hr : FRow w ao fs) (hm : fs.length ≤ 9223372036854775807) :
    Calls Try.prog 86 #[.slice ao fs.length cap, f.val a c] w fun e w' => e = .returned (.int .i64 (nextE fs f)) ∧ Below w.heap.size w w' := by
  have CM : Hid (∀ W, FRow W ao fs → Calls Try.prog 82 #[.slice ao fs.length cap, f.val a c] W fun e w' => e = .returned (.bool (fmay fs f)) ∧ Below W.heap.size W w') := fun W h => fmay_any ao fs cap f a c W h hm
  have E : Hid (nextE fs f = if fmay fs f then (if fs.length = 64 then 3 else 0) else 1) := rfl
  obtain ⟨tag, isB, n, b⟩ := f
  generalize fmay fs ⟨tag, isB, n, b⟩ = m at *
  unfold Fld.val at CM ⊢
  cases m
  · have E2 : Hid (nextE fs ⟨tag, isB, n, b⟩ = 1) := by show nextE _ _ = _; rw [E.out]; rfl
    clear E
    go_enter Try.func86, Try.ntmps86
    go_wp2_with fail
    refine (CM.out _ (hr.alloc _)).mono ?_
    rintro e w1 ⟨rfl, hb1⟩
    go_wp2
    go_ret
    exact ⟨ret_int E2.out.symm, ((Below.refl _ _).alloc (Nat.le_refl _) _).trans (hb1.mono (by simp))⟩
  · by_cases h64 : fs.length = 64
    · have E2 : Hid (nextE fs ⟨tag, isB, n, b⟩ = 3) := by show nextE _ _ = _; rw [E.out, if_pos rfl, if_pos h64]
      have h64' : ((fs.length : Int) == 64) = true := by rw [beq_iff_eq]; omega
      clear E h64
      go_enter Try.func86, Try.ntmps86
      go_wp2_with fail
      refine (CM.out _ (hr.alloc _)).mono ?_
      rintro e w1 ⟨rfl, hb1⟩
      go_wp2
      go_ret
      exact ⟨ret_int E2.out.symm, ((Below.refl _ _).alloc (Nat.le_refl _) _).trans (hb1.mono (by simp))⟩
    · have E2 : Hid (nextE fs ⟨tag, isB, n, b⟩ = 0) := by show nextE _ _ = _; rw [E.out, if_pos rfl, if_neg h64]
      have h64' : ((fs.length : Int) == 64) = false := by rw [beq_eq_false_iff_ne]; omega
      clear E h64
      go_enter Try.func86, Try.ntmps86
      go_wp2_with fail
      refine (CM.out _ (hr.alloc _)).mono ?_
      rintro e w1 ⟨rfl, hb1⟩
      go_wp2
      go_ret
      exact ⟨ret_int E2.out.symm, ((Below.refl _ _).alloc (Nat.le_refl _) _).trans (hb1.mono (by simp))⟩

def zeroF : Fld := ⟨0, false, 0, []⟩
/-- The field that bytes begin with, how many bytes it has, the error. -/
def rf (zs : List Int) : Fld × Int × Int :=
  if (rd zs).2.2 ≠ 0 then (zeroF, 0, (rd zs).2.2) else
  if (rd (zs.drop (rd zs).2.1.toNat)).2.2 ≠ 0 then (zeroF, 0, (rd (zs.drop (rd zs).2.1.toNat)).2.2) else
  if (rd zs).1 % 2 = 0 then (⟨(rd zs).1 / 2, false, (rd (zs.drop (rd zs).2.1.toNat)).1, []⟩, (rd zs).2.1 + (rd (zs.drop (rd zs).2.1.toNat)).2.1, 0) else
  if (zs.length : Int) - ((rd zs).2.1 + (rd (zs.drop (rd zs).2.1.toNat)).2.1) < (rd (zs.drop (rd zs).2.1.toNat)).1 then (zeroF, 0, 5) else
  (⟨(rd zs).1 / 2, true, 0, (zs.drop ((rd zs).2.1 + (rd (zs.drop (rd zs).2.1.toNat)).2.1).toNat).take (rd (zs.drop (rd zs).2.1.toNat)).1.toNat⟩,
    (rd zs).2.1 + (rd (zs.drop (rd zs).2.1.toNat)).2.1 + (rd (zs.drop (rd zs).2.1.toNat)).1, 0)

end Go.Proofs.Ytjnipkeadlemiaa
