/- What Starts answers: do bytes begin with others? It only reads. Conditions: both slices show bytes. -/
import Derived.Test.YteidjnkkjjigoaaVarA
import Derived.Deep.DeepMust
namespace Go.Proofs.Yteidjnkkjjigoaa
open Go.RowKit

def startsB (zs ys : List Int) : Bool := decide (zs.take ys.length = ys)
set_option maxHeartbeats 1600000 in
set_option maxRecDepth 100000 in
theorem starts_any (a : Option Addr) (zs : List Int) (cap : Nat) (a' : Option Addr) (ys : List Int) (cap' : Nat) (w : World) (hr : Row w a zs) (hr' : Row w a' ys)
    (hc : zs.length ≤ cap) (hm' : ys.length ≤ 9223372036854775807) :
    Calls Try.prog 18 #[.slice a zs.length cap, .slice a' ys.length cap'] w fun e w' => e = .returned (.bool (startsB zs ys)) ∧ ∃ n, w' = w.drewN n := by
  by_cases hle : ys.length ≤ zs.length
  · have h1 := fun q => (hr.drewN q).take ys.length |>.text ys.length cap (by simp; omega)
    have h2 := fun q => (hr'.drewN q).text ys.length cap' rfl
    have hle' : (ys.length : Int) ≤ (zs.length : Int) := by omega
    have hz := (hr.take ys.length).byte
    have hy := hr'.byte
    clear hr hr'
    go_enter Try.func18, Try.ntmps18
    go_wp2
    go_quiet (fail)
    go_wp2
    go_ret
    refine ⟨ret_bool ?_, _, rfl⟩
    rw [str_beq _ _ hz hy]; rfl
  · have hle' : decide ((ys.length : Int) ≤ (zs.length : Int)) = false := by simp; omega
    have hs : startsB zs ys = false := by
      simp only [startsB, decide_eq_false_iff_not]
      intro h
      have := congrArg List.length h
      simp at this; omega
    have HS : Hid (startsB zs ys = false) := hs
    clear hs hr hr'
    go_enter Try.func18, Try.ntmps18
    go_wp2
    go_quiet (fail)
    go_wp2
    go_ret
    exact ⟨ret_bool HS.out.symm, _, rfl⟩
end Go.Proofs.Yteidjnkkjjigoaa
