/- What a value tells of itself: Kind, Bool, Int, Text, Point. They only read. No conditions. -/
import Derived.Test.YtgknefpefeghcaaVGet
namespace Go.Proofs.Ytgknefpefeghcaa
open Go.RowKit Go.Maps

/-- What a value tells as a bool, an int, a text, a point's part. -/
def V.gb (v : V) : Bool := v.k == 2 && v.b
def V.gn (v : V) : Int := if v.k = 3 then v.n else 0
def V.gs (v : V) : ByteArray := if v.k = 5 then v.s else ByteArray.empty
def V.gre (v : V) : Int := if v.k = 4 then v.n else 0
def V.gim (v : V) : Int := if v.k = 4 then v.m else 0
def V.isK (v : V) (k : Int) : Bool := v.k == k
set_option maxRecDepth 100000 in
theorem kind_any {w0 : World} {ok : Nat → Prop} {h : Value} {v : V} (hr : Rep w0 ok h v) (w : World) : Calls Try.prog 82 #[.agg #[h]] w fun e w' => e = .returned (.int .i64 v.k) ∧ Below w.heap.size w w' := by
  go_enter Try.func82, Try.ntmps82
  go_wp2_with fail
  refine (kindOf_any hr _).mono ?_
  rintro e w1 ⟨rfl, rfl⟩
  go_wp2_with fail
  go_ret
  exact ⟨rfl, (Below.refl _ _).alloc (Nat.le_refl _) _⟩
set_option maxRecDepth 100000 in
theorem run_real (ts : Array TypeId) (t : TypeId) (re im : Nat) (w : World) : (Builtin.real_ ts t #[.complex .f64 re im]).run Try.prog w = .ok (.float .f64 re) w := rfl
set_option maxRecDepth 100000 in
theorem run_imag (ts : Array TypeId) (t : TypeId) (re im : Nat) (w : World) : (Builtin.imag_ ts t #[.complex .f64 re im]).run Try.prog w = .ok (.float .f64 im) w := rfl
end Go.Proofs.Ytgknefpefeghcaa
