/- What a value tells of itself: Kind, Bool, Int, Text, Point. They only read. No conditions. -/
import Derived.Test.YtheabeapmhoclaaVGet
namespace Go.Proofs.Ytheabeapmhoclaa
open Go.RowKit Go.Maps

/-- What a value tells as a bool, an int, a text, a point's part. -/
def V.gb (v : V) : Bool := v.k == 2 && v.b
def V.gn (v : V) : Int := if v.k = 3 then v.n else 0
def V.gs (v : V) : ByteArray := if v.k = 5 then v.s else ByteArray.empty
def V.gre (v : V) : Int := if v.k = 4 then v.n else 0
def V.gim (v : V) : Int := if v.k = 4 then v.m else 0
def V.isK (v : V) (k : Int) : Bool := v.k == k
set_option maxRecDepth 100000 in
theorem kind_any {w0 : World} {ok : Nat → Prop} {h : Value} {v : V} (hr : Rep w0 ok h v) (w : World) : Calls Try.prog 27 #[.agg #[h]] w fun e w' => e = .returned (.int .i64 v.k) ∧ Below w.heap.size w w' := by
  go_enter Try.func27, Try.ntmps27
  go_wp2_with fail
  refine (kindOf_any hr _).mono ?_
  rintro e w1 ⟨rfl, rfl⟩
  go_wp2_with fail
  go_ret
  exact ⟨rfl, (Below.refl _ _).alloc (Nat.le_refl _) _⟩
set_option maxRecDepth 100000 in
theorem asBool_any {w0 : World} {ok : Nat → Prop} {h : Value} {v : V} (hr : Rep w0 ok h v) (w : World) : Calls Try.prog 68 #[h] w fun e w' => e = .returned (.tuple #[.bool v.gb, .bool (v.isK 2)]) ∧ w = w' := by
  induction hr using Rep.ind
  all_goals have a1 := as_bool
  all_goals have a2 := an_bool
  all_goals
    go_enter Try.func68, Try.ntmps68
    go_wp2_with fail
    exact bodyPost_ret (v := .tuple #[_, _]) (by simp [results, Try.results68, go_sem]; exact ⟨rfl, rfl⟩) rfl ⟨rfl, rfl⟩
set_option maxRecDepth 100000 in
theorem gbool_any {w0 : World} {ok : Nat → Prop} {h : Value} {v : V} (hr : Rep w0 ok h v) (w : World) : Calls Try.prog 43 #[.agg #[h]] w fun e w' => e = .returned (.tuple #[.bool v.gb, .bool (v.isK 2)]) ∧ Below w.heap.size w w' := by
  go_enter Try.func43, Try.ntmps43
  go_wp2_with fail
  refine (asBool_any hr _).mono ?_
  rintro e w1 ⟨rfl, rfl⟩
  go_wp2_with fail
  exact bodyPost_ret (v := .tuple #[_, _]) (by simp [results, Try.results43, go_sem]) rfl ⟨rfl, (Below.refl _ _).alloc (Nat.le_refl _) _⟩
set_option maxRecDepth 100000 in
theorem asInt_any {w0 : World} {ok : Nat → Prop} {h : Value} {v : V} (hr : Rep w0 ok h v) (w : World) : Calls Try.prog 67 #[h] w fun e w' => e = .returned (.tuple #[.int .i64 v.gn, .bool (v.isK 3)]) ∧ w = w' := by
  induction hr using Rep.ind
  all_goals have a1 := as_int
  all_goals have a2 := an_int
  all_goals
    go_enter Try.func67, Try.ntmps67
    go_wp2_with fail
    exact bodyPost_ret (v := .tuple #[_, _]) (by simp [results, Try.results67, go_sem]; exact ⟨rfl, rfl⟩) rfl ⟨rfl, rfl⟩
set_option maxRecDepth 100000 in
theorem gint_any {w0 : World} {ok : Nat → Prop} {h : Value} {v : V} (hr : Rep w0 ok h v) (w : World) : Calls Try.prog 37 #[.agg #[h]] w fun e w' => e = .returned (.tuple #[.int .i64 v.gn, .bool (v.isK 3)]) ∧ Below w.heap.size w w' := by
  go_enter Try.func37, Try.ntmps37
  go_wp2_with fail
  refine (asInt_any hr _).mono ?_
  rintro e w1 ⟨rfl, rfl⟩
  go_wp2_with fail
  exact bodyPost_ret (v := .tuple #[_, _]) (by simp [results, Try.results37, go_sem]) rfl ⟨rfl, (Below.refl _ _).alloc (Nat.le_refl _) _⟩
set_option maxRecDepth 100000 in
theorem asText_any {w0 : World} {ok : Nat → Prop} {h : Value} {v : V} (hr : Rep w0 ok h v) (w : World) : Calls Try.prog 69 #[h] w fun e w' => e = .returned (.tuple #[.string v.gs, .bool (v.isK 5)]) ∧ w = w' := by
  induction hr using Rep.ind
  all_goals have a1 := as_string
  all_goals have a2 := an_string
  all_goals
    go_enter Try.func69, Try.ntmps69
    go_wp2_with fail
    exact bodyPost_ret (v := .tuple #[_, _]) (by simp [results, Try.results69, go_sem]; exact ⟨rfl, rfl⟩) rfl ⟨rfl, rfl⟩
set_option maxRecDepth 100000 in
theorem gtext_any {w0 : World} {ok : Nat → Prop} {h : Value} {v : V} (hr : Rep w0 ok h v) (w : World) : Calls Try.prog 44 #[.agg #[h]] w fun e w' => e = .returned (.tuple #[.string v.gs, .bool (v.isK 5)]) ∧ Below w.heap.size w w' := by
  go_enter Try.func44, Try.ntmps44
  go_wp2_with fail
  refine (asText_any hr _).mono ?_
  rintro e w1 ⟨rfl, rfl⟩
  go_wp2_with fail
  exact bodyPost_ret (v := .tuple #[_, _]) (by simp [results, Try.results44, go_sem]) rfl ⟨rfl, (Below.refl _ _).alloc (Nat.le_refl _) _⟩
set_option maxRecDepth 100000 in
theorem asPoint_any {w0 : World} {ok : Nat → Prop} {h : Value} {v : V} (hr : Rep w0 ok h v) (w : World) : Calls Try.prog 64 #[h] w fun e w' => ∃ re im, e = .returned (.tuple #[.complex .f64 re im, .bool (v.isK 4)]) ∧ floatToIntVal .f64 re .i64 = some v.gre ∧ floatToIntVal .f64 im .i64 = some v.gim ∧ w = w' := by
  have hz : floatToIntVal .f64 0 .i64 = some 0 := by decide +kernel
  induction hr using Rep.ind
  case point n m hn hm =>
    have a1 := as_complex
    have b1 := float_back n hn
    have b2 := float_back m hm
    generalize floatOfInt .f64 n = N at *
    generalize floatOfInt .f64 m = M at *
    go_enter Try.func64, Try.ntmps64
    go_wp2_with fail
    exact bodyPost_ret (v := .tuple #[_, _]) (by simp [results, Try.results64, go_sem]; rfl) rfl ⟨N, M, rfl, b1, b2, rfl⟩
  all_goals have a1 := as_complex
  all_goals have a2 := an_complex
  all_goals
    go_enter Try.func64, Try.ntmps64
    go_wp2_with fail
    exact bodyPost_ret (v := .tuple #[_, _]) (by simp [results, Try.results64, go_sem]; rfl) rfl ⟨0, 0, rfl, hz, hz, rfl⟩
set_option maxRecDepth 100000 in
theorem run_real (ts : Array TypeId) (t : TypeId) (re im : Nat) (w : World) : (Builtin.real_ ts t #[.complex .f64 re im]).run Try.prog w = .ok (.float .f64 re) w := rfl
set_option maxRecDepth 100000 in
theorem run_imag (ts : Array TypeId) (t : TypeId) (re im : Nat) (w : World) : (Builtin.imag_ ts t #[.complex .f64 re im]).run Try.prog w = .ok (.float .f64 im) w := rfl
set_option maxRecDepth 100000 in
theorem gpoint_any {w0 : World} {ok : Nat → Prop} {h : Value} {v : V} (hr : Rep w0 ok h v) (w : World) : Calls Try.prog 34 #[.agg #[h]] w fun e w' => e = .returned (.tuple #[.int .i64 v.gre, .int .i64 v.gim, .bool (v.isK 4)]) ∧ Below w.heap.size w w' := by
  have r1 := run_real
  have r2 := run_imag
  go_enter Try.func34, Try.ntmps34
  go_wp2_with fail
  refine (asPoint_any hr _).mono ?_
  rintro e w1 ⟨re, im, rfl, f1, f2, rfl⟩
  have c1 := fun W => run_convert_float_int (P := Try.prog) W 106 3 .f64 .i64 re v.gre (by rw [Try.underlying106]; rfl) Try.underlying3 f1
  have c2 := fun W => run_convert_float_int (P := Try.prog) W 106 3 .f64 .i64 im v.gim (by rw [Try.underlying106]; rfl) Try.underlying3 f2
  clear f1 f2
  go_wp2_with fail
  exact bodyPost_ret (v := .tuple #[_, _, _]) (by simp [results, Try.results34, go_sem]) rfl ⟨rfl, (Below.refl _ _).alloc (Nat.le_refl _) _⟩
end Go.Proofs.Ytheabeapmhoclaa
