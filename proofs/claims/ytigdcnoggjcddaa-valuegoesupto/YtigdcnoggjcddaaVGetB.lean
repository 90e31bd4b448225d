/- What a value tells of itself: Kind, Bool, Int, Text, Point. They only read. No conditions. -/
import Derived.Test.YtigdcnoggjcddaaVRep
import Derived.Test.YtigdcnoggjcddaaVarA
namespace Go.Proofs.Ytigdcnoggjcddaa
open Go.RowKit Go.Maps

set_option maxRecDepth 100000 in
theorem unset_any (w : World) : Calls Try.prog 41 #[] w fun e w' => e = .returned (.agg #[.nilIface]) ∧ Below w.heap.size w w' := by
  go_enter Try.func41, Try.ntmps41
  go_wp2_with fail
  exact bodyPost_ret (v := .agg #[.nilIface]) (by simp [results, Try.results41, go_sem]) rfl ⟨rfl, (Below.refl _ _).alloc (Nat.le_refl _) _⟩
set_option maxRecDepth 100000 in
theorem later_any (w : World) : Calls Try.prog 38 #[] w fun e w' => e = .returned (.agg #[.iface 113 (.agg #[])]) ∧ Below w.heap.size w w' := by
  go_enter Try.func38, Try.ntmps38
  go_wp2_with fail
  exact bodyPost_ret (v := .agg #[.iface 113 (.agg #[])]) (by simp [results, Try.results38, go_sem]) rfl ⟨rfl, (Below.refl _ _).alloc (Nat.le_refl _) _⟩
set_option maxRecDepth 100000 in
theorem of_bool_any (b : Bool) (w : World) : Calls Try.prog 39 #[.bool b] w fun e w' => e = .returned (.agg #[.iface 4 (.bool b)]) ∧ Below w.heap.size w w' := by
  go_enter Try.func39, Try.ntmps39
  go_wp2_with fail
  exact bodyPost_ret (v := .agg #[.iface 4 (.bool b)]) (by simp [results, Try.results39, go_sem]) rfl ⟨rfl, (Below.refl _ _).alloc (Nat.le_refl _) _⟩
set_option maxRecDepth 100000 in
theorem int_any (n : Int) (w : World) : Calls Try.prog 36 #[.int .i64 n] w fun e w' => e = .returned (.agg #[.iface 3 (.int .i64 n)]) ∧ Below w.heap.size w w' := by
  go_enter Try.func36, Try.ntmps36
  go_wp2_with fail
  exact bodyPost_ret (v := .agg #[.iface 3 (.int .i64 n)]) (by simp [results, Try.results36, go_sem]) rfl ⟨rfl, (Below.refl _ _).alloc (Nat.le_refl _) _⟩
set_option maxRecDepth 100000 in
theorem text_any (s : ByteArray) (w : World) : Calls Try.prog 40 #[.string s] w fun e w' => e = .returned (.agg #[.iface 9 (.string s)]) ∧ Below w.heap.size w w' := by
  go_enter Try.func40, Try.ntmps40
  go_wp2_with fail
  exact bodyPost_ret (v := .agg #[.iface 9 (.string s)]) (by simp [results, Try.results40, go_sem]) rfl ⟨rfl, (Below.refl _ _).alloc (Nat.le_refl _) _⟩
def partB (n : Int) : Bool := decide (-9007199254740992 ≤ n) && decide (n ≤ 9007199254740992)
set_option maxRecDepth 100000 in
theorem maybe_any (n : Int) (w : World) : Calls Try.prog 63 #[.int .i64 n] w fun e w' => e = .returned (.bool (partB n)) ∧ w = w' := by
  by_cases h1 : -9007199254740992 ≤ n
  · have E : Hid (decide (n ≤ 9007199254740992) = partB n) := by show _ = _; simp [partB, h1]
    go_enter Try.func63, Try.ntmps63
    go_wp2_with fail
    go_ret
    exact ⟨ret_bool E.out, rfl⟩
  · have E : Hid (false = partB n) := by show _ = _; simp [partB, h1]
    go_enter Try.func63, Try.ntmps63
    go_wp2_with fail
    go_ret
    exact ⟨ret_bool E.out, rfl⟩
set_option maxRecDepth 100000 in
theorem float_of (n : Int) (w : World) : (convert 3 106 (.int .i64 n)).run Try.prog w = .ok (.float .f64 (floatOfInt .f64 n)) w := by
  simp [convert, run_underlying Try.underlying3, run_underlying Try.underlying106, Conv.intToFloat, floatOfInt]
set_option maxRecDepth 100000 in
theorem run_complex (ts : Array TypeId) (t : TypeId) (re im : Nat) (w : World) : (Builtin.complex_ ts t #[.float .f64 re, .float .f64 im]).run Try.prog w = .ok (.complex .f64 re im) w := rfl
set_option maxRecDepth 100000 in
theorem run_assert (A : TypeId) (d : TypeDesc) (z : Value) (hu : Try.prog.underlying A = some d) (hd : ∀ m, d ≠ .interface m) (hz : ∀ w, (zeroValue A).run Try.prog w = .ok z w) (x t : TypeId) (v : Value) (w : World) :
    (Instr.typeAssert (.iface t v) x A true).run Try.prog w = .ok (if t = A then .tuple #[v, .bool true] else .tuple #[z, .bool false]) w := by
  unfold Instr.typeAssert
  cases d <;> first | (exact absurd rfl (hd _)) | (by_cases h : t = A <;> simp [h, hz, run_underlying hu])
set_option maxRecDepth 100000 in
theorem run_assert_nil (A : TypeId) (d : TypeDesc) (z : Value) (hu : Try.prog.underlying A = some d) (hd : ∀ m, d ≠ .interface m) (hz : ∀ w, (zeroValue A).run Try.prog w = .ok z w) (x : TypeId) (w : World) :
    (Instr.typeAssert .nilIface x A true).run Try.prog w = .ok (.tuple #[z, .bool false]) w := by
  unfold Instr.typeAssert
  cases d <;> first | (exact absurd rfl (hd _)) | (simp [hz, run_underlying hu])
set_option maxRecDepth 100000 in
theorem point_yes (n m : Int) (w : World) (hn : -9007199254740992 ≤ n ∧ n ≤ 9007199254740992) (hm : -9007199254740992 ≤ m ∧ m ≤ 9007199254740992) :
    Calls Try.prog 33 #[.int .i64 n, .int .i64 m] w fun e w' => e = .returned (.tuple #[.agg #[.iface 105 (.complex .f64 (floatOfInt .f64 n) (floatOfInt .f64 m))], .int .i64 0]) ∧ Below w.heap.size w w' := by
  have e1 : partB n = true := by simp [partB, hn.1, hn.2]
  have e2 : partB m = true := by simp [partB, hm.1, hm.2]
  have hcx := run_complex
  have f1 := float_of n
  have f2 := float_of m
  clear hn hm
  generalize floatOfInt .f64 n = N at *
  generalize floatOfInt .f64 m = M at *
  go_enter Try.func33, Try.ntmps33
  go_wp2_with fail
  refine (maybe_any _ _).mono ?_
  rintro e w1 ⟨rfl, rfl⟩
  go_wp2_with fail
  refine (maybe_any _ _).mono ?_
  rintro e w2 ⟨rfl, rfl⟩
  go_wp2_with fail
  exact bodyPost_ret (v := .tuple #[.agg #[.iface 105 (.complex .f64 N M)], .int .i64 0]) (by simp [results, Try.results33, go_sem]) rfl ⟨rfl, (Below.refl _ _).alloc (Nat.le_refl _) _⟩
set_option maxRecDepth 100000 in
theorem zv_later (w : World) : (zeroValue 113).run Try.prog w = .ok (.agg #[]) w := by kernel_rfl
set_option maxRecDepth 100000 in
theorem as_later (t : TypeId) (v : Value) (w : World) : (Instr.typeAssert (.iface t v) 20 113 true).run Try.prog w = .ok (if t = 113 then .tuple #[v, .bool true] else .tuple #[.agg #[], .bool false]) w := run_assert _ _ _ Try.underlying113 (by simp) zv_later _ _ _ _
set_option maxRecDepth 100000 in
theorem an_later (w : World) : (Instr.typeAssert .nilIface 20 113 true).run Try.prog w = .ok (.tuple #[.agg #[], .bool false]) w := run_assert_nil _ _ _ Try.underlying113 (by simp) zv_later _ _
set_option maxRecDepth 100000 in
theorem zv_bool (w : World) : (zeroValue 4).run Try.prog w = .ok (.bool false) w := by kernel_rfl
set_option maxRecDepth 100000 in
theorem as_bool (t : TypeId) (v : Value) (w : World) : (Instr.typeAssert (.iface t v) 20 4 true).run Try.prog w = .ok (if t = 4 then .tuple #[v, .bool true] else .tuple #[.bool false, .bool false]) w := run_assert _ _ _ Try.underlying4 (by simp) zv_bool _ _ _ _
set_option maxRecDepth 100000 in
theorem an_bool (w : World) : (Instr.typeAssert .nilIface 20 4 true).run Try.prog w = .ok (.tuple #[.bool false, .bool false]) w := run_assert_nil _ _ _ Try.underlying4 (by simp) zv_bool _ _
set_option maxRecDepth 100000 in
theorem zv_int (w : World) : (zeroValue 3).run Try.prog w = .ok (.int .i64 0) w := by kernel_rfl
set_option maxRecDepth 100000 in
theorem as_int (t : TypeId) (v : Value) (w : World) : (Instr.typeAssert (.iface t v) 20 3 true).run Try.prog w = .ok (if t = 3 then .tuple #[v, .bool true] else .tuple #[.int .i64 0, .bool false]) w := run_assert _ _ _ Try.underlying3 (by simp) zv_int _ _ _ _
set_option maxRecDepth 100000 in
theorem an_int (w : World) : (Instr.typeAssert .nilIface 20 3 true).run Try.prog w = .ok (.tuple #[.int .i64 0, .bool false]) w := run_assert_nil _ _ _ Try.underlying3 (by simp) zv_int _ _
set_option maxRecDepth 100000 in
theorem zv_complex (w : World) : (zeroValue 105).run Try.prog w = .ok (.complex .f64 0 0) w := by kernel_rfl
set_option maxRecDepth 100000 in
theorem as_complex (t : TypeId) (v : Value) (w : World) : (Instr.typeAssert (.iface t v) 20 105 true).run Try.prog w = .ok (if t = 105 then .tuple #[v, .bool true] else .tuple #[.complex .f64 0 0, .bool false]) w := run_assert _ _ _ Try.underlying105 (by simp) zv_complex _ _ _ _
set_option maxRecDepth 100000 in
theorem an_complex (w : World) : (Instr.typeAssert .nilIface 20 105 true).run Try.prog w = .ok (.tuple #[.complex .f64 0 0, .bool false]) w := run_assert_nil _ _ _ Try.underlying105 (by simp) zv_complex _ _
set_option maxRecDepth 100000 in
theorem zv_string (w : World) : (zeroValue 9).run Try.prog w = .ok (.string ByteArray.empty) w := by kernel_rfl
set_option maxRecDepth 100000 in
theorem as_string (t : TypeId) (v : Value) (w : World) : (Instr.typeAssert (.iface t v) 20 9 true).run Try.prog w = .ok (if t = 9 then .tuple #[v, .bool true] else .tuple #[.string ByteArray.empty, .bool false]) w := run_assert _ _ _ Try.underlying9 (by simp) zv_string _ _ _ _
set_option maxRecDepth 100000 in
theorem an_string (w : World) : (Instr.typeAssert .nilIface 20 9 true).run Try.prog w = .ok (.tuple #[.string ByteArray.empty, .bool false]) w := run_assert_nil _ _ _ Try.underlying9 (by simp) zv_string _ _
set_option maxRecDepth 100000 in
theorem zv_group (w : World) : (zeroValue 91).run Try.prog w = .ok (.pointer none) w := by kernel_rfl
set_option maxRecDepth 100000 in
theorem as_group (t : TypeId) (v : Value) (w : World) : (Instr.typeAssert (.iface t v) 20 91 true).run Try.prog w = .ok (if t = 91 then .tuple #[v, .bool true] else .tuple #[.pointer none, .bool false]) w := run_assert _ _ _ Try.underlying91 (by simp) zv_group _ _ _ _
set_option maxRecDepth 100000 in
theorem an_group (w : World) : (Instr.typeAssert .nilIface 20 91 true).run Try.prog w = .ok (.tuple #[.pointer none, .bool false]) w := run_assert_nil _ _ _ Try.underlying91 (by simp) zv_group _ _
set_option maxRecDepth 100000 in
theorem zv_table (w : World) : (zeroValue 114).run Try.prog w = .ok (.pointer none) w := by kernel_rfl
set_option maxRecDepth 100000 in
theorem as_table (t : TypeId) (v : Value) (w : World) : (Instr.typeAssert (.iface t v) 20 114 true).run Try.prog w = .ok (if t = 114 then .tuple #[v, .bool true] else .tuple #[.pointer none, .bool false]) w := run_assert _ _ _ Try.underlying114 (by simp) zv_table _ _ _ _
set_option maxRecDepth 100000 in
theorem an_table (w : World) : (Instr.typeAssert .nilIface 20 114 true).run Try.prog w = .ok (.tuple #[.pointer none, .bool false]) w := run_assert_nil _ _ _ Try.underlying114 (by simp) zv_table _ _
set_option maxRecDepth 100000 in
theorem kindOf_any {w0 : World} {ok : Nat → Prop} {h : Value} {v : V} (hr : Rep w0 ok h v) (w : World) : Calls Try.prog 53 #[h] w fun e w' => e = .returned (.int .i64 v.k) ∧ w = w' := by
  induction hr using Rep.ind
  all_goals have aL := as_later
  all_goals have aB := as_bool
  all_goals have aI := as_int
  all_goals have aC := as_complex
  all_goals have aS := as_string
  all_goals have aG := as_group
  all_goals have aT := as_table
  all_goals have nL := an_later
  all_goals have nB := an_bool
  all_goals have nI := an_int
  all_goals have nC := an_complex
  all_goals have nS := an_string
  all_goals have nG := an_group
  all_goals have nT := an_table
  all_goals
    go_enter Try.func53, Try.ntmps53
    go_wp2_with fail
    go_ret
    exact ⟨rfl, rfl⟩
end Go.Proofs.Ytigdcnoggjcddaa

namespace Go.Proofs.Ytigdcnoggjcddaa
open Go.RowKit Go.Maps

/-- What a value tells as a bool, an int, a text, a point's part. -/
def V.gb (v : V) : Bool := v.k == 2 && v.b
def V.gn (v : V) : Int := if v.k = 3 then v.n else 0
def V.gs (v : V) : ByteArray := if v.k = 5 then v.s else ByteArray.empty
def V.gre (v : V) : Int := if v.k = 4 then v.n else 0
def V.gim (v : V) : Int := if v.k = 4 then v.m else 0
def V.isK (v : V) (k : Int) : Bool := v.k == k
set_option maxRecDepth 100000 in
theorem kind_any {w0 : World} {ok : Nat → Prop} {h : Value} {v : V} (hr : Rep w0 ok h v) (w : World) : Calls Try.prog 27 #[.agg #[h]] w fun e w' => e = .returned (.int .i64 v.k) ∧ Below w.heap.size w w' := by
  go_enter Try.func27, Try.ntmps27
  go_wp2_with fail
  refine (kindOf_any hr _).mono ?_
  rintro e w1 ⟨rfl, rfl⟩
  go_wp2_with fail
  go_ret
  exact ⟨rfl, (Below.refl _ _).alloc (Nat.le_refl _) _⟩
set_option maxRecDepth 100000 in
theorem asBool_any {w0 : World} {ok : Nat → Prop} {h : Value} {v : V} (hr : Rep w0 ok h v) (w : World) : Calls Try.prog 68 #[h] w fun e w' => e = .returned (.tuple #[.bool v.gb, .bool (v.isK 2)]) ∧ w = w' := by
  induction hr using Rep.ind
  all_goals have a1 := as_bool
  all_goals have a2 := an_bool
  all_goals
    go_enter Try.func68, Try.ntmps68
    go_wp2_with fail
    exact bodyPost_ret (v := .tuple #[_, _]) (by simp [results, Try.results68, go_sem]; exact ⟨rfl, rfl⟩) rfl ⟨rfl, rfl⟩
set_option maxRecDepth 100000 in
theorem gbool_any {w0 : World} {ok : Nat → Prop} {h : Value} {v : V} (hr : Rep w0 ok h v) (w : World) : Calls Try.prog 43 #[.agg #[h]] w fun e w' => e = .returned (.tuple #[.bool v.gb, .bool (v.isK 2)]) ∧ Below w.heap.size w w' := by
  go_enter Try.func43, Try.ntmps43
  go_wp2_with fail
  refine (asBool_any hr _).mono ?_
  rintro e w1 ⟨rfl, rfl⟩
  go_wp2_with fail
  exact bodyPost_ret (v := .tuple #[_, _]) (by simp [results, Try.results43, go_sem]) rfl ⟨rfl, (Below.refl _ _).alloc (Nat.le_refl _) _⟩
set_option maxRecDepth 100000 in
theorem asInt_any {w0 : World} {ok : Nat → Prop} {h : Value} {v : V} (hr : Rep w0 ok h v) (w : World) : Calls Try.prog 67 #[h] w fun e w' => e = .returned (.tuple #[.int .i64 v.gn, .bool (v.isK 3)]) ∧ w = w' := by
  induction hr using Rep.ind
  all_goals have a1 := as_int
  all_goals have a2 := an_int
  all_goals
    go_enter Try.func67, Try.ntmps67
    go_wp2_with fail
    exact bodyPost_ret (v := .tuple #[_, _]) (by simp [results, Try.results67, go_sem]; exact ⟨rfl, rfl⟩) rfl ⟨rfl, rfl⟩
set_option maxRecDepth 100000 in
theorem gint_any {w0 : World} {ok : Nat → Prop} {h : Value} {v : V} (hr : Rep w0 ok h v) (w : World) : Calls Try.prog 37 #[.agg #[h]] w fun e w' => e = .returned (.tuple #[.int .i64 v.gn, .bool (v.isK 3)]) ∧ Below w.heap.size w w' := by
  go_enter Try.func37, Try.ntmps37
  go_wp2_with fail
  refine (asInt_any hr _).mono ?_
  rintro e w1 ⟨rfl, rfl⟩
  go_wp2_with fail
  exact bodyPost_ret (v := .tuple #[_, _]) (by simp [results, Try.results37, go_sem]) rfl ⟨rfl, (Below.refl _ _).alloc (Nat.le_refl _) _⟩
set_option maxRecDepth 100000 in
theorem asText_any {w0 : World} {ok : Nat → Prop} {h : Value} {v : V} (hr : Rep w0 ok h v) (w : World) : Calls Try.prog 69 #[h] w fun e w' => e = .returned (.tuple #[.string v.gs, .bool (v.isK 5)]) ∧ w = w' := by
  induction hr using Rep.ind
  all_goals have a1 := as_string
  all_goals have a2 := an_string
  all_goals
    go_enter Try.func69, Try.ntmps69
    go_wp2_with fail
    exact bodyPost_ret (v := .tuple #[_, _]) (by simp [results, Try.results69, go_sem]; exact ⟨rfl, rfl⟩) rfl ⟨rfl, rfl⟩
set_option maxRecDepth 100000 in
theorem gtext_any {w0 : World} {ok : Nat → Prop} {h : Value} {v : V} (hr : Rep w0 ok h v) (w : World) : Calls Try.prog 44 #[.agg #[h]] w fun e w' => e = .returned (.tuple #[.string v.gs, .bool (v.isK 5)]) ∧ Below w.heap.size w w' := by
  go_enter Try.func44, Try.ntmps44
  go_wp2_with fail
  refine (asText_any hr _).mono ?_
  rintro e w1 ⟨rfl, rfl⟩
  go_wp2_with fail
  exact bodyPost_ret (v := .tuple #[_, _]) (by simp [results, Try.results44, go_sem]) rfl ⟨rfl, (Below.refl _ _).alloc (Nat.le_refl _) _⟩
set_option maxRecDepth 100000 in
theorem asPoint_any {w0 : World} {ok : Nat → Prop} {h : Value} {v : V} (hr : Rep w0 ok h v) (w : World) : Calls Try.prog 64 #[h] w fun e w' => ∃ re im, e = .returned (.tuple #[.complex .f64 re im, .bool (v.isK 4)]) ∧ floatToIntVal .f64 re .i64 = some v.gre ∧ floatToIntVal .f64 im .i64 = some v.gim ∧ w = w' := by
  have hz : floatToIntVal .f64 0 .i64 = some 0 := by decide +kernel
  induction hr using Rep.ind
  case point n m hn hm =>
    have a1 := as_complex
    have b1 := float_back n hn
    have b2 := float_back m hm
    generalize floatOfInt .f64 n = N at *
    generalize floatOfInt .f64 m = M at *
    go_enter Try.func64, Try.ntmps64
    go_wp2_with fail
    exact bodyPost_ret (v := .tuple #[_, _]) (by simp [results, Try.results64, go_sem]; rfl) rfl ⟨N, M, rfl, b1, b2, rfl⟩
  all_goals have a1 := as_complex
  all_goals have a2 := an_complex
  all_goals
    go_enter Try.func64, Try.ntmps64
    go_wp2_with fail
    exact bodyPost_ret (v := .tuple #[_, _]) (by simp [results, Try.results64, go_sem]; rfl) rfl ⟨0, 0, rfl, hz, hz, rfl⟩
set_option maxRecDepth 100000 in
theorem run_real (ts : Array TypeId) (t : TypeId) (re im : Nat) (w : World) : (Builtin.real_ ts t #[.complex .f64 re im]).run Try.prog w = .ok (.float .f64 re) w := rfl
set_option maxRecDepth 100000 in
theorem run_imag (ts : Array TypeId) (t : TypeId) (re im : Nat) (w : World) : (Builtin.imag_ ts t #[.complex .f64 re im]).run Try.prog w = .ok (.float .f64 im) w := rfl
set_option maxRecDepth 100000 in
theorem gpoint_any {w0 : World} {ok : Nat → Prop} {h : Value} {v : V} (hr : Rep w0 ok h v) (w : World) : Calls Try.prog 34 #[.agg #[h]] w fun e w' => e = .returned (.tuple #[.int .i64 v.gre, .int .i64 v.gim, .bool (v.isK 4)]) ∧ Below w.heap.size w w' := by
  have r1 := run_real
  have r2 := run_imag
  go_enter Try.func34, Try.ntmps34
  go_wp2_with fail
  refine (asPoint_any hr _).mono ?_
  rintro e w1 ⟨re, im, rfl, f1, f2, rfl⟩
  have c1 := fun W => run_convert_float_int (P := Try.prog) W 106 3 .f64 .i64 re v.gre (by rw [Try.underlying106]; rfl) Try.underlying3 f1
  have c2 := fun W => run_convert_float_int (P := Try.prog) W 106 3 .f64 .i64 im v.gim (by rw [Try.underlying106]; rfl) Try.underlying3 f2
  clear f1 f2
  go_wp2_with fail
  exact bodyPost_ret (v := .tuple #[_, _, _]) (by simp [results, Try.results34, go_sem]) rfl ⟨rfl, (Below.refl _ _).alloc (Nat.le_refl _) _⟩
end Go.Proofs.Ytigdcnoggjcddaa

