/- What measureOf answers of a value: how deep and great it is, whether all is known, whether it is right. Condition: the value lies in memory. -/
import Derived.Test.YtepohbcpepkboaaGreatVRep
import Derived.Test.YtepohbcpepkboaaGreatVarA
namespace Go.Proofs.YtepohbcpepkboaaGreat
open Go.RowKit Go.Maps

set_option maxRecDepth 100000 in
theorem unset_any (w : World) : Calls Tryz.prog 34 #[] w fun e w' => e = .returned (.agg #[.nilIface]) ∧ Below w.heap.size w w' := by
  go_enter Tryz.func34, Tryz.ntmps34
  go_wp2_with fail
  exact bodyPost_ret (v := .agg #[.nilIface]) (by simp [results, Tryz.results34, go_sem]) rfl ⟨rfl, (Below.refl _ _).alloc (Nat.le_refl _) _⟩
set_option maxRecDepth 100000 in
theorem later_any (w : World) : Calls Tryz.prog 28 #[] w fun e w' => e = .returned (.agg #[.iface 107 (.agg #[])]) ∧ Below w.heap.size w w' := by
  go_enter Tryz.func28, Tryz.ntmps28
  go_wp2_with fail
  exact bodyPost_ret (v := .agg #[.iface 107 (.agg #[])]) (by simp [results, Tryz.results28, go_sem]) rfl ⟨rfl, (Below.refl _ _).alloc (Nat.le_refl _) _⟩
set_option maxRecDepth 100000 in
theorem of_bool_any (b : Bool) (w : World) : Calls Tryz.prog 29 #[.bool b] w fun e w' => e = .returned (.agg #[.iface 4 (.bool b)]) ∧ Below w.heap.size w w' := by
  go_enter Tryz.func29, Tryz.ntmps29
  go_wp2_with fail
  exact bodyPost_ret (v := .agg #[.iface 4 (.bool b)]) (by simp [results, Tryz.results29, go_sem]) rfl ⟨rfl, (Below.refl _ _).alloc (Nat.le_refl _) _⟩
set_option maxRecDepth 100000 in
theorem int_any (n : Int) (w : World) : Calls Tryz.prog 23 #[.int .i64 n] w fun e w' => e = .returned (.agg #[.iface 3 (.int .i64 n)]) ∧ Below w.heap.size w w' := by
  go_enter Tryz.func23, Tryz.ntmps23
  go_wp2_with fail
  exact bodyPost_ret (v := .agg #[.iface 3 (.int .i64 n)]) (by simp [results, Tryz.results23, go_sem]) rfl ⟨rfl, (Below.refl _ _).alloc (Nat.le_refl _) _⟩
set_option maxRecDepth 100000 in
theorem text_any (s : ByteArray) (w : World) : Calls Tryz.prog 31 #[.string s] w fun e w' => e = .returned (.agg #[.iface 9 (.string s)]) ∧ Below w.heap.size w w' := by
  go_enter Tryz.func31, Tryz.ntmps31
  go_wp2_with fail
  exact bodyPost_ret (v := .agg #[.iface 9 (.string s)]) (by simp [results, Tryz.results31, go_sem]) rfl ⟨rfl, (Below.refl _ _).alloc (Nat.le_refl _) _⟩
def partB (n : Int) : Bool := decide (-9007199254740992 ≤ n) && decide (n ≤ 9007199254740992)
set_option maxRecDepth 100000 in
theorem maybe_any (n : Int) (w : World) : Calls Tryz.prog 54 #[.int .i64 n] w fun e w' => e = .returned (.bool (partB n)) ∧ w = w' := by
  by_cases h1 : -9007199254740992 ≤ n
  · have E : Hid (decide (n ≤ 9007199254740992) = partB n) := by show _ = _; simp [partB, h1]
    go_enter Tryz.func54, Tryz.ntmps54
    go_wp2_with fail
    go_ret
    exact ⟨ret_bool E.out, rfl⟩
  · have E : Hid (false = partB n) := by show _ = _; simp [partB, h1]
    go_enter Tryz.func54, Tryz.ntmps54
    go_wp2_with fail
    go_ret
    exact ⟨ret_bool E.out, rfl⟩
set_option maxRecDepth 100000 in
theorem float_of (n : Int) (w : World) : (convert 3 110 (.int .i64 n)).run Tryz.prog w = .ok (.float .f64 (floatOfInt .f64 n)) w := by
  simp [convert, run_underlying Tryz.underlying3, run_underlying Tryz.underlying110, Conv.intToFloat, floatOfInt]
set_option maxRecDepth 100000 in
theorem run_complex (ts : Array TypeId) (t : TypeId) (re im : Nat) (w : World) : (Builtin.complex_ ts t #[.float .f64 re, .float .f64 im]).run Tryz.prog w = .ok (.complex .f64 re im) w := rfl
set_option maxRecDepth 100000 in
theorem run_assert (A : TypeId) (d : TypeDesc) (z : Value) (hu : Tryz.prog.underlying A = some d) (hd : ∀ m, d ≠ .interface m) (hz : ∀ w, (zeroValue A).run Tryz.prog w = .ok z w) (x t : TypeId) (v : Value) (w : World) :
    (Instr.typeAssert (.iface t v) x A true).run Tryz.prog w = .ok (if t = A then .tuple #[v, .bool true] else .tuple #[z, .bool false]) w := by
  unfold Instr.typeAssert
  cases d <;> first | (exact absurd rfl (hd _)) | (by_cases h : t = A <;> simp [h, hz, run_underlying hu])
set_option maxRecDepth 100000 in
theorem run_assert_nil (A : TypeId) (d : TypeDesc) (z : Value) (hu : Tryz.prog.underlying A = some d) (hd : ∀ m, d ≠ .interface m) (hz : ∀ w, (zeroValue A).run Tryz.prog w = .ok z w) (x : TypeId) (w : World) :
    (Instr.typeAssert .nilIface x A true).run Tryz.prog w = .ok (.tuple #[z, .bool false]) w := by
  unfold Instr.typeAssert
  cases d <;> first | (exact absurd rfl (hd _)) | (simp [hz, run_underlying hu])
set_option maxRecDepth 100000 in
theorem point_yes (n m : Int) (w : World) (hn : -9007199254740992 ≤ n ∧ n ≤ 9007199254740992) (hm : -9007199254740992 ≤ m ∧ m ≤ 9007199254740992) :
    Calls Tryz.prog 30 #[.int .i64 n, .int .i64 m] w fun e w' => e = .returned (.tuple #[.agg #[.iface 109 (.complex .f64 (floatOfInt .f64 n) (floatOfInt .f64 m))], .int .i64 0]) ∧ Below w.heap.size w w' := by
  have e1 : partB n = true := by simp [partB, hn.1, hn.2]
  have e2 : partB m = true := by simp [partB, hm.1, hm.2]
  have hcx := run_complex
  have f1 := float_of n
  have f2 := float_of m
  clear hn hm
  generalize floatOfInt .f64 n = N at *
  generalize floatOfInt .f64 m = M at *
  go_enter Tryz.func30, Tryz.ntmps30
  go_wp2_with fail
  refine (maybe_any _ _).mono ?_
  rintro e w1 ⟨rfl, rfl⟩
  go_wp2_with fail
  refine (maybe_any _ _).mono ?_
  rintro e w2 ⟨rfl, rfl⟩
  go_wp2_with fail
  exact bodyPost_ret (v := .tuple #[.agg #[.iface 109 (.complex .f64 N M)], .int .i64 0]) (by simp [results, Tryz.results30, go_sem]) rfl ⟨rfl, (Below.refl _ _).alloc (Nat.le_refl _) _⟩
set_option maxRecDepth 100000 in
theorem zv_later (w : World) : (zeroValue 107).run Tryz.prog w = .ok (.agg #[]) w := by kernel_rfl
set_option maxRecDepth 100000 in
theorem as_later (t : TypeId) (v : Value) (w : World) : (Instr.typeAssert (.iface t v) 20 107 true).run Tryz.prog w = .ok (if t = 107 then .tuple #[v, .bool true] else .tuple #[.agg #[], .bool false]) w := run_assert _ _ _ Tryz.underlying107 (by simp) zv_later _ _ _ _
set_option maxRecDepth 100000 in
theorem an_later (w : World) : (Instr.typeAssert .nilIface 20 107 true).run Tryz.prog w = .ok (.tuple #[.agg #[], .bool false]) w := run_assert_nil _ _ _ Tryz.underlying107 (by simp) zv_later _ _
set_option maxRecDepth 100000 in
theorem zv_bool (w : World) : (zeroValue 4).run Tryz.prog w = .ok (.bool false) w := by kernel_rfl
set_option maxRecDepth 100000 in
theorem as_bool (t : TypeId) (v : Value) (w : World) : (Instr.typeAssert (.iface t v) 20 4 true).run Tryz.prog w = .ok (if t = 4 then .tuple #[v, .bool true] else .tuple #[.bool false, .bool false]) w := run_assert _ _ _ Tryz.underlying4 (by simp) zv_bool _ _ _ _
set_option maxRecDepth 100000 in
theorem an_bool (w : World) : (Instr.typeAssert .nilIface 20 4 true).run Tryz.prog w = .ok (.tuple #[.bool false, .bool false]) w := run_assert_nil _ _ _ Tryz.underlying4 (by simp) zv_bool _ _
set_option maxRecDepth 100000 in
theorem zv_int (w : World) : (zeroValue 3).run Tryz.prog w = .ok (.int .i64 0) w := by kernel_rfl
set_option maxRecDepth 100000 in
theorem as_int (t : TypeId) (v : Value) (w : World) : (Instr.typeAssert (.iface t v) 20 3 true).run Tryz.prog w = .ok (if t = 3 then .tuple #[v, .bool true] else .tuple #[.int .i64 0, .bool false]) w := run_assert _ _ _ Tryz.underlying3 (by simp) zv_int _ _ _ _
set_option maxRecDepth 100000 in
theorem an_int (w : World) : (Instr.typeAssert .nilIface 20 3 true).run Tryz.prog w = .ok (.tuple #[.int .i64 0, .bool false]) w := run_assert_nil _ _ _ Tryz.underlying3 (by simp) zv_int _ _
set_option maxRecDepth 100000 in
theorem zv_complex (w : World) : (zeroValue 109).run Tryz.prog w = .ok (.complex .f64 0 0) w := by kernel_rfl
set_option maxRecDepth 100000 in
theorem as_complex (t : TypeId) (v : Value) (w : World) : (Instr.typeAssert (.iface t v) 20 109 true).run Tryz.prog w = .ok (if t = 109 then .tuple #[v, .bool true] else .tuple #[.complex .f64 0 0, .bool false]) w := run_assert _ _ _ Tryz.underlying109 (by simp) zv_complex _ _ _ _
set_option maxRecDepth 100000 in
theorem an_complex (w : World) : (Instr.typeAssert .nilIface 20 109 true).run Tryz.prog w = .ok (.tuple #[.complex .f64 0 0, .bool false]) w := run_assert_nil _ _ _ Tryz.underlying109 (by simp) zv_complex _ _
set_option maxRecDepth 100000 in
theorem zv_string (w : World) : (zeroValue 9).run Tryz.prog w = .ok (.string ByteArray.empty) w := by kernel_rfl
set_option maxRecDepth 100000 in
theorem as_string (t : TypeId) (v : Value) (w : World) : (Instr.typeAssert (.iface t v) 20 9 true).run Tryz.prog w = .ok (if t = 9 then .tuple #[v, .bool true] else .tuple #[.string ByteArray.empty, .bool false]) w := run_assert _ _ _ Tryz.underlying9 (by simp) zv_string _ _ _ _
set_option maxRecDepth 100000 in
theorem an_string (w : World) : (Instr.typeAssert .nilIface 20 9 true).run Tryz.prog w = .ok (.tuple #[.string ByteArray.empty, .bool false]) w := run_assert_nil _ _ _ Tryz.underlying9 (by simp) zv_string _ _
set_option maxRecDepth 100000 in
theorem zv_group (w : World) : (zeroValue 94).run Tryz.prog w = .ok (.pointer none) w := by kernel_rfl
set_option maxRecDepth 100000 in
theorem as_group (t : TypeId) (v : Value) (w : World) : (Instr.typeAssert (.iface t v) 20 94 true).run Tryz.prog w = .ok (if t = 94 then .tuple #[v, .bool true] else .tuple #[.pointer none, .bool false]) w := run_assert _ _ _ Tryz.underlying94 (by simp) zv_group _ _ _ _
set_option maxRecDepth 100000 in
theorem an_group (w : World) : (Instr.typeAssert .nilIface 20 94 true).run Tryz.prog w = .ok (.tuple #[.pointer none, .bool false]) w := run_assert_nil _ _ _ Tryz.underlying94 (by simp) zv_group _ _
set_option maxRecDepth 100000 in
theorem zv_table (w : World) : (zeroValue 141).run Tryz.prog w = .ok (.pointer none) w := by kernel_rfl
set_option maxRecDepth 100000 in
theorem as_table (t : TypeId) (v : Value) (w : World) : (Instr.typeAssert (.iface t v) 20 141 true).run Tryz.prog w = .ok (if t = 141 then .tuple #[v, .bool true] else .tuple #[.pointer none, .bool false]) w := run_assert _ _ _ Tryz.underlying141 (by simp) zv_table _ _ _ _
set_option maxRecDepth 100000 in
theorem an_table (w : World) : (Instr.typeAssert .nilIface 20 141 true).run Tryz.prog w = .ok (.tuple #[.pointer none, .bool false]) w := run_assert_nil _ _ _ Tryz.underlying141 (by simp) zv_table _ _
set_option maxRecDepth 100000 in
theorem kindOf_any {w0 : World} {ok : Nat → Prop} {h : Value} {v : V} (hr : Rep w0 ok h v) (w : World) : Calls Tryz.prog 46 #[h] w fun e w' => e = .returned (.int .i64 v.k) ∧ w = w' := by
  induction hr using Rep.ind
  all_goals have aL := as_later
  all_goals have aB := as_bool
  all_goals have aI := as_int
  all_goals have aC := as_complex
  all_goals have aS := as_string
  all_goals have aG := as_group
  all_goals have aT := as_table
  all_goals have nL := an_later
  all_goals have nB := an_bool
  all_goals have nI := an_int
  all_goals have nC := an_complex
  all_goals have nS := an_string
  all_goals have nG := an_group
  all_goals have nT := an_table
  all_goals
    go_enter Tryz.func46, Tryz.ntmps46
    go_wp2_with fail
    go_ret
    exact ⟨rfl, rfl⟩
end Go.Proofs.YtepohbcpepkboaaGreat

namespace Go.Proofs.YtepohbcpepkboaaGreat
open Go.RowKit Go.Maps

/-- What a value tells as a bool, an int, a text, a point's part. -/
def V.gb (v : V) : Bool := v.k == 2 && v.b
def V.gn (v : V) : Int := if v.k = 3 then v.n else 0
def V.gs (v : V) : ByteArray := if v.k = 5 then v.s else ByteArray.empty
def V.gre (v : V) : Int := if v.k = 4 then v.n else 0
def V.gim (v : V) : Int := if v.k = 4 then v.m else 0
def V.isK (v : V) (k : Int) : Bool := v.k == k
set_option maxRecDepth 100000 in
theorem kind_any {w0 : World} {ok : Nat → Prop} {h : Value} {v : V} (hr : Rep w0 ok h v) (w : World) : Calls Tryz.prog 16 #[.agg #[h]] w fun e w' => e = .returned (.int .i64 v.k) ∧ Below w.heap.size w w' := by
  go_enter Tryz.func16, Tryz.ntmps16
  go_wp2_with fail
  refine (kindOf_any hr _).mono ?_
  rintro e w1 ⟨rfl, rfl⟩
  go_wp2_with fail
  go_ret
  exact ⟨rfl, (Below.refl _ _).alloc (Nat.le_refl _) _⟩
set_option maxRecDepth 100000 in
theorem asBool_any {w0 : World} {ok : Nat → Prop} {h : Value} {v : V} (hr : Rep w0 ok h v) (w : World) : Calls Tryz.prog 71 #[h] w fun e w' => e = .returned (.tuple #[.bool v.gb, .bool (v.isK 2)]) ∧ w = w' := by
  induction hr using Rep.ind
  all_goals have a1 := as_bool
  all_goals have a2 := an_bool
  all_goals
    go_enter Tryz.func71, Tryz.ntmps71
    go_wp2_with fail
    exact bodyPost_ret (v := .tuple #[_, _]) (by simp [results, Tryz.results71, go_sem]; exact ⟨rfl, rfl⟩) rfl ⟨rfl, rfl⟩
set_option maxRecDepth 100000 in
theorem gbool_any {w0 : World} {ok : Nat → Prop} {h : Value} {v : V} (hr : Rep w0 ok h v) (w : World) : Calls Tryz.prog 40 #[.agg #[h]] w fun e w' => e = .returned (.tuple #[.bool v.gb, .bool (v.isK 2)]) ∧ Below w.heap.size w w' := by
  go_enter Tryz.func40, Tryz.ntmps40
  go_wp2_with fail
  refine (asBool_any hr _).mono ?_
  rintro e w1 ⟨rfl, rfl⟩
  go_wp2_with fail
  exact bodyPost_ret (v := .tuple #[_, _]) (by simp [results, Tryz.results40, go_sem]) rfl ⟨rfl, (Below.refl _ _).alloc (Nat.le_refl _) _⟩
set_option maxRecDepth 100000 in
theorem asInt_any {w0 : World} {ok : Nat → Prop} {h : Value} {v : V} (hr : Rep w0 ok h v) (w : World) : Calls Tryz.prog 49 #[h] w fun e w' => e = .returned (.tuple #[.int .i64 v.gn, .bool (v.isK 3)]) ∧ w = w' := by
  induction hr using Rep.ind
  all_goals have a1 := as_int
  all_goals have a2 := an_int
  all_goals
    go_enter Tryz.func49, Tryz.ntmps49
    go_wp2_with fail
    exact bodyPost_ret (v := .tuple #[_, _]) (by simp [results, Tryz.results49, go_sem]; exact ⟨rfl, rfl⟩) rfl ⟨rfl, rfl⟩
set_option maxRecDepth 100000 in
theorem gint_any {w0 : World} {ok : Nat → Prop} {h : Value} {v : V} (hr : Rep w0 ok h v) (w : World) : Calls Tryz.prog 24 #[.agg #[h]] w fun e w' => e = .returned (.tuple #[.int .i64 v.gn, .bool (v.isK 3)]) ∧ Below w.heap.size w w' := by
  go_enter Tryz.func24, Tryz.ntmps24
  go_wp2_with fail
  refine (asInt_any hr _).mono ?_
  rintro e w1 ⟨rfl, rfl⟩
  go_wp2_with fail
  exact bodyPost_ret (v := .tuple #[_, _]) (by simp [results, Tryz.results24, go_sem]) rfl ⟨rfl, (Below.refl _ _).alloc (Nat.le_refl _) _⟩
set_option maxRecDepth 100000 in
theorem asText_any {w0 : World} {ok : Nat → Prop} {h : Value} {v : V} (hr : Rep w0 ok h v) (w : World) : Calls Tryz.prog 73 #[h] w fun e w' => e = .returned (.tuple #[.string v.gs, .bool (v.isK 5)]) ∧ w = w' := by
  induction hr using Rep.ind
  all_goals have a1 := as_string
  all_goals have a2 := an_string
  all_goals
    go_enter Tryz.func73, Tryz.ntmps73
    go_wp2_with fail
    exact bodyPost_ret (v := .tuple #[_, _]) (by simp [results, Tryz.results73, go_sem]; exact ⟨rfl, rfl⟩) rfl ⟨rfl, rfl⟩
set_option maxRecDepth 100000 in
theorem gtext_any {w0 : World} {ok : Nat → Prop} {h : Value} {v : V} (hr : Rep w0 ok h v) (w : World) : Calls Tryz.prog 42 #[.agg #[h]] w fun e w' => e = .returned (.tuple #[.string v.gs, .bool (v.isK 5)]) ∧ Below w.heap.size w w' := by
  go_enter Tryz.func42, Tryz.ntmps42
  go_wp2_with fail
  refine (asText_any hr _).mono ?_
  rintro e w1 ⟨rfl, rfl⟩
  go_wp2_with fail
  exact bodyPost_ret (v := .tuple #[_, _]) (by simp [results, Tryz.results42, go_sem]) rfl ⟨rfl, (Below.refl _ _).alloc (Nat.le_refl _) _⟩
set_option maxRecDepth 100000 in
theorem asPoint_any {w0 : World} {ok : Nat → Prop} {h : Value} {v : V} (hr : Rep w0 ok h v) (w : World) : Calls Tryz.prog 72 #[h] w fun e w' => ∃ re im, e = .returned (.tuple #[.complex .f64 re im, .bool (v.isK 4)]) ∧ floatToIntVal .f64 re .i64 = some v.gre ∧ floatToIntVal .f64 im .i64 = some v.gim ∧ w = w' := by
  have hz : floatToIntVal .f64 0 .i64 = some 0 := by decide +kernel
  induction hr using Rep.ind
  case point n m hn hm =>
    have a1 := as_complex
    have b1 := float_back n hn
    have b2 := float_back m hm
    generalize floatOfInt .f64 n = N at *
    generalize floatOfInt .f64 m = M at *
    go_enter Tryz.func72, Tryz.ntmps72
    go_wp2_with fail
    exact bodyPost_ret (v := .tuple #[_, _]) (by simp [results, Tryz.results72, go_sem]; rfl) rfl ⟨N, M, rfl, b1, b2, rfl⟩
  all_goals have a1 := as_complex
  all_goals have a2 := an_complex
  all_goals
    go_enter Tryz.func72, Tryz.ntmps72
    go_wp2_with fail
    exact bodyPost_ret (v := .tuple #[_, _]) (by simp [results, Tryz.results72, go_sem]; rfl) rfl ⟨0, 0, rfl, hz, hz, rfl⟩
set_option maxRecDepth 100000 in
theorem run_real (ts : Array TypeId) (t : TypeId) (re im : Nat) (w : World) : (Builtin.real_ ts t #[.complex .f64 re im]).run Tryz.prog w = .ok (.float .f64 re) w := rfl
set_option maxRecDepth 100000 in
theorem run_imag (ts : Array TypeId) (t : TypeId) (re im : Nat) (w : World) : (Builtin.imag_ ts t #[.complex .f64 re im]).run Tryz.prog w = .ok (.float .f64 im) w := rfl
set_option maxRecDepth 100000 in
theorem gpoint_any {w0 : World} {ok : Nat → Prop} {h : Value} {v : V} (hr : Rep w0 ok h v) (w : World) : Calls Tryz.prog 41 #[.agg #[h]] w fun e w' => e = .returned (.tuple #[.int .i64 v.gre, .int .i64 v.gim, .bool (v.isK 4)]) ∧ Below w.heap.size w w' := by
  have r1 := run_real
  have r2 := run_imag
  go_enter Tryz.func41, Tryz.ntmps41
  go_wp2_with fail
  refine (asPoint_any hr _).mono ?_
  rintro e w1 ⟨re, im, rfl, f1, f2, rfl⟩
  have c1 := fun W => run_convert_float_int (P := Tryz.prog) W 110 3 .f64 .i64 re v.gre (by rw [Tryz.underlying110]; rfl) Tryz.underlying3 f1
  have c2 := fun W => run_convert_float_int (P := Tryz.prog) W 110 3 .f64 .i64 im v.gim (by rw [Tryz.underlying110]; rfl) Tryz.underlying3 f2
  clear f1 f2
  go_wp2_with fail
  exact bodyPost_ret (v := .tuple #[_, _, _]) (by simp [results, Tryz.results41, go_sem]) rfl ⟨rfl, (Below.refl _ _).alloc (Nat.le_refl _) _⟩
end Go.Proofs.YtepohbcpepkboaaGreat

namespace Go.Proofs.YtepohbcpepkboaaGreat
open Go.RowKit Go.Maps

set_option maxRecDepth 100000 in
theorem tooLong_any (s : ByteArray) (w : World) : Calls Tryz.prog 77 #[.string s] w fun e w' => e = .returned (.bool (decide (256 < s.size))) ∧ w = w' := by
  go_enter Tryz.func77, Tryz.ntmps77
  go_wp2_with fail
  go_ret
  exact ⟨ret_bool (by rw [Bool.eq_iff_iff, decide_eq_true_iff, decide_eq_true_iff]; omega), rfl⟩
set_option maxRecDepth 100000 in
theorem addUp_any (a b : Int) (w : World) (ha : 0 ≤ a ∧ a ≤ 4294967296) (hb : 0 ≤ b ∧ b ≤ 4294967296) : Calls Tryz.prog 103 #[.int .i64 a, .int .i64 b] w fun e w' => e = .returned (.int .i64 (a + b)) ∧ w = w' := by
  obtain ⟨a0, a1⟩ := ha
  obtain ⟨b0, b1⟩ := hb
  have h1 : ¬ 9223372036854775807 - b < a := by omega
  go_enter Tryz.func103, Tryz.ntmps103
  go_wp2_with fail
  go_ret
  exact ⟨rfl, rfl⟩
set_option maxRecDepth 100000 in
theorem right_text (s : ByteArray) : (V.mk 5 false 0 0 s [] []).right = decide (s.size ≤ 256) := by
  simp [V.right, V.deep, V.fits, V.deep.go, V.fits.go]
def V.meas (v : V) : Value := .agg #[.int .i64 (v.deep : Nat), .int .i64 (v.size : Nat), .bool v.known, .bool v.right]
set_option maxRecDepth 100000 in
set_option maxHeartbeats 3200000 in
theorem measOf_any {w0 : World} {ok : Nat → Prop} {h : Value} {v : V} (hr : Rep w0 ok h v) (w : World) (hb : Below w0.heap.size w0 w) : Calls Tryz.prog 47 #[h] w fun e w' => e = .returned v.meas ∧ Below w.heap.size w w' := by
  have hr1 := hr.stays hb
  clear hr hb
  induction hr1 using Rep.ind
  case text s hs =>
    have aL := as_later
    have aS := as_string
    have aG := as_group
    have aT := as_table
    have E : Hid ((V.mk 5 false 0 0 s [] []).meas = .agg #[.int .i64 1, .int .i64 1, .bool true, .bool (!decide (256 < s.size))]) := by
      show V.meas _ = _
      rw [V.meas, right_text]
      have : (!decide (256 < s.size)) = decide (s.size ≤ 256) := by rw [Bool.eq_iff_iff]; simp
      rw [this]
      simp [V.deep, V.size, V.known, V.deep.go, V.size.go, V.known.go]
    generalize (V.mk 5 false 0 0 s [] []).meas = R at *
    go_enter Tryz.func47, Tryz.ntmps47
    go_wp2_with fail
    refine (tooLong_any _ _).mono ?_
    rintro e w1 ⟨rfl, rfl⟩
    go_wp2_with fail
    refine bodyPost_ret (v := .agg #[.int .i64 1, .int .i64 1, .bool true, .bool (!decide (256 < s.size))]) (by simp [results, Tryz.results47, go_sem]) rfl ⟨by rw [E.out], ?_⟩
    exact ((Below.refl _ _).alloc (Nat.le_refl _) _).alloc (by simp) _
  case list B l a c H hBo ha c0 c1 c2 c3 c4 hrow hin _ih =>
    have aG := as_group
    have hB : B < w.heap.size := World.block_lt_of_cell? w ⟨B, 0, none⟩ c0
    unfold V.meas
    clear ha c4 hrow hin _ih
    generalize (V.mk 6 false 0 0 ByteArray.empty l []).deep = X0 at *
    generalize (V.mk 6 false 0 0 ByteArray.empty l []).size = X1 at *
    generalize (V.mk 6 false 0 0 ByteArray.empty l []).known = X2 at *
    generalize (V.mk 6 false 0 0 ByteArray.empty l []).right = X3 at *
    go_enter Tryz.func47, Tryz.ntmps47
    go_wp2_with fail
    exact bodyPost_ret (v := .agg #[.int .i64 X0, .int .i64 X1, .bool X2, .bool X3]) (by simp [results, Tryz.results47, go_sem]) rfl ⟨rfl, ((Below.refl _ _).alloc (Nat.le_refl _) _).alloc (by simp) _⟩
  case map B M l q a c ka kc H hBo hMo ha hka hq c0 c1 c2 c3 c4 c5 c6 hk hM hrow hin _ih =>
    have aG := as_group
    have aT := as_table
    have hB : B < w.heap.size := World.block_lt_of_cell? w ⟨B, 0, none⟩ c0
    unfold V.meas
    clear ha hka hq c4 c5 c6 hk hM hrow hin _ih
    generalize (V.mk 7 false 0 0 ByteArray.empty l q).deep = X0 at *
    generalize (V.mk 7 false 0 0 ByteArray.empty l q).size = X1 at *
    generalize (V.mk 7 false 0 0 ByteArray.empty l q).known = X2 at *
    generalize (V.mk 7 false 0 0 ByteArray.empty l q).right = X3 at *
    go_enter Tryz.func47, Tryz.ntmps47
    go_wp2_with fail
    exact bodyPost_ret (v := .agg #[.int .i64 X0, .int .i64 X1, .bool X2, .bool X3]) (by simp [results, Tryz.results47, go_sem]) rfl ⟨rfl, ((Below.refl _ _).alloc (Nat.le_refl _) _).alloc (by simp) _⟩
  case later =>
    have aL := as_later
    have aG := as_group
    have aT := as_table
    have E : Hid ((V.mk 1 false 0 0 ByteArray.empty [] []).meas = .agg #[.int .i64 1, .int .i64 1, .bool false, .bool true]) := by
      show V.meas _ = _
      simp [V.meas, V.deep, V.size, V.known, V.right, V.fits, V.deep.go, V.size.go, V.known.go, V.fits.go]
    generalize (V.mk 1 false 0 0 ByteArray.empty [] []).meas = R at *
    go_enter Tryz.func47, Tryz.ntmps47
    go_wp2_with fail
    refine bodyPost_ret (v := .agg #[.int .i64 1, .int .i64 1, .bool false, .bool true]) (by simp [results, Tryz.results47, go_sem]) rfl ⟨by rw [E.out], ?_⟩
    exact (((Below.refl _ _).alloc (Nat.le_refl _) _).alloc (by simp) _).alloc (by simp; omega) _
  all_goals have aL := as_later
  all_goals have aS := as_string
  all_goals have aG := as_group
  all_goals have aT := as_table
  all_goals have nL := an_later
  all_goals have nS := an_string
  all_goals have nG := an_group
  all_goals have nT := an_table
  case null =>
    have E : Hid (V.null.meas = .agg #[.int .i64 1, .int .i64 1, .bool true, .bool true]) := by
      show V.meas _ = _
      simp [V.null, V.meas, V.deep, V.size, V.known, V.right, V.fits, V.deep.go, V.size.go, V.known.go, V.fits.go]
    generalize V.null.meas = R at *
    go_enter Tryz.func47, Tryz.ntmps47
    go_wp2_with fail
    refine bodyPost_ret (v := .agg #[.int .i64 1, .int .i64 1, .bool true, .bool true]) (by simp [results, Tryz.results47, go_sem]) rfl ⟨by rw [E.out], ?_⟩
    exact ((Below.refl _ _).alloc (Nat.le_refl _) _).alloc (by simp) _
  case bool b =>
    have E : Hid ((V.mk 2 b 0 0 ByteArray.empty [] []).meas = .agg #[.int .i64 1, .int .i64 1, .bool true, .bool true]) := by
      show V.meas _ = _
      simp [V.meas, V.deep, V.size, V.known, V.right, V.fits, V.deep.go, V.size.go, V.known.go, V.fits.go]
    generalize (V.mk 2 b 0 0 ByteArray.empty [] []).meas = R at *
    go_enter Tryz.func47, Tryz.ntmps47
    go_wp2_with fail
    refine bodyPost_ret (v := .agg #[.int .i64 1, .int .i64 1, .bool true, .bool true]) (by simp [results, Tryz.results47, go_sem]) rfl ⟨by rw [E.out], ?_⟩
    exact ((Below.refl _ _).alloc (Nat.le_refl _) _).alloc (by simp) _
  case int n hn =>
    have E : Hid ((V.mk 3 false n 0 ByteArray.empty [] []).meas = .agg #[.int .i64 1, .int .i64 1, .bool true, .bool true]) := by
      show V.meas _ = _
      simp [V.meas, V.deep, V.size, V.known, V.right, V.fits, V.deep.go, V.size.go, V.known.go, V.fits.go]
    generalize (V.mk 3 false n 0 ByteArray.empty [] []).meas = R at *
    go_enter Tryz.func47, Tryz.ntmps47
    go_wp2_with fail
    refine bodyPost_ret (v := .agg #[.int .i64 1, .int .i64 1, .bool true, .bool true]) (by simp [results, Tryz.results47, go_sem]) rfl ⟨by rw [E.out], ?_⟩
    exact ((Below.refl _ _).alloc (Nat.le_refl _) _).alloc (by simp) _
  case point n m hn hm =>
    have E : Hid ((V.mk 4 false n m ByteArray.empty [] []).meas = .agg #[.int .i64 1, .int .i64 1, .bool true, .bool true]) := by
      show V.meas _ = _
      simp [V.meas, V.deep, V.size, V.known, V.right, V.fits, V.deep.go, V.size.go, V.known.go, V.fits.go]
    generalize (V.mk 4 false n m ByteArray.empty [] []).meas = R at *
    generalize floatOfInt .f64 n = N at *
    generalize floatOfInt .f64 m = M at *
    go_enter Tryz.func47, Tryz.ntmps47
    go_wp2_with fail
    refine bodyPost_ret (v := .agg #[.int .i64 1, .int .i64 1, .bool true, .bool true]) (by simp [results, Tryz.results47, go_sem]) rfl ⟨by rw [E.out], ?_⟩
    exact ((Below.refl _ _).alloc (Nat.le_refl _) _).alloc (by simp) _
end Go.Proofs.YtepohbcpepkboaaGreat

