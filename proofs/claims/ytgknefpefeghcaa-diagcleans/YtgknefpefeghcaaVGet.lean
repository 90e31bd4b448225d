/- What the program's values are made of, and told: Unset, Later, Of, Int, Text, Point; Kind, Bool, Int, Text, Point. Conditions: ints and texts that can be. -/
import Derived.Test.YtgknefpefeghcaaVRep
import Derived.Test.YtgknefpefeghcaaVarA
namespace Go.Proofs.Ytgknefpefeghcaa
open Go.RowKit Go.Maps

set_option maxRecDepth 100000 in
theorem later_any (w : World) : Calls Try.prog 25 #[] w fun e w' => e = .returned (.agg #[.iface 98 (.agg #[])]) ∧ Below w.heap.size w w' := by
  go_enter Try.func25, Try.ntmps25
  go_wp2_with fail
  exact bodyPost_ret (v := .agg #[.iface 98 (.agg #[])]) (by simp [results, Try.results25, go_sem]) rfl ⟨rfl, (Below.refl _ _).alloc (Nat.le_refl _) _⟩
def partB (n : Int) : Bool := decide (-9007199254740992 ≤ n) && decide (n ≤ 9007199254740992)
set_option maxRecDepth 100000 in
theorem run_complex (ts : Array TypeId) (t : TypeId) (re im : Nat) (w : World) : (Builtin.complex_ ts t #[.float .f64 re, .float .f64 im]).run Try.prog w = .ok (.complex .f64 re im) w := rfl
set_option maxRecDepth 100000 in
theorem run_assert (A : TypeId) (d : TypeDesc) (z : Value) (hu : Try.prog.underlying A = some d) (hd : ∀ m, d ≠ .interface m) (hz : ∀ w, (zeroValue A).run Try.prog w = .ok z w) (x t : TypeId) (v : Value) (w : World) :
    (Instr.typeAssert (.iface t v) x A true).run Try.prog w = .ok (if t = A then .tuple #[v, .bool true] else .tuple #[z, .bool false]) w := by
  unfold Instr.typeAssert
  cases d <;> first | (exact absurd rfl (hd _)) | (by_cases h : t = A <;> simp [h, hz, run_underlying hu])
set_option maxRecDepth 100000 in
theorem run_assert_nil (A : TypeId) (d : TypeDesc) (z : Value) (hu : Try.prog.underlying A = some d) (hd : ∀ m, d ≠ .interface m) (hz : ∀ w, (zeroValue A).run Try.prog w = .ok z w) (x : TypeId) (w : World) :
    (Instr.typeAssert .nilIface x A true).run Try.prog w = .ok (.tuple #[z, .bool false]) w := by
  unfold Instr.typeAssert
  cases d <;> first | (exact absurd rfl (hd _)) | (simp [hz, run_underlying hu])
set_option maxRecDepth 100000 in
theorem zv_later (w : World) : (zeroValue 98).run Try.prog w = .ok (.agg #[]) w := by kernel_rfl
set_option maxRecDepth 100000 in
theorem as_later (t : TypeId) (v : Value) (w : World) : (Instr.typeAssert (.iface t v) 20 98 true).run Try.prog w = .ok (if t = 98 then .tuple #[v, .bool true] else .tuple #[.agg #[], .bool false]) w := run_assert _ _ _ Try.underlying98 (by simp) zv_later _ _ _ _
set_option maxRecDepth 100000 in
theorem an_later (w : World) : (Instr.typeAssert .nilIface 20 98 true).run Try.prog w = .ok (.tuple #[.agg #[], .bool false]) w := run_assert_nil _ _ _ Try.underlying98 (by simp) zv_later _ _
set_option maxRecDepth 100000 in
theorem zv_bool (w : World) : (zeroValue 4).run Try.prog w = .ok (.bool false) w := by kernel_rfl
set_option maxRecDepth 100000 in
theorem as_bool (t : TypeId) (v : Value) (w : World) : (Instr.typeAssert (.iface t v) 20 4 true).run Try.prog w = .ok (if t = 4 then .tuple #[v, .bool true] else .tuple #[.bool false, .bool false]) w := run_assert _ _ _ Try.underlying4 (by simp) zv_bool _ _ _ _
set_option maxRecDepth 100000 in
theorem an_bool (w : World) : (Instr.typeAssert .nilIface 20 4 true).run Try.prog w = .ok (.tuple #[.bool false, .bool false]) w := run_assert_nil _ _ _ Try.underlying4 (by simp) zv_bool _ _
set_option maxRecDepth 100000 in
theorem zv_int (w : World) : (zeroValue 3).run Try.prog w = .ok (.int .i64 0) w := by kernel_rfl
set_option maxRecDepth 100000 in
theorem as_int (t : TypeId) (v : Value) (w : World) : (Instr.typeAssert (.iface t v) 20 3 true).run Try.prog w = .ok (if t = 3 then .tuple #[v, .bool true] else .tuple #[.int .i64 0, .bool false]) w := run_assert _ _ _ Try.underlying3 (by simp) zv_int _ _ _ _
set_option maxRecDepth 100000 in
theorem an_int (w : World) : (Instr.typeAssert .nilIface 20 3 true).run Try.prog w = .ok (.tuple #[.int .i64 0, .bool false]) w := run_assert_nil _ _ _ Try.underlying3 (by simp) zv_int _ _
set_option maxRecDepth 100000 in
theorem zv_complex (w : World) : (zeroValue 191).run Try.prog w = .ok (.complex .f64 0 0) w := by kernel_rfl
set_option maxRecDepth 100000 in
theorem as_complex (t : TypeId) (v : Value) (w : World) : (Instr.typeAssert (.iface t v) 20 191 true).run Try.prog w = .ok (if t = 191 then .tuple #[v, .bool true] else .tuple #[.complex .f64 0 0, .bool false]) w := run_assert _ _ _ Try.underlying191 (by simp) zv_complex _ _ _ _
set_option maxRecDepth 100000 in
theorem an_complex (w : World) : (Instr.typeAssert .nilIface 20 191 true).run Try.prog w = .ok (.tuple #[.complex .f64 0 0, .bool false]) w := run_assert_nil _ _ _ Try.underlying191 (by simp) zv_complex _ _
set_option maxRecDepth 100000 in
theorem zv_string (w : World) : (zeroValue 9).run Try.prog w = .ok (.string ByteArray.empty) w := by kernel_rfl
set_option maxRecDepth 100000 in
theorem as_string (t : TypeId) (v : Value) (w : World) : (Instr.typeAssert (.iface t v) 20 9 true).run Try.prog w = .ok (if t = 9 then .tuple #[v, .bool true] else .tuple #[.string ByteArray.empty, .bool false]) w := run_assert _ _ _ Try.underlying9 (by simp) zv_string _ _ _ _
set_option maxRecDepth 100000 in
theorem an_string (w : World) : (Instr.typeAssert .nilIface 20 9 true).run Try.prog w = .ok (.tuple #[.string ByteArray.empty, .bool false]) w := run_assert_nil _ _ _ Try.underlying9 (by simp) zv_string _ _
set_option maxRecDepth 100000 in
theorem zv_group (w : World) : (zeroValue 174).run Try.prog w = .ok (.pointer none) w := by kernel_rfl
set_option maxRecDepth 100000 in
theorem as_group (t : TypeId) (v : Value) (w : World) : (Instr.typeAssert (.iface t v) 20 174 true).run Try.prog w = .ok (if t = 174 then .tuple #[v, .bool true] else .tuple #[.pointer none, .bool false]) w := run_assert _ _ _ Try.underlying174 (by simp) zv_group _ _ _ _
set_option maxRecDepth 100000 in
theorem an_group (w : World) : (Instr.typeAssert .nilIface 20 174 true).run Try.prog w = .ok (.tuple #[.pointer none, .bool false]) w := run_assert_nil _ _ _ Try.underlying174 (by simp) zv_group _ _
set_option maxRecDepth 100000 in
theorem zv_table (w : World) : (zeroValue 187).run Try.prog w = .ok (.pointer none) w := by kernel_rfl
set_option maxRecDepth 100000 in
theorem as_table (t : TypeId) (v : Value) (w : World) : (Instr.typeAssert (.iface t v) 20 187 true).run Try.prog w = .ok (if t = 187 then .tuple #[v, .bool true] else .tuple #[.pointer none, .bool false]) w := run_assert _ _ _ Try.underlying187 (by simp) zv_table _ _ _ _
set_option maxRecDepth 100000 in
theorem an_table (w : World) : (Instr.typeAssert .nilIface 20 187 true).run Try.prog w = .ok (.tuple #[.pointer none, .bool false]) w := run_assert_nil _ _ _ Try.underlying187 (by simp) zv_table _ _
set_option maxRecDepth 100000 in
theorem kindOf_any {w0 : World} {ok : Nat → Prop} {h : Value} {v : V} (hr : Rep w0 ok h v) (w : World) : Calls Try.prog 104 #[h] w fun e w' => e = .returned (.int .i64 v.k) ∧ w = w' := by
  induction hr using Rep.ind
  all_goals have aL := as_later
  all_goals have aB := as_bool
  all_goals have aI := as_int
  all_goals have aC := as_complex
  all_goals have aS := as_string
  all_goals have aG := as_group
  all_goals have aT := as_table
  all_goals have nL := an_later
  all_goals have nB := an_bool
  all_goals have nI := an_int
  all_goals have nC := an_complex
  all_goals have nS := an_string
  all_goals have nG := an_group
  all_goals have nT := an_table
  all_goals
    go_enter Try.func104, Try.ntmps104
    go_wp2_with fail
    go_ret
    exact ⟨rfl, rfl⟩
end Go.Proofs.Ytgknefpefeghcaa
