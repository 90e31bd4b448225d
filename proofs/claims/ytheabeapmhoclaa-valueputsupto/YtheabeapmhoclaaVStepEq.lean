/- Whether two steps are the same: what == of them answers. No conditions; no function of the program. -/
import Derived.Test.YtheabeapmhoclaaVPairs
import Derived.Test.YtheabeapmhoclaaVPutsP
namespace Go.Proofs.Ytheabeapmhoclaa
open Go.RowKit Go.Maps
/-- Are two steps the same? -/
def sameSt (s t : St) : Bool := decide (s.key = t.key) && decide (s.at_ = t.at_)
set_option maxRecDepth 100000 in
theorem sameSt_iff (s t : St) : sameSt s t = true ↔ s = t := by
  obtain ⟨a, i⟩ := s
  obtain ⟨b, j⟩ := t
  unfold sameSt
  rw [Bool.and_eq_true, decide_eq_true_iff, decide_eq_true_iff, St.mk.injEq]
section
variable (W : World)
set_option maxRecDepth 100000 in
theorem fieldsSt : ((Try.prog.fieldsOf 42).toList.map (fun f => (decide (f.name = "_"), f.type, f.offset))) = [(false, 9, 0), (false, 3, 1)] := by kernel_rfl
set_option maxRecDepth 100000 in
theorem fieldsSt2 : ∃ f g : Field, (Try.prog.fieldsOf 42).toList = [f, g] ∧ (f.name ≠ "_" ∧ f.type = 9 ∧ f.offset = 0) ∧ (g.name ≠ "_" ∧ g.type = 3 ∧ g.offset = 1) := by
  have h := fieldsSt
  generalize (Try.prog.fieldsOf 42).toList = l at h
  have hl : l.length = 2 := by have := congrArg List.length h; simpa using this
  match l, hl, h with
  | [f, g], _, h =>
    simp at h
    exact ⟨f, g, rfl, h.1, h.2⟩
set_option maxRecDepth 100000 in
theorem structSt : Try.prog.underlying 42 = some (.struct (Try.prog.fieldsOf 42)) := by kernel_rfl
set_option maxRecDepth 100000 in
theorem str_in (d : Nat) (a b : ByteArray) : (Op.equalIn (d + 1) 9 (.string a) (.string b)).run Try.prog W = .ok (decide (a = b)) W := by
  have e : (a == b) = decide (a = b) := by
    rw [Bool.eq_iff_iff, decide_eq_true_iff]
    exact MapKept.bytes_beq a b
  rw [← e]
  simp [Op.equalIn, run_underlying Try.underlying9]
set_option maxRecDepth 100000 in
theorem int_in (d : Nat) (a b : Int) : (Op.equalIn (d + 1) 3 (.int .i64 a) (.int .i64 b)).run Try.prog W = .ok (decide (a = b)) W := by
  simp [Op.equalIn, run_underlying Try.underlying3]
  by_cases h : a = b
  · subst h; simp
  · simp [h]
set_option maxRecDepth 100000 in
theorem step_in (d : Nat) (s t : St) : (Op.equalIn (d + 2) 42 (.agg #[.string s.key, .int .i64 s.at_]) (.agg #[.string t.key, .int .i64 t.at_])).run Try.prog W = .ok (sameSt s t) W := by
  obtain ⟨f, g, e, ⟨n1, t1, o1⟩, n2, t2, o2⟩ := fieldsSt2
  rw [run_equalIn_struct W (d + 1) 42 _ _ structSt (by kernel_rfl), e]
  have h1 := str_in W d s.key t.key
  have h2 := int_in W d s.at_ t.at_
  have ps : ∀ (i : Nat) (k : ByteArray) (cs : Array Value), cs[i]? = some (.string k) → (part 9 cs i).run Try.prog W = .ok (.string k) W := fun i k cs h => by simp [part, go_sem, h]
  have pi : ∀ (i : Nat) (k : Int) (cs : Array Value), cs[i]? = some (.int .i64 k) → (part 3 cs i).run Try.prog W = .ok (.int .i64 k) W := fun i k cs h => by simp [part, go_sem, h]
  have p0 := ps 0 s.key #[.string s.key, .int .i64 s.at_] rfl
  have p1 := pi 1 s.at_ #[.string s.key, .int .i64 s.at_] rfl
  have q0 := ps 0 t.key #[.string t.key, .int .i64 t.at_] rfl
  have q1 := pi 1 t.at_ #[.string t.key, .int .i64 t.at_] rfl
  unfold sameSt
  generalize decide (s.key = t.key) = r1 at h1
  generalize decide (s.at_ = t.at_) = r2 at h2
  simp only [Op.eqFields, n1, n2, ne_eq, not_false_eq_true, if_true, t1, t2, o1, o2, Sem.run_bind, p0, q0, Result.andThen_ok, h1]
  cases r1
  · simp
  · simp only [Bool.not_true, Bool.false_eq_true, if_false, Sem.run_bind, p1, q1, Result.andThen_ok, h2]
    cases r2 <;> simp
set_option maxRecDepth 100000 in
theorem eql_step (s t : St) : (binOp .eql 42 (.agg #[.string s.key, .int .i64 s.at_]) (.agg #[.string t.key, .int .i64 t.at_])).run Try.prog W = .ok (.bool (sameSt s t)) W := by
  simp only [binOp]
  simp [Op.equal, Op.maxDepth, step_in W 9998 s t]
end
end Go.Proofs.Ytheabeapmhoclaa
