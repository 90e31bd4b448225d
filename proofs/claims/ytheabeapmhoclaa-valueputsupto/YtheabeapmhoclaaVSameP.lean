/- What Same leans on: which values hold the same, told by the interface; what a value holds tells the value. No conditions; no function of the program. -/
import Derived.Test.YtheabeapmhoclaaVRep
import Derived.Test.YtheabeapmhoclaaVFloatB
import Derived.LaidEql
namespace Go.Proofs.Ytheabeapmhoclaa
open Go.RowKit Go.Maps

/-- The values that stand in a block, and its measure. -/
structure Grp (w : World) (B : Nat) (v : V) (H : Nat → Value) (a : Option Addr) (c : Nat) : Prop where
  plain : PlainB w B
  ok : SliceOk a v.l.length c
  c0 : w.cell? ⟨B, 0, none⟩ = some (.int .i64 (v.deep : Nat))
  c1 : w.cell? ⟨B, 1, none⟩ = some (.int .i64 (v.size : Nat))
  c2 : w.cell? ⟨B, 2, none⟩ = some (.bool v.known)
  c3 : w.cell? ⟨B, 3, none⟩ = some (.bool v.right)
  c4 : w.cell? ⟨B, 4, none⟩ = some (.slice a v.l.length c)
  row : HRow w (fun _ => True) a v.l.length H
  rep : ∀ j (hj : j < v.l.length), Rep w (fun _ => True) (H j) v.l[j]

/-- How a value without others is held. -/
def Leaf (h : Value) (v : V) : Prop :=
  (h = .nilIface ∧ v = V.null) ∨ (h = .iface 113 (.agg #[]) ∧ v = .mk 1 false 0 0 ByteArray.empty [] []) ∨ (∃ b, h = .iface 4 (.bool b) ∧ v = .mk 2 b 0 0 ByteArray.empty [] []) ∨
  (∃ n, h = .iface 3 (.int .i64 n) ∧ v = .mk 3 false n 0 ByteArray.empty [] []) ∨
  (∃ n m, (-9007199254740992 ≤ n ∧ n ≤ 9007199254740992) ∧ (-9007199254740992 ≤ m ∧ m ≤ 9007199254740992) ∧ h = .iface 105 (.complex .f64 (floatOfInt .f64 n) (floatOfInt .f64 m)) ∧ v = .mk 4 false n m ByteArray.empty [] []) ∨
  (∃ s, h = .iface 9 (.string s) ∧ v = .mk 5 false 0 0 s [] [])
def IsList (w : World) (h : Value) (v : V) : Prop := ∃ B l H a c, Grp w B (.mk 6 false 0 0 ByteArray.empty l []) H a c ∧ PlainT w B 95 ∧ h = .iface 91 (.pointer (some ⟨B, 0, none⟩)) ∧ v = .mk 6 false 0 0 ByteArray.empty l []
def IsMap (w : World) (h : Value) (v : V) : Prop := ∃ B l q H a c ka kc, Grp w B (.mk 7 false 0 0 ByteArray.empty l q) H a c ∧ PlainT w B 117 ∧ q.length = l.length ∧ SliceOk ka q.length kc ∧ w.cell? ⟨B, 5, none⟩ = some (.slice ka q.length kc) ∧ SRow w (fun _ => True) ka q ∧ h = .iface 114 (.pointer (some ⟨B, 0, none⟩)) ∧ v = .mk 7 false 0 0 ByteArray.empty l q
set_option maxRecDepth 100000 in
theorem Rep.held {w : World} {h : Value} {v : V} (hr : Rep w (fun _ => True) h v) : Leaf h v ∨ IsList w h v ∨ IsMap w h v := by
  induction hr using Rep.ind with
  | null => exact .inl (.inl ⟨rfl, rfl⟩)
  | later => exact .inl (.inr (.inl ⟨rfl, rfl⟩))
  | bool b => exact .inl (.inr (.inr (.inl ⟨b, rfl, rfl⟩)))
  | int n h => exact .inl (.inr (.inr (.inr (.inl ⟨n, rfl, rfl⟩))))
  | point n m hn hm => exact .inl (.inr (.inr (.inr (.inr (.inl ⟨n, m, hn, hm, rfl, rfl⟩)))))
  | text s h => exact .inl (.inr (.inr (.inr (.inr (.inr ⟨s, rfl, rfl⟩)))))
  | list B l a c H hB ha c0 c1 c2 c3 c4 hr hin ih => exact .inr (.inl ⟨B, l, H, a, c, ⟨hB.2.plain, ha, c0, c1, c2, c3, c4, hr, hin⟩, hB.2, rfl, rfl⟩)
  | map B M l q a c ka kc H hB hMo ha hka hq c0 c1 c2 c3 c4 c5 c6 hk hM hr hin ih => exact .inr (.inr ⟨B, l, q, H, a, c, ka, kc, ⟨hB.2.plain, ha, c0, c1, c2, c3, c4, hr, hin⟩, hB.2, hq, hka, c5, hk, rfl, rfl⟩)

section
variable (W : World)
set_option maxRecDepth 100000 in
theorem info_comp {E : TypeId} (h : (Try.prog.info? E).map (fun i => i.comparable) = some true) : ∃ i, Try.prog.info? E = some i ∧ i.comparable = true := by
  obtain ⟨i, hi, hz⟩ := Option.map_eq_some_iff.1 h
  exact ⟨i, hi, hz⟩
set_option maxRecDepth 100000 in
theorem eql_any_nil_in (d : Nat) : (Op.equalIn (d + 2) 20 .nilIface .nilIface).run Try.prog W = .ok true W := by
  simp [Op.equalIn, run_underlying Try.underlying20]
set_option maxRecDepth 100000 in
theorem eql_any_nil : (binOp .eql 20 .nilIface .nilIface).run Try.prog W = .ok (.bool true) W := by
  simp only [binOp]
  simp [Op.equal, Op.maxDepth, eql_any_nil_in W 9998]
set_option maxRecDepth 100000 in
theorem eql_nil_any_in (d : Nat) (t : TypeId) (x : Value) : (Op.equalIn (d + 2) 20 .nilIface (.iface t x)).run Try.prog W = .ok false W := by
  simp [Op.equalIn, run_underlying Try.underlying20]
set_option maxRecDepth 100000 in
theorem eql_nil_any (t : TypeId) (x : Value) : (binOp .eql 20 .nilIface (.iface t x)).run Try.prog W = .ok (.bool false) W := by
  simp only [binOp]
  simp [Op.equal, Op.maxDepth, eql_nil_any_in W 9998 t x]
set_option maxRecDepth 100000 in
theorem eql_some_nil_in (d : Nat) (t : TypeId) (x : Value) : (Op.equalIn (d + 2) 20 (.iface t x) .nilIface).run Try.prog W = .ok false W := by
  simp [Op.equalIn, run_underlying Try.underlying20]
set_option maxRecDepth 100000 in
theorem eql_some_nil (t : TypeId) (x : Value) : (binOp .eql 20 (.iface t x) .nilIface).run Try.prog W = .ok (.bool false) W := by
  simp only [binOp]
  simp [Op.equal, Op.maxDepth, eql_some_nil_in W 9998 t x]
set_option maxRecDepth 100000 in
theorem eql_diff_in (d : Nat) (t u : TypeId) (x y : Value) (h : t ≠ u) : (Op.equalIn (d + 2) 20 (.iface t x) (.iface u y)).run Try.prog W = .ok false W := by
  simp [Op.equalIn, run_underlying Try.underlying20, h]
set_option maxRecDepth 100000 in
theorem eql_diff (t u : TypeId) (x y : Value) (h : t ≠ u) : (binOp .eql 20 (.iface t x) (.iface u y)).run Try.prog W = .ok (.bool false) W := by
  simp only [binOp]
  simp [Op.equal, Op.maxDepth, eql_diff_in W 9998 t u x y h]
set_option maxRecDepth 100000 in
theorem eql_later : (binOp .eql 20 (.iface 113 (.agg #[])) (.iface 113 (.agg #[]))).run Try.prog W = .ok (.bool true) W := by
  kernel_rfl
set_option maxRecDepth 100000 in
theorem eql_bool_in (d : Nat) (a b : Bool) : (Op.equalIn (d + 2) 20 (.iface 4 (.bool a)) (.iface 4 (.bool b))).run Try.prog W = .ok (a == b) W := by
  obtain ⟨i, hi, hc⟩ := info_comp (E := 4) (by kernel_rfl)
  simp [Op.equalIn, run_underlying Try.underlying20, run_underlying Try.underlying4, typeInfo, hi, hc]
set_option maxRecDepth 100000 in
theorem eql_bool (a b : Bool) : (binOp .eql 20 (.iface 4 (.bool a)) (.iface 4 (.bool b))).run Try.prog W = .ok (.bool (a == b)) W := by
  simp only [binOp]
  simp [Op.equal, Op.maxDepth, eql_bool_in W 9998 a b]
set_option maxRecDepth 100000 in
theorem eql_int_in (d : Nat) (a b : Int) : (Op.equalIn (d + 2) 20 (.iface 3 (.int .i64 a)) (.iface 3 (.int .i64 b))).run Try.prog W = .ok (a == b) W := by
  obtain ⟨i, hi, hc⟩ := info_comp (E := 3) (by kernel_rfl)
  simp [Op.equalIn, run_underlying Try.underlying20, run_underlying Try.underlying3, typeInfo, hi, hc]
set_option maxRecDepth 100000 in
theorem eql_int (a b : Int) : (binOp .eql 20 (.iface 3 (.int .i64 a)) (.iface 3 (.int .i64 b))).run Try.prog W = .ok (.bool (a == b)) W := by
  simp only [binOp]
  simp [Op.equal, Op.maxDepth, eql_int_in W 9998 a b]
set_option maxRecDepth 100000 in
theorem eql_text_in (d : Nat) (a b : ByteArray) : (Op.equalIn (d + 2) 20 (.iface 9 (.string a)) (.iface 9 (.string b))).run Try.prog W = .ok (a == b) W := by
  obtain ⟨i, hi, hc⟩ := info_comp (E := 9) (by kernel_rfl)
  simp [Op.equalIn, run_underlying Try.underlying20, run_underlying Try.underlying9, typeInfo, hi, hc]
set_option maxRecDepth 100000 in
theorem eql_text (a b : ByteArray) : (binOp .eql 20 (.iface 9 (.string a)) (.iface 9 (.string b))).run Try.prog W = .ok (.bool (a == b)) W := by
  simp only [binOp]
  simp [Op.equal, Op.maxDepth, eql_text_in W 9998 a b]
set_option maxRecDepth 100000 in
theorem eql_point_in (d : Nat) (a b c e : Nat) : (Op.equalIn (d + 2) 20 (.iface 105 (.complex .f64 a b)) (.iface 105 (.complex .f64 c e))).run Try.prog W = .ok (Op.floatEq .f64 a c && Op.floatEq .f64 b e) W := by
  obtain ⟨i, hi, hc⟩ := info_comp (E := 105) (by kernel_rfl)
  simp [Op.equalIn, run_underlying Try.underlying20, run_underlying Try.underlying105, typeInfo, hi, hc]
set_option maxRecDepth 100000 in
theorem eql_point (a b c e : Nat) : (binOp .eql 20 (.iface 105 (.complex .f64 a b)) (.iface 105 (.complex .f64 c e))).run Try.prog W = .ok (.bool (Op.floatEq .f64 a c && Op.floatEq .f64 b e)) W := by
  simp only [binOp]
  simp [Op.equal, Op.maxDepth, eql_point_in W 9998 a b c e]
end
end Go.Proofs.Ytheabeapmhoclaa
