/- What a value holds tells the value. No conditions; no function of the program. -/
import Derived.Test.YtepohbcpepkboaaGreatVRep
import Derived.LaidEql
namespace Go.Proofs.YtepohbcpepkboaaGreat
open Ieee

/-- So far down a float's places reach. -/
def farD (k : Nat) : Nat := 2 ^ k
set_option maxRecDepth 100000 in
theorem farD_pos (k : Nat) : 0 < farD k := Nat.two_pow_pos k
set_option maxRecDepth 100000 in
theorem farD_succ (k : Nat) : farD (k + 1) = farD k * 2 := Nat.pow_succ 2 k
set_option maxRecDepth 100000 in
theorem farD_add (d k : Nat) : 2 ^ d * farD k = farD (d + k) := (Nat.pow_add 2 d k).symm
set_option maxRecDepth 100000 in
/-- What a whole number's float reads as: that number, so many places down. -/
theorem read_int (n : Int) (h : -9007199254740992 ≤ n ∧ n ≤ 9007199254740992) : ∃ (s : Bool) (m : Nat) (i : Int), FloatKind.f64.format.read (floatOfInt .f64 n) = .number s m i ∧ -1074 ≤ i ∧ m * farD (i + 1074).toNat = n.natAbs * farD 1074 ∧ (n ≠ 0 → s = decide (n < 0)) := by
  by_cases h0 : n = 0
  · subst h0
    exact ⟨false, 0, -1074, by decide +kernel, by decide, by rw [Nat.zero_mul, Int.natAbs_zero, Nat.zero_mul], by simp⟩
  · have e : FloatKind.f64.format.read (floatOfInt .f64 n) = double.read (double.nearest (decide (n < 0)) n.natAbs 0) := rfl
    have hm0 : n.natAbs ≠ 0 := by omega
    have hmx : n.natAbs ≤ 9007199254740992 := by omega
    rw [e]
    generalize n.natAbs = mag at *
    have h1 := Nat.log2_self_le hm0
    have hL : mag.log2 ≤ 53 := by
      have hlt : mag.log2 < 54 := by
        rw [Nat.log2_lt hm0]; omega
      omega
    by_cases h53 : mag.log2 = 53
    · have hm : mag = 9007199254740992 := by rw [h53] at h1; omega
      subst hm
      refine ⟨decide (n < 0), 4503599627370496, 1, ?_, by decide, ?_, fun _ => rfl⟩
      · cases decide (n < 0) <;> decide +kernel
      · have e5 : ((1 : Int) + 1074).toNat = 1074 + 1 := rfl
        rw [e5, farD_succ]
        omega
    · obtain ⟨d, hd⟩ : ∃ d, mag.log2 + d = 52 := ⟨52 - mag.log2, by omega⟩
      have hb := kept_bounds mag d hm0 hd
      have hd' : d ≤ 52 := by omega
      have hw := word_read (decide (n < 0)) ((1074 - d) * 4503599627370496 + mag * 2 ^ d) (by omega) (by omega)
      have m1 : ((1074 - d) * 4503599627370496 + mag * 2 ^ d) % 4503599627370496 = mag * 2 ^ d - 4503599627370496 := by omega
      have m2 : ((1074 - d) * 4503599627370496 + mag * 2 ^ d) / 4503599627370496 - 1 = 1074 - d := by omega
      have m3 : 4503599627370496 + (mag * 2 ^ d - 4503599627370496) = mag * 2 ^ d := by omega
      have m4 : -1074 + ((1074 - d : Nat) : Int) = -(d : Int) := by omega
      refine ⟨decide (n < 0), mag * 2 ^ d, -(d : Int), ?_, by omega, ?_, fun _ => rfl⟩
      · rw [near_small _ mag d hm0 hd, hw, m1, m2, m3, m4]
      · rw [show (-(d : Int) + 1074).toNat = 1074 - d by omega, Nat.mul_assoc, farD_add, show d + (1074 - d) = 1074 by omega]
set_option maxRecDepth 100000 in
theorem signed_up {s : Bool} {m k e Z : Nat} {n : Int} (hv : m * farD (k + e) = n.natAbs * Z) (hs : n ≠ 0 → s = decide (n < 0)) : signed s m k * (2 ^ e : Nat) = n * (Z : Nat) := by
  have e1 : ((m <<< k : Nat) : Int) * (2 ^ e : Nat) = ((n.natAbs * Z : Nat) : Int) := by
    unfold farD at hv
    rw [Nat.shiftLeft_eq, ← hv, Nat.pow_add, ← Nat.mul_assoc]
    simp
  have e2 : ((n.natAbs * Z : Nat) : Int) = (n.natAbs : Int) * (Z : Int) := by simp
  rw [e2] at e1
  unfold signed
  by_cases hn : n < 0
  · have hs' := hs (by omega)
    have h3 : ((n.natAbs : Nat) : Int) = -n := by omega
    rw [hs', if_pos (by simpa using hn), Int.neg_mul, e1, h3, Int.neg_mul, Int.neg_neg]
  · have h3 : ((n.natAbs : Nat) : Int) = n := by omega
    rw [h3] at e1
    cases s
    · rw [if_neg (by simp)]; exact e1
    · have h0 : n = 0 := by
        by_cases h : n = 0
        · exact h
        · have := hs h; simp at this; omega
      rw [if_pos rfl, Int.neg_mul, e1, h0]; simp
set_option maxRecDepth 100000 in
theorem float_eq (n m : Int) (hn : -9007199254740992 ≤ n ∧ n ≤ 9007199254740992) (hm : -9007199254740992 ≤ m ∧ m ≤ 9007199254740992) : Op.floatEq .f64 (floatOfInt .f64 n) (floatOfInt .f64 m) = decide (n = m) := by
  obtain ⟨s, a, i, e1, h1, v1, s1⟩ := read_int n hn
  obtain ⟨t, b, j, e2, h2, v2, s2⟩ := read_int m hm
  unfold Op.floatEq Format.order
  rw [e1, e2]
  unfold Datum.order
  simp only []
  obtain ⟨base, hbase⟩ : ∃ base, base = min i j := ⟨_, rfl⟩
  rw [← hbase]
  have hi : (i + 1074).toNat = (i - base).toNat + (base + 1074).toNat := by omega
  have hj : (j + 1074).toNat = (j - base).toNat + (base + 1074).toNat := by omega
  rw [hi] at v1
  rw [hj] at v2
  have u1 := signed_up v1 s1
  have u2 := signed_up v2 s2
  have hp : (0 : Int) < ((2 ^ (base + 1074).toNat : Nat) : Int) := by have := Nat.two_pow_pos (base + 1074).toNat; omega
  have hq : (0 : Int) < ((farD 1074 : Nat) : Int) := by have := farD_pos 1074; omega
  generalize signed s a (i - base).toNat = A at *
  generalize signed t b (j - base).toNat = B at *
  have key : A = B ↔ n = m := by
    constructor
    · intro e
      rw [e, u2] at u1
      exact (Int.eq_of_mul_eq_mul_right (by omega) u1).symm
    · intro e
      rw [e, ← u2] at u1
      exact Int.eq_of_mul_eq_mul_right (by omega) u1
  by_cases hnm : n = m
  · rw [decide_eq_true hnm, key.2 hnm]
    simp
  · rw [decide_eq_false hnm]
    have : A ≠ B := fun e => hnm (key.1 e)
    simp [this]
end Go.Proofs.YtepohbcpepkboaaGreat

namespace Go.Proofs.YtepohbcpepkboaaGreat
open Go.RowKit Go.Maps

/-- The values that stand in a block, and its measure. -/
structure Grp (w : World) (B : Nat) (v : V) (H : Nat → Value) (a : Option Addr) (c : Nat) : Prop where
  plain : PlainB w B
  ok : SliceOk a v.l.length c
  c0 : w.cell? ⟨B, 0, none⟩ = some (.int .i64 (v.deep : Nat))
  c1 : w.cell? ⟨B, 1, none⟩ = some (.int .i64 (v.size : Nat))
  c2 : w.cell? ⟨B, 2, none⟩ = some (.bool v.known)
  c3 : w.cell? ⟨B, 3, none⟩ = some (.bool v.right)
  c4 : w.cell? ⟨B, 4, none⟩ = some (.slice a v.l.length c)
  row : HRow w (fun _ => True) a v.l.length H
  rep : ∀ j (hj : j < v.l.length), Rep w (fun _ => True) (H j) v.l[j]

/-- How a value without others is held. -/
def Leaf (h : Value) (v : V) : Prop :=
  (h = .nilIface ∧ v = V.null) ∨ (h = .iface 107 (.agg #[]) ∧ v = .mk 1 false 0 0 ByteArray.empty [] []) ∨ (∃ b, h = .iface 4 (.bool b) ∧ v = .mk 2 b 0 0 ByteArray.empty [] []) ∨
  (∃ n, h = .iface 3 (.int .i64 n) ∧ v = .mk 3 false n 0 ByteArray.empty [] []) ∨
  (∃ n m, (-9007199254740992 ≤ n ∧ n ≤ 9007199254740992) ∧ (-9007199254740992 ≤ m ∧ m ≤ 9007199254740992) ∧ h = .iface 109 (.complex .f64 (floatOfInt .f64 n) (floatOfInt .f64 m)) ∧ v = .mk 4 false n m ByteArray.empty [] []) ∨
  (∃ s, h = .iface 9 (.string s) ∧ v = .mk 5 false 0 0 s [] [])
def IsList (w : World) (h : Value) (v : V) : Prop := ∃ B l H a c, Grp w B (.mk 6 false 0 0 ByteArray.empty l []) H a c ∧ PlainT w B 98 ∧ h = .iface 94 (.pointer (some ⟨B, 0, none⟩)) ∧ v = .mk 6 false 0 0 ByteArray.empty l []
def IsMap (w : World) (h : Value) (v : V) : Prop := ∃ B l q H a c ka kc, Grp w B (.mk 7 false 0 0 ByteArray.empty l q) H a c ∧ PlainT w B 143 ∧ q.length = l.length ∧ SliceOk ka q.length kc ∧ w.cell? ⟨B, 5, none⟩ = some (.slice ka q.length kc) ∧ SRow w (fun _ => True) ka q ∧ h = .iface 141 (.pointer (some ⟨B, 0, none⟩)) ∧ v = .mk 7 false 0 0 ByteArray.empty l q
set_option maxRecDepth 100000 in
theorem Rep.held {w : World} {h : Value} {v : V} (hr : Rep w (fun _ => True) h v) : Leaf h v ∨ IsList w h v ∨ IsMap w h v := by
  induction hr using Rep.ind with
  | null => exact .inl (.inl ⟨rfl, rfl⟩)
  | later => exact .inl (.inr (.inl ⟨rfl, rfl⟩))
  | bool b => exact .inl (.inr (.inr (.inl ⟨b, rfl, rfl⟩)))
  | int n h => exact .inl (.inr (.inr (.inr (.inl ⟨n, rfl, rfl⟩))))
  | point n m hn hm => exact .inl (.inr (.inr (.inr (.inr (.inl ⟨n, m, hn, hm, rfl, rfl⟩)))))
  | text s h => exact .inl (.inr (.inr (.inr (.inr (.inr ⟨s, rfl, rfl⟩)))))
  | list B l a c H hB ha c0 c1 c2 c3 c4 hr hin ih => exact .inr (.inl ⟨B, l, H, a, c, ⟨hB.2.plain, ha, c0, c1, c2, c3, c4, hr, hin⟩, hB.2, rfl, rfl⟩)
  | map B M l q a c ka kc H hB hMo ha hka hq c0 c1 c2 c3 c4 c5 c6 hk hM hr hin ih => exact .inr (.inr ⟨B, l, q, H, a, c, ka, kc, ⟨hB.2.plain, ha, c0, c1, c2, c3, c4, hr, hin⟩, hB.2, hq, hka, c5, hk, rfl, rfl⟩)

section
variable (W : World)
set_option maxRecDepth 100000 in
theorem info_comp {E : TypeId} (h : (Tryz.prog.info? E).map (fun i => i.comparable) = some true) : ∃ i, Tryz.prog.info? E = some i ∧ i.comparable = true := by
  obtain ⟨i, hi, hz⟩ := Option.map_eq_some_iff.1 h
  exact ⟨i, hi, hz⟩
set_option maxRecDepth 100000 in
theorem eql_any_nil_in (d : Nat) : (Op.equalIn (d + 2) 20 .nilIface .nilIface).run Tryz.prog W = .ok true W := by
  simp [Op.equalIn, run_underlying Tryz.underlying20]
set_option maxRecDepth 100000 in
theorem eql_any_nil : (binOp .eql 20 .nilIface .nilIface).run Tryz.prog W = .ok (.bool true) W := by
  simp only [binOp]
  simp [Op.equal, Op.maxDepth, eql_any_nil_in W 9998]
set_option maxRecDepth 100000 in
theorem eql_nil_any_in (d : Nat) (t : TypeId) (x : Value) : (Op.equalIn (d + 2) 20 .nilIface (.iface t x)).run Tryz.prog W = .ok false W := by
  simp [Op.equalIn, run_underlying Tryz.underlying20]
set_option maxRecDepth 100000 in
theorem eql_nil_any (t : TypeId) (x : Value) : (binOp .eql 20 .nilIface (.iface t x)).run Tryz.prog W = .ok (.bool false) W := by
  simp only [binOp]
  simp [Op.equal, Op.maxDepth, eql_nil_any_in W 9998 t x]
set_option maxRecDepth 100000 in
theorem eql_some_nil_in (d : Nat) (t : TypeId) (x : Value) : (Op.equalIn (d + 2) 20 (.iface t x) .nilIface).run Tryz.prog W = .ok false W := by
  simp [Op.equalIn, run_underlying Tryz.underlying20]
set_option maxRecDepth 100000 in
theorem eql_some_nil (t : TypeId) (x : Value) : (binOp .eql 20 (.iface t x) .nilIface).run Tryz.prog W = .ok (.bool false) W := by
  simp only [binOp]
  simp [Op.equal, Op.maxDepth, eql_some_nil_in W 9998 t x]
set_option maxRecDepth 100000 in
theorem eql_diff_in (d : Nat) (t u : TypeId) (x y : Value) (h : t ≠ u) : (Op.equalIn (d + 2) 20 (.iface t x) (.iface u y)).run Tryz.prog W = .ok false W := by
  simp [Op.equalIn, run_underlying Tryz.underlying20, h]
set_option maxRecDepth 100000 in
theorem eql_diff (t u : TypeId) (x y : Value) (h : t ≠ u) : (binOp .eql 20 (.iface t x) (.iface u y)).run Tryz.prog W = .ok (.bool false) W := by
  simp only [binOp]
  simp [Op.equal, Op.maxDepth, eql_diff_in W 9998 t u x y h]
set_option maxRecDepth 100000 in
theorem eql_later : (binOp .eql 20 (.iface 107 (.agg #[])) (.iface 107 (.agg #[]))).run Tryz.prog W = .ok (.bool true) W := by
  kernel_rfl
set_option maxRecDepth 100000 in
theorem eql_bool_in (d : Nat) (a b : Bool) : (Op.equalIn (d + 2) 20 (.iface 4 (.bool a)) (.iface 4 (.bool b))).run Tryz.prog W = .ok (a == b) W := by
  obtain ⟨i, hi, hc⟩ := info_comp (E := 4) (by kernel_rfl)
  simp [Op.equalIn, run_underlying Tryz.underlying20, run_underlying Tryz.underlying4, typeInfo, hi, hc]
set_option maxRecDepth 100000 in
theorem eql_bool (a b : Bool) : (binOp .eql 20 (.iface 4 (.bool a)) (.iface 4 (.bool b))).run Tryz.prog W = .ok (.bool (a == b)) W := by
  simp only [binOp]
  simp [Op.equal, Op.maxDepth, eql_bool_in W 9998 a b]
set_option maxRecDepth 100000 in
theorem eql_int_in (d : Nat) (a b : Int) : (Op.equalIn (d + 2) 20 (.iface 3 (.int .i64 a)) (.iface 3 (.int .i64 b))).run Tryz.prog W = .ok (a == b) W := by
  obtain ⟨i, hi, hc⟩ := info_comp (E := 3) (by kernel_rfl)
  simp [Op.equalIn, run_underlying Tryz.underlying20, run_underlying Tryz.underlying3, typeInfo, hi, hc]
set_option maxRecDepth 100000 in
theorem eql_int (a b : Int) : (binOp .eql 20 (.iface 3 (.int .i64 a)) (.iface 3 (.int .i64 b))).run Tryz.prog W = .ok (.bool (a == b)) W := by
  simp only [binOp]
  simp [Op.equal, Op.maxDepth, eql_int_in W 9998 a b]
set_option maxRecDepth 100000 in
theorem eql_text_in (d : Nat) (a b : ByteArray) : (Op.equalIn (d + 2) 20 (.iface 9 (.string a)) (.iface 9 (.string b))).run Tryz.prog W = .ok (a == b) W := by
  obtain ⟨i, hi, hc⟩ := info_comp (E := 9) (by kernel_rfl)
  simp [Op.equalIn, run_underlying Tryz.underlying20, run_underlying Tryz.underlying9, typeInfo, hi, hc]
set_option maxRecDepth 100000 in
theorem eql_text (a b : ByteArray) : (binOp .eql 20 (.iface 9 (.string a)) (.iface 9 (.string b))).run Tryz.prog W = .ok (.bool (a == b)) W := by
  simp only [binOp]
  simp [Op.equal, Op.maxDepth, eql_text_in W 9998 a b]
set_option maxRecDepth 100000 in
theorem eql_point_in (d : Nat) (a b c e : Nat) : (Op.equalIn (d + 2) 20 (.iface 109 (.complex .f64 a b)) (.iface 109 (.complex .f64 c e))).run Tryz.prog W = .ok (Op.floatEq .f64 a c && Op.floatEq .f64 b e) W := by
  obtain ⟨i, hi, hc⟩ := info_comp (E := 109) (by kernel_rfl)
  simp [Op.equalIn, run_underlying Tryz.underlying20, run_underlying Tryz.underlying109, typeInfo, hi, hc]
set_option maxRecDepth 100000 in
theorem eql_point (a b c e : Nat) : (binOp .eql 20 (.iface 109 (.complex .f64 a b)) (.iface 109 (.complex .f64 c e))).run Tryz.prog W = .ok (.bool (Op.floatEq .f64 a c && Op.floatEq .f64 b e)) W := by
  simp only [binOp]
  simp [Op.equal, Op.maxDepth, eql_point_in W 9998 a b c e]
end
end Go.Proofs.YtepohbcpepkboaaGreat

namespace Go.Proofs.YtepohbcpepkboaaGreat
open Go.RowKit Go.Maps

set_option maxRecDepth 100000 in
theorem ptr_info {E X : TypeId} (h : (Tryz.prog.info? E).map (fun i => i.comparable) = some true) (h2 : ((Tryz.prog.info? X).map (fun i => decide (i.size ≠ 0))) = some true) : (∃ i, Tryz.prog.info? E = some i ∧ i.comparable = true) ∧ ∃ j, Tryz.prog.info? X = some j ∧ j.size ≠ 0 := by
  obtain ⟨i, hi, hz⟩ := Option.map_eq_some_iff.1 h
  obtain ⟨j, hj, hy⟩ := Option.map_eq_some_iff.1 h2
  exact ⟨⟨i, hi, hz⟩, j, hj, of_decide_eq_true hy⟩
set_option maxRecDepth 100000 in
theorem PlainB.below {w W : World} {B : Nat} (h : PlainB w B) (hb : Below w.heap.size w W) : PlainB W B := by
  obtain ⟨cs, T, e⟩ := h
  exact ⟨cs, T, (hb.block B (Array.getElem?_eq_some_iff.1 e).1).trans e⟩
set_option maxRecDepth 100000 in
theorem eql_ptr {E X : TypeId} (hu : Tryz.prog.underlying E = some (.pointer X)) (h : (Tryz.prog.info? E).map (fun i => i.comparable) = some true) (h2 : ((Tryz.prog.info? X).map (fun i => decide (i.size ≠ 0))) = some true) {w W : World} {B C : Nat} (hB : PlainB w B) (hC : PlainB w C) (hb : Below w.heap.size w W) :
    (binOp .eql 20 (.iface E (.pointer (some ⟨B, 0, none⟩))) (.iface E (.pointer (some ⟨C, 0, none⟩)))).run Tryz.prog W = .ok (.bool (decide (B = C))) W := by
  obtain ⟨⟨i, hi, hc⟩, j, hj, hs⟩ := ptr_info h h2
  by_cases e : B = C
  · subst e
    rw [run_eql_iface_ptr_same W _ Tryz.underlying20 hu hi hc hj]; simp
  · obtain ⟨cb, tb, eb⟩ := hB.below hb
    obtain ⟨cc, tc, ec⟩ := hC.below hb
    rw [run_eql_iface_ptr_other W Tryz.underlying20 hu hi hc hj hs (a := ⟨B, 0, none⟩) (b := ⟨C, 0, none⟩) (fun e2 => e (by injection e2)) eb ec]
    simp [e]
/-- What the equality of what two values hold tells. -/
def EqTold (w : World) (h g : Value) (v u : V) : Prop := ∃ r : Bool, (∀ W, Below w.heap.size w W → (binOp .eql 20 h g).run Tryz.prog W = .ok (.bool r) W) ∧ (r = true → h = g) ∧ (r = false → v = u → 6 ≤ v.k)
set_option maxRecDepth 100000 in
theorem EqTold.diff {w : World} {t s : TypeId} {x y : Value} {v u : V} (h : t ≠ s) (hk : v.k ≠ u.k) : EqTold w (.iface t x) (.iface s y) v u := ⟨false, fun W _ => eql_diff W t s x y h, (fun e => by cases e), fun _ e => absurd (by rw [e]) hk⟩
set_option maxRecDepth 100000 in
set_option maxHeartbeats 3200000 in
theorem leaf_eq {w : World} {h g : Value} {v u : V} (hr : Leaf h v) (hs : Leaf g u) : EqTold w h g v u := by
  rcases hr with ⟨rfl, rfl⟩ | ⟨rfl, rfl⟩ | ⟨b, rfl, rfl⟩ | ⟨n, rfl, rfl⟩ | ⟨n, m, hn, hm, rfl, rfl⟩ | ⟨s, rfl, rfl⟩ <;>
  rcases hs with ⟨rfl, rfl⟩ | ⟨rfl, rfl⟩ | ⟨b', rfl, rfl⟩ | ⟨n', rfl, rfl⟩ | ⟨n', m', hn', hm', rfl, rfl⟩ | ⟨s', rfl, rfl⟩
  all_goals first
    | exact EqTold.diff (by decide) (by simp)
    | exact ⟨true, fun W _ => eql_any_nil W, fun _ => rfl, fun e => by cases e⟩
    | exact ⟨false, fun W _ => eql_nil_any W _ _, (fun e => by cases e), fun _ e => by simp [V.null] at e⟩
    | exact ⟨false, fun W _ => eql_some_nil W _ _, (fun e => by cases e), fun _ e => by simp [V.null] at e⟩
    | exact ⟨true, fun W _ => eql_later W, fun _ => rfl, fun e => by cases e⟩
    | exact ⟨_, fun W _ => eql_bool W _ _, (fun e => by simp at e; rw [e]), fun e e2 => by simp at e e2; exact absurd e2 e⟩
    | exact ⟨_, fun W _ => eql_int W _ _, (fun e => by simp at e; rw [e]), fun e e2 => by simp at e e2; exact absurd e2 e⟩
    | exact ⟨_, fun W _ => eql_text W _ _, (fun e => by rw [(MapKept.bytes_beq _ _).1 e]), fun e e2 => by simp at e2; rw [(MapKept.bytes_beq _ _).2 e2] at e; cases e⟩
    | (refine ⟨_, fun W _ => eql_point W _ _ _ _, ?_, ?_⟩ <;> rw [float_eq _ _ hn hn', float_eq _ _ hm hm']
       · intro e; simp at e; rw [e.1, e.2]
       · intro e e2; simp at e e2; exact absurd e2.2 (e e2.1))
set_option maxRecDepth 100000 in
set_option maxHeartbeats 3200000 in
theorem held_eq {w : World} {h g : Value} {v u : V} (hr : Rep w (fun _ => True) h v) (hs : Rep w (fun _ => True) g u) : EqTold w h g v u := by
  rcases hr.held with hr | ⟨B, l, H, a, c, G, -, rfl, rfl⟩ | ⟨B, l, q, H, a, c, ka, kc, G, -, -, -, -, -, rfl, rfl⟩ <;>
  rcases hs.held with hs | ⟨B', l', H', a', c', G', -, rfl, rfl⟩ | ⟨B', l', q', H', a', c', ka', kc', G', -, -, -, -, -, rfl, rfl⟩
  · exact leaf_eq hr hs
  all_goals first
    | exact EqTold.diff (by decide) (by simp)
    | exact ⟨_, fun W hb => eql_ptr (X := 98) Tryz.underlying94 (by kernel_rfl) (by kernel_rfl) G.plain G'.plain hb, (fun e => by simp at e; rw [e]), fun _ _ => by simp⟩
    | exact ⟨_, fun W hb => eql_ptr (X := 143) Tryz.underlying141 (by kernel_rfl) (by kernel_rfl) G.plain G'.plain hb, (fun e => by simp at e; rw [e]), fun _ _ => by simp⟩
    | (rcases hr with ⟨rfl, rfl⟩ | ⟨rfl, rfl⟩ | ⟨b, rfl, rfl⟩ | ⟨n, rfl, rfl⟩ | ⟨n, m, hn, hm, rfl, rfl⟩ | ⟨s, rfl, rfl⟩ <;> first
        | exact EqTold.diff (by decide) (by simp)
        | exact ⟨false, fun W _ => eql_nil_any W _ _, (fun e => by cases e), fun _ e => by simp [V.null] at e⟩)
    | (rcases hs with ⟨rfl, rfl⟩ | ⟨rfl, rfl⟩ | ⟨b, rfl, rfl⟩ | ⟨n, rfl, rfl⟩ | ⟨n, m, hn, hm, rfl, rfl⟩ | ⟨s, rfl, rfl⟩ <;> first
        | exact EqTold.diff (by decide) (by simp)
        | exact ⟨false, fun W _ => eql_some_nil W _ _, (fun e => by cases e), fun _ e => by simp [V.null] at e⟩)
end Go.Proofs.YtepohbcpepkboaaGreat

namespace Go.Proofs.YtepohbcpepkboaaGreat
open Go.RowKit Go.Maps

set_option maxRecDepth 100000 in
theorem float_inj {n m : Int} (hn : -9007199254740992 ≤ n ∧ n ≤ 9007199254740992) (hm : -9007199254740992 ≤ m ∧ m ≤ 9007199254740992) (h : floatOfInt .f64 n = floatOfInt .f64 m) : n = m := by
  have h1 := float_back n hn
  rw [h, float_back m hm] at h1
  simpa using h1.symm
set_option maxRecDepth 100000 in
set_option maxHeartbeats 3200000 in
theorem leaf_inj {h : Value} {v u : V} (hr : Leaf h v) (hs : Leaf h u) : v = u := by
  rcases hr with ⟨rfl, rfl⟩ | ⟨rfl, rfl⟩ | ⟨b, rfl, rfl⟩ | ⟨n, rfl, rfl⟩ | ⟨n, m, hn, hm, rfl, rfl⟩ | ⟨s, rfl, rfl⟩ <;>
  rcases hs with ⟨e, rfl⟩ | ⟨e, rfl⟩ | ⟨b', e, rfl⟩ | ⟨n', e, rfl⟩ | ⟨n', m', hn', hm', e, rfl⟩ | ⟨s', e, rfl⟩
  all_goals first
    | rfl
    | (simp at e; done)
    | (simp at e; rw [e]; done)
    | (simp at e; rw [float_inj hn hn' e.1, float_inj hm hm' e.2])
set_option maxRecDepth 100000 in
theorem leaf_no_list {B : Nat} {v : V} (h : Leaf (.iface 94 (.pointer (some ⟨B, 0, none⟩))) v) : False := by
  rcases h with ⟨e, -⟩ | ⟨e, -⟩ | ⟨b', e, -⟩ | ⟨n', e, -⟩ | ⟨n', m', -, -, e, -⟩ | ⟨s', e, -⟩ <;> simp at e
set_option maxRecDepth 100000 in
theorem leaf_no_map {B : Nat} {v : V} (h : Leaf (.iface 141 (.pointer (some ⟨B, 0, none⟩))) v) : False := by
  rcases h with ⟨e, -⟩ | ⟨e, -⟩ | ⟨b', e, -⟩ | ⟨n', e, -⟩ | ⟨n', m', -, -, e, -⟩ | ⟨s', e, -⟩ <;> simp at e
set_option maxRecDepth 100000 in
theorem rows_same {w : World} {a : Option Addr} {n : Nat} {H H' : Nat → Value} (h1 : HRow w (fun _ => True) a n H) (h2 : HRow w (fun _ => True) a n H') : ∀ j, j < n → H j = H' j := fun j hj => by
  obtain ⟨b, off, rfl, -, c1⟩ := h1 (by omega)
  obtain ⟨b', off', e, -, c2⟩ := h2 (by omega)
  simp at e
  obtain ⟨rfl, rfl⟩ := e
  have h3 := (c1 j hj).symm.trans (c2 j hj)
  simpa using h3
set_option maxRecDepth 100000 in
theorem texts_same {w : World} {a : Option Addr} {q q' : List ByteArray} (hl : q.length = q'.length) (h1 : SRow w (fun _ => True) a q) (h2 : SRow w (fun _ => True) a q') : q = q' := by
  apply List.ext_getElem hl
  intro j hj hj'
  obtain ⟨b, off, rfl, -, c1⟩ := h1.2 (by intro e; subst e; simp at hj)
  obtain ⟨b', off', e, -, c2⟩ := h2.2 (by intro e; subst e; simp at hj')
  simp at e
  obtain ⟨rfl, rfl⟩ := e
  have h3 := (c1 j hj).symm.trans (c2 j hj')
  simpa using h3
set_option maxRecDepth 100000 in
/-- Two groups in one block are of the same values. -/
theorem grp_same {w : World} {B : Nat} {v u : V} {H H' : Nat → Value} {a a' : Option Addr} {c c' : Nat} (g : Grp w B v H a c) (g' : Grp w B u H' a' c') (ih : ∀ j (hj : j < v.l.length), ∀ x, Rep w (fun _ => True) (H j) x → v.l[j] = x) : v.l = u.l := by
  have h1 := g.c4.symm.trans g'.c4
  simp at h1
  obtain ⟨rfl, hl, rfl⟩ := h1
  have hrow := g'.row
  rw [← hl] at hrow
  apply List.ext_getElem hl
  intro j hj hj'
  have h2 := g'.rep j hj'
  rw [← rows_same g.row hrow j hj] at h2
  exact ih j hj _ h2
set_option maxRecDepth 100000 in
theorem Rep.inj {w : World} {h : Value} {v : V} (hr : Rep w (fun _ => True) h v) : ∀ u, Rep w (fun _ => True) h u → v = u := by
  have hh := hr.held
  induction hr using Rep.ind with
  | list B l a c H hB ha c0 c1 c2 c3 c4 hrow hin ih =>
    intro u hs
    rcases hs.held with h | ⟨B', l', H', a', c', G', -, e, rfl⟩ | ⟨B', l', q', H', a', c', ka', kc', G', -, -, -, -, -, e, rfl⟩
    · exact (leaf_no_list h).elim
    · simp at e
      subst e
      have := grp_same (v := .mk 6 false 0 0 ByteArray.empty l []) ⟨hB.2.plain, ha, c0, c1, c2, c3, c4, hrow, hin⟩ G' (fun j hj x hx => ih j hj (hin j hj).held x hx)
      simp at this
      rw [this]
    · simp at e
  | map B M l q a c ka kc H hB hMo ha hka hq c0 c1 c2 c3 c4 c5 c6 hk hM hrow hin ih =>
    intro u hs
    rcases hs.held with h | ⟨B', l', H', a', c', G', -, e, rfl⟩ | ⟨B', l', q', H', a', c', ka', kc', G', -, hq', -, c5', hk', e, rfl⟩
    · exact (leaf_no_map h).elim
    · simp at e
    · simp at e
      subst e
      have := grp_same (v := .mk 7 false 0 0 ByteArray.empty l q) ⟨hB.2.plain, ha, c0, c1, c2, c3, c4, hrow, hin⟩ G' (fun j hj x hx => ih j hj (hin j hj).held x hx)
      have h5 := c5.symm.trans c5'
      simp at this h5
      obtain ⟨rfl, hl5, rfl⟩ := h5
      rw [this, texts_same hl5 hk hk']
  | _ =>
    intro u hs
    rcases hh with hh | ⟨B, l, H, a, c, G, -, e, -⟩ | ⟨B, l, q, H, a, c, ka, kc, G, -, -, -, -, -, e, -⟩
    · rcases hs.held with h | ⟨B, l, H, a, c, G, -, e, -⟩ | ⟨B, l, q, H, a, c, ka, kc, G, -, -, -, -, -, e, -⟩
      · exact leaf_inj hh h
      · simp at e
      · simp at e
    · simp at e
    · simp at e
end Go.Proofs.YtepohbcpepkboaaGreat

