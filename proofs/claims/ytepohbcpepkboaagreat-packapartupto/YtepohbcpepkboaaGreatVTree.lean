/- The document's values in memory: what a value of plain data shows in a world. No conditions; no function of the program. -/
import Derived.Test.YtepohbcpepkboaaGreatFindD
import Derived.Test.YtepohbcpepkboaaGreatVarA
import Derived.WalkSmall
import Derived.Test.YtepohbcpepkboaaGreatFld
namespace Go.Proofs.YtepohbcpepkboaaGreat

set_option maxRecDepth 100000 in
theorem idxF_snoc (p : Fld → Bool) (fs : List Fld) (f : Fld) : idxF p (fs ++ [f]) = if 0 ≤ idxF p fs then idxF p fs else if p f then (fs.length : Int) else -1 := by
  by_cases h : fs.any p = true
  · have h1 : (fs ++ [f]).any p = true := by simp only [List.any_append, h, Bool.true_or]
    have hlt := any_lt h
    have h2 : (fs ++ [f]).findIdx p = fs.findIdx p := by rw [List.findIdx_append, if_pos hlt]
    have h3 : idxF p fs = ((fs.findIdx p : Nat) : Int) := by rw [idxF, if_pos h]
    rw [idxF, if_pos h1, h2, h3, if_pos (by omega)]
  · have h0 : fs.any p = false := by simpa using h
    have h3 : idxF p fs = -1 := by rw [idxF, if_neg h]
    have hlen : fs.findIdx p = fs.length := by
      apply List.findIdx_eq_length_of_false
      intro x hx
      cases hp : p x with
      | false => rfl
      | true => rw [List.any_eq_true.2 ⟨x, hx, hp⟩] at h0; cases h0
    rw [h3, if_neg (by omega)]
    cases hp : p f with
    | true =>
      have h1 : (fs ++ [f]).any p = true := by simp [hp]
      have h2 : (fs ++ [f]).findIdx p = fs.length := by
        rw [List.findIdx_append, hlen, if_neg (by omega)]
        simp [List.findIdx_cons, hp]
      rw [idxF, if_pos h1, h2]; rfl
    | false =>
      have h1 : ¬ (fs ++ [f]).any p = true := by simp only [List.any_append, h0, List.any_cons, hp, List.any_nil]; simp
      rw [idxF, if_neg h1]; rfl
set_option maxRecDepth 100000 in
theorem manyB_snoc (tag : Int) (fs : List Fld) (f : Fld) : manyB tag (fs ++ [f]) = manyB tag fs ++ (if fitB tag true f then [f.b] else []) := by
  simp only [manyB, List.filter_append, List.map_append]
  congr 1
  by_cases h : fitB tag true f = true <;> simp [h]
set_option maxRecDepth 100000 in
theorem manyB_at (tag : Int) (fs : List Fld) (i : Nat) (hi : i < fs.length) (h : fitB tag true fs[i] = true) : (manyB tag fs)[(manyB tag (fs.take i)).length]? = some fs[i].b := by
  have e : manyB tag fs = manyB tag (fs.take i) ++ (fs[i].b :: manyB tag (fs.drop (i + 1))) := by
    have e1 : fs = fs.take i ++ fs[i] :: fs.drop (i + 1) := by rw [← List.drop_eq_getElem_cons hi, List.take_append_drop]
    conv => lhs; rw [e1]
    simp only [manyB, List.filter_append, List.filter_cons, h, if_true, List.map_append, List.map_cons]
  rw [e, List.getElem?_append_right (Nat.le_refl _)]
  simp
set_option maxRecDepth 100000 in
theorem manyB_any (tag : Int) (fs : List Fld) : fs.any (fitB tag true) = decide (0 < (manyB tag fs).length) := by
  induction fs with
  | nil => rfl
  | cons f fs ih =>
    rw [List.any_cons]
    have e : manyB tag (f :: fs) = (if fitB tag true f then [f.b] else []) ++ manyB tag fs := by
      simp only [manyB, List.filter_cons]
      by_cases h : fitB tag true f = true <;> simp [h]
    cases h : fitB tag true f with
    | true => rw [e, h]; simp
    | false => rw [e, h, ih]; simp
set_option maxRecDepth 100000 in
theorem manyB_first (tag : Int) (fs : List Fld) (h : fs.any (fitB tag true) = true) : (manyB tag fs)[0]? = some (bytB (fitB tag true) fs) := by
  have hlt := any_lt h
  have hp : fitB tag true (fs[fs.findIdx (fitB tag true)]'hlt) = true := List.findIdx_getElem
  have h0 : manyB tag (fs.take (fs.findIdx (fitB tag true))) = [] := by
    simp only [manyB, List.map_eq_nil_iff, List.filter_eq_nil_iff]
    intro f hf
    obtain ⟨j, hj, rfl⟩ := List.getElem_of_mem hf
    simp only [List.length_take] at hj
    rw [List.getElem_take]
    have := List.not_of_lt_findIdx (p := fitB tag true) (xs := fs) (i := j) (by omega)
    simpa using this
  have := manyB_at tag fs _ hlt hp
  rw [h0] at this
  simp only [List.length_nil] at this
  rw [this]
  simp [bytB, List.getElem?_eq_getElem hlt]
end Go.Proofs.YtepohbcpepkboaaGreat

namespace Go.Proofs.YtepohbcpepkboaaGreat
open Go.RowKit

def zigv (n : Int) : Int := if n < 0 then -2 * n - 1 else 2 * n
def zagv (u : Int) : Int := if u % 2 = 1 then -(u / 2) - 1 else u / 2
set_option maxRecDepth 100000 in
theorem zigv_bound (n : Int) (h0 : -9223372036854775808 ≤ n) (h1 : n ≤ 9223372036854775807) : 0 ≤ zigv n ∧ zigv n < 18446744073709551616 := by
  unfold zigv; split <;> omega
set_option maxRecDepth 100000 in
theorem zag_zig (n : Int) : zagv (zigv n) = n := by
  unfold zigv zagv; split <;> split <;> omega
set_option maxRecDepth 100000 in
theorem zig_zag (u : Int) (h : 0 ≤ u) : zigv (zagv u) = u := by
  unfold zigv zagv; split <;> split <;> omega
set_option maxRecDepth 100000 in
theorem zagv_bound (u : Int) (h0 : 0 ≤ u) (h1 : u < 18446744073709551616) : -9223372036854775808 ≤ zagv u ∧ zagv u ≤ 9223372036854775807 := by
  unfold zagv; split <;> omega

set_option maxRecDepth 100000 in
/-- ^n of an int. -/
theorem i64_not_any (n : Int) (h0 : -9223372036854775808 ≤ n) (h1 : n ≤ 9223372036854775807) : bits .xor .i64 (-1) n = -1 - n := by
  show IntKind.i64.wrap ((BitVec.ofInt 64 (-1) ^^^ BitVec.ofInt 64 n).toNat : Int) = _
  have e : BitVec.ofInt 64 (-1) = BitVec.allOnes 64 := by decide
  rw [e, BitVec.allOnes_xor, BitVec.toNat_not, BitVec.toNat_ofInt]
  simp [IntKind.wrap, IntKind.bits, IntKind.signed]
  omega
set_option maxRecDepth 100000 in
/-- u<<1 | 1. -/
theorem or_one (x : Int) (h0 : 0 ≤ x) (h1 : x ≤ 9223372036854775807) : bits .or .u64 (x * 2) 1 = x * 2 + 1 := by
  rw [u64_or _ _ (by omega) (by omega) (by decide) (by decide), show (1 : Int).toNat = 1 from rfl]
  have h := Nat.shiftLeft_add_eq_or_of_lt (i := 1) (b := 1) (by decide) x.toNat
  rw [Nat.shiftLeft_eq] at h
  have e : (x * 2).toNat = x.toNat * 2 ^ 1 := by omega
  rw [e, ← h]; omega

set_option maxRecDepth 100000 in
theorem zig_any (n : Int) (w : World) (h0 : -9223372036854775808 ≤ n) (h1 : n ≤ 9223372036854775807) :
    Calls Tryz.prog 85 #[.int .i64 n] w fun e w' => e = .returned (.int .u64 (zigv n)) ∧ w = w' := by
  by_cases hn : n < 0
  · have HZ : Hid (zigv n = (-1 - n) * 2 + 1) := by show zigv n = _; simp [zigv, hn]; omega
    have hx := i64_not_any n h0 h1
    have ho := or_one (-1 - n) (by omega) (by omega)
    go_enter Tryz.func85, Tryz.ntmps85
    go_wp2
    go_ret
    exact ⟨ret_int (by rw [HZ.out, IntWalk.u64_in (-1 - n) ⟨by omega, by omega⟩, IntWalk.u64_in _ ⟨by omega, by omega⟩, ho]), rfl⟩
  · have HZ : Hid (zigv n = n * 2) := by show zigv n = _; simp [zigv, hn]; omega
    go_enter Tryz.func85, Tryz.ntmps85
    go_wp2
    go_ret
    exact ⟨ret_int (by rw [HZ.out]), rfl⟩
set_option maxRecDepth 100000 in
theorem rzig_any (n : Int) (w : World) (h0 : -9223372036854775808 ≤ n) (h1 : n ≤ 9223372036854775807) :
    Calls Tryz.prog 61 #[.int .i64 n] w fun e w' => e = .returned (.int .u64 (zigv n)) ∧ w = w' := by
  by_cases hn : 0 ≤ n
  · have HZ : Hid (zigv n = 2 * n) := by
      have : ¬ n < 0 := by omega
      show zigv n = _; simp [zigv, this]
    go_enter Tryz.func61, Tryz.ntmps61
    go_wp2
    go_ret
    exact ⟨ret_int (by rw [HZ.out]), rfl⟩
  · have HZ : Hid (zigv n = 2 * -(n + 1) + 1) := by
      have : n < 0 := by omega
      show zigv n = _; simp [zigv, this]; omega
    go_enter Tryz.func61, Tryz.ntmps61
    go_wp2
    go_ret
    exact ⟨ret_int (by rw [HZ.out]), rfl⟩
set_option maxRecDepth 100000 in
theorem zag_any (u : Int) (w : World) (h0 : 0 ≤ u) (h1 : u < 18446744073709551616) :
    Calls Tryz.prog 67 #[.int .u64 u] w fun e w' => e = .returned (.int .i64 (zagv u)) ∧ w = w' := by
  have hand : bits .and .u64 u 1 = u % 2 := by
    rw [u64_and _ _ h0 h1 (by decide) (by decide), show (1 : Int).toNat = 1 from rfl, Nat.and_one_is_mod]; omega
  by_cases hu : u % 2 = 1
  · have HZ : Hid (zagv u = -1 - u / 2) := by show zagv u = _; simp [zagv, hu]; omega
    have hx := i64_not_any (u / 2) (by omega) (by omega)
    go_enter Tryz.func67, Tryz.ntmps67
    go_wp2
    go_ret
    exact ⟨ret_int (by rw [HZ.out]), rfl⟩
  · have HZ : Hid (zagv u = u / 2) := by show zagv u = _; simp [zagv, hu]
    have hu' : (u % 2 == 1) = false := by simpa using hu
    go_enter Tryz.func67, Tryz.ntmps67
    go_wp2
    go_ret
    exact ⟨ret_int (by rw [HZ.out]), rfl⟩
end Go.Proofs.YtepohbcpepkboaaGreat

namespace Go.Proofs.YtepohbcpepkboaaGreat
open Go.RowKit

/-- A value: its kind, a bool, two numbers, a text, the values in it, their keys. -/
structure V where
  mk ::
  k : Int
  b : Bool
  n : Int
  m : Int
  s : ByteArray
  l : List V
  keys : List ByteArray

/-- How many values and letters. -/
def V.bulk : V → Nat
  | .mk _ _ _ _ s l q => 1 + s.size + go l + (q.map (fun x => 1 + x.size)).sum
  where go : List V → Nat
    | [] => 0
    | v :: r => v.bulk + go r
def V.size : V → Nat
  | .mk _ _ _ _ _ l _ => 1 + go l
  where go : List V → Nat
    | [] => 0
    | v :: r => v.size + go r
def V.deep : V → Nat
  | .mk _ _ _ _ _ l _ => go l + 1
  where go : List V → Nat
    | [] => 0
    | v :: r => max v.deep (go r)
def V.known : V → Bool
  | .mk k _ _ _ _ l _ => go l && k != 1
  where go : List V → Bool
    | [] => true
    | v :: r => v.known && go r
/-- Has it no more than it may? (Keys are looked at of a Map alone, as many as there are values.) -/
def V.fits : V → Bool
  | .mk k _ _ _ s l q => go l && (k != 7 || (q.take l.length).all (fun x => decide (x.size ≤ 256))) && decide (s.size ≤ 256) && decide (l.length ≤ 64)
  where go : List V → Bool
    | [] => true
    | v :: r => v.fits && go r

set_option maxRecDepth 100000 in
theorem sizeL_append : ∀ (a b : List V), V.size.go (a ++ b) = V.size.go a + V.size.go b
  | [], b => by simp [V.size.go]
  | x :: a, b => by simp only [List.cons_append, V.size.go, sizeL_append a b]; omega
set_option maxRecDepth 100000 in
theorem bulkL_append : ∀ (a b : List V), V.bulk.go (a ++ b) = V.bulk.go a + V.bulk.go b
  | [], b => by simp [V.bulk.go]
  | x :: a, b => by simp only [List.cons_append, V.bulk.go, bulkL_append a b]; omega
set_option maxRecDepth 100000 in
theorem deepL_append : ∀ (a b : List V), V.deep.go (a ++ b) = max (V.deep.go a) (V.deep.go b)
  | [], b => by simp [V.deep.go]
  | x :: a, b => by simp only [List.cons_append, V.deep.go, deepL_append a b]; omega
set_option maxRecDepth 100000 in
theorem knownL_append : ∀ (a b : List V), V.known.go (a ++ b) = (V.known.go a && V.known.go b)
  | [], b => by simp [V.known.go]
  | x :: a, b => by simp only [List.cons_append, V.known.go, knownL_append a b, Bool.and_assoc]
set_option maxRecDepth 100000 in
theorem fitsL_append : ∀ (a b : List V), V.fits.go (a ++ b) = (V.fits.go a && V.fits.go b)
  | [], b => by simp [V.fits.go]
  | x :: a, b => by simp only [List.cons_append, V.fits.go, fitsL_append a b, Bool.and_assoc]
set_option maxRecDepth 100000 in
theorem sizeL_one (x : V) : V.size.go [x] = x.size := by simp [V.size.go]
set_option maxRecDepth 100000 in
theorem bulkL_one (x : V) : V.bulk.go [x] = x.bulk := by simp [V.bulk.go]
set_option maxRecDepth 100000 in
theorem deepL_one (x : V) : V.deep.go [x] = x.deep := by simp [V.deep.go]
set_option maxRecDepth 100000 in
theorem knownL_one (x : V) : V.known.go [x] = x.known := by simp [V.known.go]
set_option maxRecDepth 100000 in
theorem fitsL_one (x : V) : V.fits.go [x] = x.fits := by simp [V.fits.go]
set_option maxRecDepth 100000 in
theorem V.size_le_bulk_all : (∀ v : V, v.size ≤ v.bulk) ∧ (∀ l : List V, V.size.go l ≤ V.bulk.go l) := by
  refine ⟨?_, ?_⟩
  · intro v
    exact V.rec (motive_1 := fun v => v.size ≤ v.bulk) (motive_2 := fun l => V.size.go l ≤ V.bulk.go l)
      (fun _ _ _ _ _ _ _ ih => by simp only [V.size, V.bulk]; omega) (by simp [V.size.go]) (fun _ _ h1 h2 => by simp only [V.size.go, V.bulk.go]; omega) v
  · intro l
    exact V.rec_1 (motive_1 := fun v => v.size ≤ v.bulk) (motive_2 := fun l => V.size.go l ≤ V.bulk.go l)
      (fun _ _ _ _ _ _ _ ih => by simp only [V.size, V.bulk]; omega) (by simp [V.size.go]) (fun _ _ h1 h2 => by simp only [V.size.go, V.bulk.go]; omega) l
set_option maxRecDepth 100000 in
theorem V.size_le (v : V) : v.size ≤ v.bulk := V.size_le_bulk_all.1 v
set_option maxRecDepth 100000 in
theorem sizeL_le (l : List V) : V.size.go l ≤ V.bulk.go l := V.size_le_bulk_all.2 l
set_option maxRecDepth 100000 in
theorem V.deep_le_all : (∀ v : V, v.deep ≤ v.size) ∧ (∀ l : List V, V.deep.go l ≤ V.size.go l) := by
  refine ⟨?_, ?_⟩
  · intro v
    exact V.rec (motive_1 := fun v => v.deep ≤ v.size) (motive_2 := fun l => V.deep.go l ≤ V.size.go l)
      (fun _ _ _ _ _ _ _ ih => by simp only [V.size, V.deep]; omega) (by simp [V.size.go, V.deep.go]) (fun _ _ h1 h2 => by simp only [V.size.go, V.deep.go]; omega) v
  · intro l
    exact V.rec_1 (motive_1 := fun v => v.deep ≤ v.size) (motive_2 := fun l => V.deep.go l ≤ V.size.go l)
      (fun _ _ _ _ _ _ _ ih => by simp only [V.size, V.deep]; omega) (by simp [V.size.go, V.deep.go]) (fun _ _ h1 h2 => by simp only [V.size.go, V.deep.go]; omega) l
set_option maxRecDepth 100000 in
theorem V.deep_le (v : V) : v.deep ≤ v.size := V.deep_le_all.1 v
set_option maxRecDepth 100000 in
theorem V.bulk_pos (v : V) : 1 ≤ v.bulk := by cases v; simp only [V.bulk]; omega
set_option maxRecDepth 100000 in
theorem len_le_bulkL : ∀ l : List V, l.length ≤ V.bulk.go l
  | [] => by simp
  | v :: r => by have := v.bulk_pos; have := len_le_bulkL r; simp only [List.length_cons, V.bulk.go]; omega
set_option maxRecDepth 100000 in
theorem bulk_mem : ∀ {l : List V} {v : V}, v ∈ l → v.bulk ≤ V.bulk.go l
  | x :: r, v, h => by
    simp only [V.bulk.go]
    rcases List.mem_cons.1 h with rfl | h
    · omega
    · have := bulk_mem h; omega
set_option maxRecDepth 100000 in
theorem bulk_take (l : List V) (j : Nat) : V.bulk.go (l.take j) ≤ V.bulk.go l := by
  have := bulkL_append (l.take j) (l.drop j)
  rw [List.take_append_drop] at this; omega
set_option maxRecDepth 100000 in
theorem keys_len : ∀ q : List ByteArray, q.length ≤ (q.map (fun x => 1 + x.size)).sum
  | [] => by simp
  | x :: r => by have := keys_len r; simp only [List.map_cons, List.sum_cons, List.length_cons]; omega
set_option maxRecDepth 100000 in
theorem keys_mem : ∀ {q : List ByteArray} {x : ByteArray}, x ∈ q → x.size ≤ (q.map (fun x => 1 + x.size)).sum
  | y :: r, x, h => by
    simp only [List.map_cons, List.sum_cons]
    rcases List.mem_cons.1 h with rfl | h
    · omega
    · have := keys_mem h; omega
end Go.Proofs.YtepohbcpepkboaaGreat

namespace Go.Proofs.YtepohbcpepkboaaGreat
open Go.RowKit

/-- Where a value's two slices lie, and their capacities. -/
structure VP where
  la : Option Addr
  lc : Nat
  ka : Option Addr
  kc : Nat
def I64 (n : Int) : Prop := -9223372036854775808 ≤ n ∧ n ≤ 9223372036854775807
def SliceOk (a : Option Addr) (len cap : Nat) : Prop := (a = none → len = 0 ∧ cap = 0) ∧ len ≤ cap ∧ cap ≤ maxLen
/-- Texts in memory. -/
def SRow (w : World) (ok : Nat → Prop) (a : Option Addr) (q : List ByteArray) : Prop :=
  (∀ x ∈ q, x.size ≤ maxLen) ∧ (q ≠ [] → ∃ b off, a = some ⟨b, off, none⟩ ∧ ok b ∧ ∀ j (hj : j < q.length), w.cell? ⟨b, off + j, none⟩ = some (.string q[j]))
def V.cells (v : V) (p : VP) : List Value := [.int .i64 v.k, .bool v.b, .int .i64 v.n, .int .i64 v.m, .string v.s, .slice p.la v.l.length p.lc, .slice p.ka v.keys.length p.kc]
def V.val (v : V) (p : VP) : Value := .agg #[.int .i64 v.k, .bool v.b, .int .i64 v.n, .int .i64 v.m, .string v.s, .slice p.la v.l.length p.lc, .slice p.ka v.keys.length p.kc]
/-- Value j of a slice of values, but for what it leads to. -/
def VAt (w : World) (b off j : Nat) (v : V) (p : VP) : Prop :=
  w.cell? ⟨b, off + j * 7, none⟩ = some (.int .i64 v.k) ∧ w.cell? ⟨b, off + j * 7 + 1, none⟩ = some (.bool v.b) ∧ w.cell? ⟨b, off + j * 7 + 2, none⟩ = some (.int .i64 v.n) ∧ w.cell? ⟨b, off + j * 7 + 3, none⟩ = some (.int .i64 v.m) ∧
  w.cell? ⟨b, off + j * 7 + 4, none⟩ = some (.string v.s) ∧ w.cell? ⟨b, off + j * 7 + 5, none⟩ = some (.slice p.la v.l.length p.lc) ∧ w.cell? ⟨b, off + j * 7 + 6, none⟩ = some (.slice p.ka v.keys.length p.kc)
/-- The cells of a slice of values. -/
def VCells (w : World) (ok : Nat → Prop) (a : Option Addr) (l : List V) (P : Nat → VP) : Prop := l ≠ [] → ∃ b off, a = some ⟨b, off, none⟩ ∧ ok b ∧ ∀ j (hj : j < l.length), VAt w b off j l[j] (P j)
/-- What is closed under making values. -/
def VClosed (w : World) (ok : Nat → Prop) (X : V → VP → Prop) : Prop :=
  ∀ (k : Int) (b : Bool) (n m : Int) (s : ByteArray) (l : List V) (q : List ByteArray) (p : VP) (P : Nat → VP), I64 k → I64 n → I64 m → s.size ≤ maxLen → SliceOk p.la l.length p.lc → SliceOk p.ka q.length p.kc →
    SRow w ok p.ka q → VCells w ok p.la l P → (∀ j (hj : j < l.length), X l[j] (P j)) → X (.mk k b n m s l q) p
/-- A value, and all that it leads to, in blocks that may be. -/
def VIn (w : World) (ok : Nat → Prop) (v : V) (p : VP) : Prop := ∀ X : V → VP → Prop, VClosed w ok X → X v p
set_option maxRecDepth 100000 in
theorem VIn.mk {w : World} {ok : Nat → Prop} (k : Int) (b : Bool) (n m : Int) (s : ByteArray) (l : List V) (q : List ByteArray) (p : VP) (P : Nat → VP) (hk : I64 k) (hn : I64 n) (hm : I64 m) (hs : s.size ≤ maxLen) (hl : SliceOk p.la l.length p.lc) (hq : SliceOk p.ka q.length p.kc)
    (hkeys : SRow w ok p.ka q) (hc : VCells w ok p.la l P) (hin : ∀ j (hj : j < l.length), VIn w ok l[j] (P j)) : VIn w ok (.mk k b n m s l q) p :=
  fun X hX => hX k b n m s l q p P hk hn hm hs hl hq hkeys hc (fun j hj => hin j hj X hX)
set_option maxRecDepth 100000 in
theorem VIn.ind {w : World} {ok : Nat → Prop} {motive : (v : V) → (p : VP) → VIn w ok v p → Prop}
    (mk : ∀ (k : Int) (b : Bool) (n m : Int) (s : ByteArray) (l : List V) (q : List ByteArray) (p : VP) (P : Nat → VP) (hk : I64 k) (hn : I64 n) (hm : I64 m) (hs : s.size ≤ maxLen) (hl : SliceOk p.la l.length p.lc) (hq : SliceOk p.ka q.length p.kc)
      (hkeys : SRow w ok p.ka q) (hc : VCells w ok p.la l P) (hin : ∀ j (hj : j < l.length), VIn w ok l[j] (P j)) (_ih : ∀ j (hj : j < l.length), motive l[j] (P j) (hin j hj)), motive (.mk k b n m s l q) p (VIn.mk k b n m s l q p P hk hn hm hs hl hq hkeys hc hin))
    {v : V} {p : VP} (t : VIn w ok v p) : motive v p t := by
  obtain ⟨_, h⟩ := t (fun v p => ∃ t : VIn w ok v p, motive v p t) (fun k b n m s l q p P hk hn hm hs hl hq hkeys hc hx =>
    ⟨VIn.mk k b n m s l q p P hk hn hm hs hl hq hkeys hc (fun j hj => (hx j hj).1), mk k b n m s l q p P hk hn hm hs hl hq hkeys hc (fun j hj => (hx j hj).1) (fun j hj => (hx j hj).2)⟩)
  exact h
/-- A slice of values, and all that they lead to. -/
def VRow (w : World) (ok : Nat → Prop) (a : Option Addr) (l : List V) : Prop := ∃ P, VCells w ok a l P ∧ ∀ j (hj : j < l.length), VIn w ok l[j] (P j)

/-- Two worlds agree on the blocks that may be. -/
def Agree (ok : Nat → Prop) (w w' : World) : Prop := ∀ b, ok b → b < w.heap.size → w'.heap[b]? = w.heap[b]?
set_option maxRecDepth 100000 in
theorem Agree.cell {ok : Nat → Prop} {w w' : World} (h : Agree ok w w') {b i : Nat} {u : Value} (hb : ok b) (hc : w.cell? ⟨b, i, none⟩ = some u) : w'.cell? ⟨b, i, none⟩ = some u :=
  (World.cell?_of_block (h b hb (World.block_lt_of_cell? w ⟨b, i, none⟩ hc))).trans hc
set_option maxRecDepth 100000 in
theorem agreeB {w w' : World} (hb : Below w.heap.size w w') (ok : Nat → Prop) : Agree ok w w' := fun b _ hlt => hb.block b hlt
set_option maxRecDepth 100000 in
/-- A store into a block that may not be. -/
theorem Agree.setCell {ok : Nat → Prop} {w : World} {n i : Nat} (u : Value) (hn : ¬ ok n) : Agree ok w (w.setCell ⟨n, i, none⟩ u) := fun b hb _ => Below.heap_setCell _ _ _ _ (fun e => hn (by simp only at e; rw [← e]; exact hb))
set_option maxRecDepth 100000 in
theorem SRow.nil (w : World) (ok : Nat → Prop) (a : Option Addr) : SRow w ok a [] := ⟨by simp, fun h => absurd rfl h⟩
set_option maxRecDepth 100000 in
theorem SRow.agree {w w' : World} {ok : Nat → Prop} {a : Option Addr} {q : List ByteArray} (h : SRow w ok a q) (hg : Agree ok w w') : SRow w' ok a q := by
  refine ⟨h.1, fun hz => ?_⟩
  obtain ⟨b, off, rfl, hb, hc⟩ := h.2 hz
  exact ⟨b, off, rfl, hb, fun j hj => hg.cell hb (hc j hj)⟩
set_option maxRecDepth 100000 in
theorem SRow.below {w w' : World} {ok : Nat → Prop} {a : Option Addr} {q : List ByteArray} (h : SRow w ok a q) (hb : Below w.heap.size w w') : SRow w' ok a q := h.agree (agreeB hb ok)
set_option maxRecDepth 100000 in
/-- Other blocks may be; all blocks that are named are there. -/
theorem SRow.mono {w : World} {ok ok' : Nat → Prop} {a : Option Addr} {q : List ByteArray} (h : SRow w ok a q) (hm : ∀ b, ok b → b < w.heap.size → ok' b) : SRow w ok' a q := by
  refine ⟨h.1, fun hz => ?_⟩
  obtain ⟨b, off, rfl, hb, hc⟩ := h.2 hz
  exact ⟨b, off, rfl, hm b hb (World.block_lt_of_cell? w ⟨b, off + 0, none⟩ (hc 0 (List.length_pos_iff.2 hz))), hc⟩
set_option maxRecDepth 100000 in
theorem VAt.agree {w w' : World} {ok : Nat → Prop} {b off j : Nat} {v : V} {p : VP} (h : VAt w b off j v p) (hb : ok b) (hg : Agree ok w w') : VAt w' b off j v p := by
  obtain ⟨h0, h1, h2, h3, h4, h5, h6⟩ := h
  exact ⟨hg.cell hb h0, hg.cell hb h1, hg.cell hb h2, hg.cell hb h3, hg.cell hb h4, hg.cell hb h5, hg.cell hb h6⟩
set_option maxRecDepth 100000 in
theorem VAt.below {w w' : World} {b off j : Nat} {v : V} {p : VP} (h : VAt w b off j v p) (hb : Below w.heap.size w w') : VAt w' b off j v p := h.agree (ok := fun _ => True) trivial (agreeB hb _)
set_option maxRecDepth 100000 in
theorem VAt.lt {w : World} {b off j : Nat} {v : V} {p : VP} (h : VAt w b off j v p) : b < w.heap.size := World.block_lt_of_cell? w ⟨b, off + j * 7, none⟩ h.1
set_option maxRecDepth 100000 in
theorem VCells.agree {w w' : World} {ok : Nat → Prop} {a : Option Addr} {l : List V} {P : Nat → VP} (h : VCells w ok a l P) (hg : Agree ok w w') : VCells w' ok a l P := fun hz => by
  obtain ⟨b, off, rfl, hb, hc⟩ := h hz
  exact ⟨b, off, rfl, hb, fun j hj => (hc j hj).agree hb hg⟩
set_option maxRecDepth 100000 in
theorem VCells.below {w w' : World} {ok : Nat → Prop} {a : Option Addr} {l : List V} {P : Nat → VP} (h : VCells w ok a l P) (hb : Below w.heap.size w w') : VCells w' ok a l P := h.agree (agreeB hb ok)
set_option maxRecDepth 100000 in
theorem VCells.mono {w : World} {ok ok' : Nat → Prop} {a : Option Addr} {l : List V} {P : Nat → VP} (h : VCells w ok a l P) (hm : ∀ b, ok b → b < w.heap.size → ok' b) : VCells w ok' a l P := fun hz => by
  obtain ⟨b, off, rfl, hb, hc⟩ := h hz
  exact ⟨b, off, rfl, hm b hb (hc 0 (List.length_pos_iff.2 hz)).lt, hc⟩
set_option maxRecDepth 100000 in
theorem VIn.agree {w w' : World} {ok : Nat → Prop} {v : V} {p : VP} (h : VIn w ok v p) (hg : Agree ok w w') : VIn w' ok v p := by
  induction h using VIn.ind with
  | mk k b n m s l q p P hk hn hm hs hl hq hkeys hc _ ih => exact VIn.mk k b n m s l q p P hk hn hm hs hl hq (hkeys.agree hg) (hc.agree hg) ih
set_option maxRecDepth 100000 in
theorem VIn.stays {w w' : World} {ok : Nat → Prop} {v : V} {p : VP} (h : VIn w ok v p) (hb : Below w.heap.size w w') : VIn w' ok v p := h.agree (agreeB hb ok)
set_option maxRecDepth 100000 in
theorem VIn.mono {w : World} {ok ok' : Nat → Prop} {v : V} {p : VP} (h : VIn w ok v p) (hm : ∀ b, ok b → b < w.heap.size → ok' b) : VIn w ok' v p := by
  induction h using VIn.ind with
  | mk k b n m s l q p P hk hn hm' hs hl hq hkeys hc _ ih => exact VIn.mk k b n m s l q p P hk hn hm' hs hl hq (hkeys.mono hm) (hc.mono hm) ih
set_option maxRecDepth 100000 in
theorem VRow.agree {w w' : World} {ok : Nat → Prop} {a : Option Addr} {l : List V} (h : VRow w ok a l) (hg : Agree ok w w') : VRow w' ok a l := by
  obtain ⟨P, hc, hi⟩ := h
  exact ⟨P, hc.agree hg, fun j hj => (hi j hj).agree hg⟩
set_option maxRecDepth 100000 in
theorem VRow.below {w w' : World} {ok : Nat → Prop} {a : Option Addr} {l : List V} (h : VRow w ok a l) (hb : Below w.heap.size w w') : VRow w' ok a l := h.agree (agreeB hb ok)
set_option maxRecDepth 100000 in
theorem VRow.nil (w : World) (ok : Nat → Prop) (a : Option Addr) : VRow w ok a [] := ⟨fun _ => ⟨none, 0, none, 0⟩, fun h => absurd rfl h, fun j hj => by simp at hj⟩
set_option maxRecDepth 100000 in
theorem VIn.row {w : World} {ok : Nat → Prop} {v : V} {p : VP} (h : VIn w ok v p) : VRow w ok p.la v.l := by
  induction h using VIn.ind with
  | mk k b n m s l q p P hk hn hm hs hl hq hkeys hc hin _ => exact ⟨P, hc, hin⟩
end Go.Proofs.YtepohbcpepkboaaGreat

