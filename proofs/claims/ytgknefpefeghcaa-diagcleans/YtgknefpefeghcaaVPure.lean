/- The document's values as plain data, in plain mathematics: how great and deep they are, whether all is known, whether they are right. No conditions; no program. -/
import Derived.Test.YtgknefpefeghcaaRow
namespace Go.Proofs.Ytgknefpefeghcaa
open Go.RowKit

/-- A value: its kind, a bool, two numbers, a text, the values in it, their keys. -/
structure V where
  mk ::
  k : Int
  b : Bool
  n : Int
  m : Int
  s : ByteArray
  l : List V
  keys : List ByteArray

/-- How many values and letters. -/
def V.bulk : V → Nat
  | .mk _ _ _ _ s l q => 1 + s.size + go l + (q.map (fun x => 1 + x.size)).sum
  where go : List V → Nat
    | [] => 0
    | v :: r => v.bulk + go r
def V.size : V → Nat
  | .mk _ _ _ _ _ l _ => 1 + go l
  where go : List V → Nat
    | [] => 0
    | v :: r => v.size + go r
def V.deep : V → Nat
  | .mk _ _ _ _ _ l _ => go l + 1
  where go : List V → Nat
    | [] => 0
    | v :: r => max v.deep (go r)
def V.known : V → Bool
  | .mk k _ _ _ _ l _ => go l && k != 1
  where go : List V → Bool
    | [] => true
    | v :: r => v.known && go r
/-- Has it no more than it may? (Keys are looked at of a Map alone, as many as there are values.) -/
def V.fits : V → Bool
  | .mk k _ _ _ s l q => go l && (k != 7 || (q.take l.length).all (fun x => decide (x.size ≤ 256))) && decide (s.size ≤ 256) && decide (l.length ≤ 64)
  where go : List V → Bool
    | [] => true
    | v :: r => v.fits && go r

set_option maxRecDepth 100000 in
theorem sizeL_append : ∀ (a b : List V), V.size.go (a ++ b) = V.size.go a + V.size.go b
  | [], b => by simp [V.size.go]
  | x :: a, b => by simp only [List.cons_append, V.size.go, sizeL_append a b]; omega
set_option maxRecDepth 100000 in
theorem bulkL_append : ∀ (a b : List V), V.bulk.go (a ++ b) = V.bulk.go a + V.bulk.go b
  | [], b => by simp [V.bulk.go]
  | x :: a, b => by simp only [List.cons_append, V.bulk.go, bulkL_append a b]; omega
set_option maxRecDepth 100000 in
theorem deepL_append : ∀ (a b : List V), V.deep.go (a ++ b) = max (V.deep.go a) (V.deep.go b)
  | [], b => by simp [V.deep.go]
  | x :: a, b => by simp only [List.cons_append, V.deep.go, deepL_append a b]; omega
set_option maxRecDepth 100000 in
theorem knownL_append : ∀ (a b : List V), V.known.go (a ++ b) = (V.known.go a && V.known.go b)
  | [], b => by simp [V.known.go]
  | x :: a, b => by simp only [List.cons_append, V.known.go, knownL_append a b, Bool.and_assoc]
set_option maxRecDepth 100000 in
theorem fitsL_append : ∀ (a b : List V), V.fits.go (a ++ b) = (V.fits.go a && V.fits.go b)
  | [], b => by simp [V.fits.go]
  | x :: a, b => by simp only [List.cons_append, V.fits.go, fitsL_append a b, Bool.and_assoc]
set_option maxRecDepth 100000 in
theorem sizeL_one (x : V) : V.size.go [x] = x.size := by simp [V.size.go]
set_option maxRecDepth 100000 in
theorem bulkL_one (x : V) : V.bulk.go [x] = x.bulk := by simp [V.bulk.go]
set_option maxRecDepth 100000 in
theorem deepL_one (x : V) : V.deep.go [x] = x.deep := by simp [V.deep.go]
set_option maxRecDepth 100000 in
theorem knownL_one (x : V) : V.known.go [x] = x.known := by simp [V.known.go]
set_option maxRecDepth 100000 in
theorem fitsL_one (x : V) : V.fits.go [x] = x.fits := by simp [V.fits.go]
set_option maxRecDepth 100000 in
theorem V.size_le_bulk_all : (∀ v : V, v.size ≤ v.bulk) ∧ (∀ l : List V, V.size.go l ≤ V.bulk.go l) := by
  refine ⟨?_, ?_⟩
  · intro v
    exact V.rec (motive_1 := fun v => v.size ≤ v.bulk) (motive_2 := fun l => V.size.go l ≤ V.bulk.go l)
      (fun _ _ _ _ _ _ _ ih => by simp only [V.size, V.bulk]; omega) (by simp [V.size.go]) (fun _ _ h1 h2 => by simp only [V.size.go, V.bulk.go]; omega) v
  · intro l
    exact V.rec_1 (motive_1 := fun v => v.size ≤ v.bulk) (motive_2 := fun l => V.size.go l ≤ V.bulk.go l)
      (fun _ _ _ _ _ _ _ ih => by simp only [V.size, V.bulk]; omega) (by simp [V.size.go]) (fun _ _ h1 h2 => by simp only [V.size.go, V.bulk.go]; omega) l
set_option maxRecDepth 100000 in
theorem V.size_le (v : V) : v.size ≤ v.bulk := V.size_le_bulk_all.1 v
set_option maxRecDepth 100000 in
theorem sizeL_le (l : List V) : V.size.go l ≤ V.bulk.go l := V.size_le_bulk_all.2 l
set_option maxRecDepth 100000 in
theorem V.deep_le_all : (∀ v : V, v.deep ≤ v.size) ∧ (∀ l : List V, V.deep.go l ≤ V.size.go l) := by
  refine ⟨?_, ?_⟩
  · intro v
    exact V.rec (motive_1 := fun v => v.deep ≤ v.size) (motive_2 := fun l => V.deep.go l ≤ V.size.go l)
      (fun _ _ _ _ _ _ _ ih => by simp only [V.size, V.deep]; omega) (by simp [V.size.go, V.deep.go]) (fun _ _ h1 h2 => by simp only [V.size.go, V.deep.go]; omega) v
  · intro l
    exact V.rec_1 (motive_1 := fun v => v.deep ≤ v.size) (motive_2 := fun l => V.deep.go l ≤ V.size.go l)
      (fun _ _ _ _ _ _ _ ih => by simp only [V.size, V.deep]; omega) (by simp [V.size.go, V.deep.go]) (fun _ _ h1 h2 => by simp only [V.size.go, V.deep.go]; omega) l
set_option maxRecDepth 100000 in
theorem V.deep_le (v : V) : v.deep ≤ v.size := V.deep_le_all.1 v
set_option maxRecDepth 100000 in
theorem V.bulk_pos (v : V) : 1 ≤ v.bulk := by cases v; simp only [V.bulk]; omega
set_option maxRecDepth 100000 in
theorem len_le_bulkL : ∀ l : List V, l.length ≤ V.bulk.go l
  | [] => by simp
  | v :: r => by have := v.bulk_pos; have := len_le_bulkL r; simp only [List.length_cons, V.bulk.go]; omega
set_option maxRecDepth 100000 in
theorem bulk_mem : ∀ {l : List V} {v : V}, v ∈ l → v.bulk ≤ V.bulk.go l
  | x :: r, v, h => by
    simp only [V.bulk.go]
    rcases List.mem_cons.1 h with rfl | h
    · omega
    · have := bulk_mem h; omega
set_option maxRecDepth 100000 in
theorem bulk_take (l : List V) (j : Nat) : V.bulk.go (l.take j) ≤ V.bulk.go l := by
  have := bulkL_append (l.take j) (l.drop j)
  rw [List.take_append_drop] at this; omega
set_option maxRecDepth 100000 in
theorem keys_len : ∀ q : List ByteArray, q.length ≤ (q.map (fun x => 1 + x.size)).sum
  | [] => by simp
  | x :: r => by have := keys_len r; simp only [List.map_cons, List.sum_cons, List.length_cons]; omega
set_option maxRecDepth 100000 in
theorem keys_mem : ∀ {q : List ByteArray} {x : ByteArray}, x ∈ q → x.size ≤ (q.map (fun x => 1 + x.size)).sum
  | y :: r, x, h => by
    simp only [List.map_cons, List.sum_cons]
    rcases List.mem_cons.1 h with rfl | h
    · omega
    · have := keys_mem h; omega
end Go.Proofs.Ytgknefpefeghcaa
