/- The document's values as plain data, in plain mathematics: how great and deep they are, whether all is known, whether they are right. No conditions; no program. -/
import Derived.Test.YtigdcnoggjcddaaRows
import Derived.WalkKit
import Derived.WalkSpells
import Derived.Laws.BytesArg
import Derived.Deep.QuietTactic
import Derived.BigQuiet
namespace Go.Proofs.Ytigdcnoggjcddaa
open Go.RowKit

/-- In the world w the cells from address a on hold the bytes zs. -/
def Row (w : World) (a : Option Addr) (zs : List Int) : Prop :=
  (∀ c ∈ zs, 0 ≤ c ∧ c ≤ 255) ∧ (zs ≠ [] → ∃ b off, a = some ⟨b, off, none⟩ ∧ ∀ j, j < zs.length → w.cell? ⟨b, off + j, none⟩ = some (.int .u8 (zs.getD j 0)))

set_option maxRecDepth 100000 in
theorem Row.nil (w : World) (a : Option Addr) : Row w a [] := ⟨by simp, fun h => absurd rfl h⟩
set_option maxRecDepth 100000 in
theorem Row.at {w : World} {a : Option Addr} {zs : List Int} (h : Row w a zs) (hz : zs ≠ []) : ∃ b off, a = some ⟨b, off, none⟩ ∧ ∀ j, j < zs.length → w.cell? ⟨b, off + j, none⟩ = some (.int .u8 (zs.getD j 0)) := h.2 hz
set_option maxRecDepth 100000 in
theorem Row.byte {w : World} {a : Option Addr} {zs : List Int} (h : Row w a zs) : ∀ c ∈ zs, 0 ≤ c ∧ c ≤ 255 := h.1
set_option maxRecDepth 100000 in
theorem Row.getD {w : World} {a : Option Addr} {zs : List Int} (h : Row w a zs) (j : Nat) : 0 ≤ zs[j]?.getD 0 ∧ zs[j]?.getD 0 ≤ 255 := by
  by_cases hj : j < zs.length
  · have : zs[j]?.getD 0 = zs[j] := by simp [hj]
    rw [this]; exact h.1 _ (List.getElem_mem hj)
  · simp [List.getElem?_eq_none (by omega : zs.length ≤ j)]
set_option maxRecDepth 100000 in
/-- The block lies among those that are there. -/
theorem Row.lt {w : World} {b off : Nat} {zs : List Int} (h : Row w (some ⟨b, off, none⟩) zs) (hz : zs ≠ []) : b < w.heap.size := by
  obtain ⟨b', off', e, hc⟩ := h.2 hz
  simp only [Option.some.injEq, Addr.mk.injEq] at e
  obtain ⟨rfl, rfl, _⟩ := e
  have hl : 0 < zs.length := List.length_pos_iff.2 hz
  exact World.block_lt_of_cell? w ⟨b, off + 0, none⟩ (hc 0 hl)
set_option maxRecDepth 100000 in
/-- It stays while no old block is written. -/
theorem Row.below {w w' : World} {a : Option Addr} {zs : List Int} (h : Row w a zs) (hb : Below w.heap.size w w') : Row w' a zs := by
  refine ⟨h.1, fun hz => ?_⟩
  obtain ⟨b, off, rfl, hc⟩ := h.2 hz
  have hlt := Row.lt h hz
  exact ⟨b, off, rfl, fun j hj => (hb.cell (p := ⟨b, off + j, none⟩) hlt).trans (hc j hj)⟩
set_option maxRecDepth 100000 in
theorem Row.drew {w : World} {a : Option Addr} {zs : List Int} (h : Row w a zs) : Row w.drew a zs := h.below (Below.drew (Below.refl _ _))
set_option maxRecDepth 100000 in
theorem Row.drewN {w : World} {a : Option Addr} {zs : List Int} (h : Row w a zs) (n : Nat) : Row (w.drewN n) a zs := by
  refine ⟨h.1, fun hz => ?_⟩
  obtain ⟨b, off, rfl, hc⟩ := h.2 hz
  exact ⟨b, off, rfl, fun j hj => hc j hj⟩
set_option maxRecDepth 100000 in
theorem Row.alloc {w : World} {a : Option Addr} {zs : List Int} (h : Row w a zs) (o : Obj) : Row (w.alloc o) a zs := h.below ((Below.refl _ _).alloc (Nat.le_refl _) o)
set_option maxRecDepth 100000 in
/-- A row that a call made shows what it owns. -/
theorem Row.own {w : World} {base n cap g : Nat} {zs : List Int} (hz : ∀ c ∈ zs, 0 ≤ c ∧ c ≤ 255) (hn : zs.length = n)
    (h : w.ownsRow base 5 1 (.slice (some ⟨g, 0, none⟩) n cap) n (zs.map (Value.int .u8))) : Row w (some ⟨g, 0, none⟩) zs := by
  refine ⟨hz, fun _ => ⟨g, 0, rfl, fun j hj => ?_⟩⟩
  have := h.cellAt j (by omega)
  rw [Nat.zero_add, this]
  simp [hj]
set_option maxRecDepth 100000 in
/-- A piece from the front. -/
theorem Row.take {w : World} {a : Option Addr} {zs : List Int} (h : Row w a zs) (k : Nat) : Row w a (zs.take k) := by
  refine ⟨fun c hc => h.1 c (List.mem_of_mem_take hc), fun hz => ?_⟩
  have hz' : zs ≠ [] := by intro e; rw [e] at hz; simp at hz
  obtain ⟨b, off, rfl, hc⟩ := h.2 hz'
  refine ⟨b, off, rfl, fun j hj => ?_⟩
  have hj' : j < zs.length ∧ j < k := by simp at hj; omega
  rw [hc j hj'.1]
  simp [hj'.2]
set_option maxRecDepth 100000 in
/-- A piece from place i on. -/
theorem Row.drop {w : World} {b off : Nat} {zs : List Int} (h : Row w (some ⟨b, off, none⟩) zs) (i : Nat) : Row w (some ⟨b, off + i, none⟩) (zs.drop i) := by
  refine ⟨fun c hc => h.1 c (List.mem_of_mem_drop hc), fun hz => ?_⟩
  have hz' : zs ≠ [] := by intro e; rw [e] at hz; simp at hz
  obtain ⟨b', off', e, hc⟩ := h.2 hz'
  simp only [Option.some.injEq, Addr.mk.injEq] at e
  obtain ⟨rfl, rfl, _⟩ := e
  refine ⟨b, off + i, rfl, fun j hj => ?_⟩
  simp at hj
  rw [Nat.add_assoc, hc (i + j) (by omega)]
  simp [List.getElem?_drop]

set_option maxRecDepth 100000 in
/-- As an append wants it. -/
theorem Row.news {w : World} {a : Option Addr} {zs : List Int} (h : Row w a zs) : ∀ ad, a = some ad → ∀ j u, (zs.map (Value.int .u8))[j]? = some u → w.cell? (ad.add j) = some u := by
  intro ad had j u hu
  have hj : j < zs.length := by have := (List.getElem?_eq_some_iff.1 hu).1; simpa using this
  obtain ⟨b, off, e, hc⟩ := h.2 (by intro e; rw [e] at hj; simp at hj)
  rw [e] at had
  obtain rfl := Option.some.inj had
  rw [Addr.add_lit, hc j hj]
  rw [← hu]; simp [hj]
set_option maxRecDepth 100000 in
theorem info8 : (Try.prog.info? 5).map (fun i => (i.zero, i.size, i.bytes)) = some (some (.int .u8 0), 1, 1) := by kernel_rfl

set_option maxRecDepth 100000 in
/-- A row that grew: where it lies, if it isn't empty. -/
theorem own_shape {w : World} {base n : Nat} {v : Value} {xs : List Value} (h : w.ownsRow base 5 1 v n xs) (hn : 0 < n) :
    ∃ g cap, v = .slice (some ⟨g, 0, none⟩) n cap ∧ base ≤ g ∧ n ≤ cap ∧ cap ≤ maxLen := by
  rcases h.2 with ⟨_, h0⟩ | ⟨g, cap, cur, hv, hg, _, hc, hm, _⟩
  · omega
  · exact ⟨g, cap, hv, hg, hc, hm⟩
set_option maxRecDepth 100000 in
/-- What an append to a row of the call's own leaves of what lay below. -/
theorem below_own {B : Nat} {a w w' : World} {v : Value} {n : Nat} {xs : List Value} (hb : Below B a w) (h : w.ownsRow B 5 1 v n xs) (hB : B ≤ w.heap.size) (hg : w.grownBy w' v.ownBlock) : Below B a w' :=
  hb.grown hg hB (fun k hk => (h.lt k hk).1)

set_option maxRecDepth 100000 in
/-- Texts of bytes are the same just if the bytes are. -/
theorem map_byte_inj : ∀ (xs ys : List Int), (∀ c ∈ xs, 0 ≤ c ∧ c ≤ 255) → (∀ c ∈ ys, 0 ≤ c ∧ c ≤ 255) → (xs.map (fun n => UInt8.ofNat n.toNat) = ys.map (fun n => UInt8.ofNat n.toNat)) → xs = ys
  | [], [], _, _, _ => rfl
  | [], _ :: _, _, _, h => by simp at h
  | _ :: _, [], _, _, h => by simp at h
  | x :: xs, y :: ys, hx, hy, h => by
    simp only [List.map_cons, List.cons.injEq] at h
    have h1 := hx x (by simp)
    have h2 := hy y (by simp)
    have e : x.toNat = y.toNat := by
      have := congrArg UInt8.toNat h.1
      simp only [UInt8.toNat_ofNat'] at this
      omega
    rw [map_byte_inj xs ys (fun c hc => hx c (List.mem_cons_of_mem _ hc)) (fun c hc => hy c (List.mem_cons_of_mem _ hc)) h.2, show x = y by omega]
set_option maxRecDepth 100000 in
theorem str_beq (xs ys : List Int) (hx : ∀ c ∈ xs, 0 ≤ c ∧ c ≤ 255) (hy : ∀ c ∈ ys, 0 ≤ c ∧ c ≤ 255) : ((strOfNums xs).toList == (strOfNums ys).toList) = decide (xs = ys) := by
  rw [ByteArray.toList_eq, ByteArray.toList_eq, strOfNums_data, strOfNums_data, Bool.eq_iff_iff, beq_iff_eq, decide_eq_true_iff]
  exact ⟨map_byte_inj xs ys hx hy, fun h => by rw [h]⟩

end Go.Proofs.Ytigdcnoggjcddaa

namespace Go.Proofs.Ytigdcnoggjcddaa
open Go.RowKit

/-- A value: its kind, a bool, two numbers, a text, the values in it, their keys. -/
structure V where
  mk ::
  k : Int
  b : Bool
  n : Int
  m : Int
  s : ByteArray
  l : List V
  keys : List ByteArray

/-- How many values and letters. -/
def V.bulk : V → Nat
  | .mk _ _ _ _ s l q => 1 + s.size + go l + (q.map (fun x => 1 + x.size)).sum
  where go : List V → Nat
    | [] => 0
    | v :: r => v.bulk + go r
def V.size : V → Nat
  | .mk _ _ _ _ _ l _ => 1 + go l
  where go : List V → Nat
    | [] => 0
    | v :: r => v.size + go r
def V.deep : V → Nat
  | .mk _ _ _ _ _ l _ => go l + 1
  where go : List V → Nat
    | [] => 0
    | v :: r => max v.deep (go r)
def V.known : V → Bool
  | .mk k _ _ _ _ l _ => go l && k != 1
  where go : List V → Bool
    | [] => true
    | v :: r => v.known && go r
/-- Has it no more than it may? (Keys are looked at of a Map alone, as many as there are values.) -/
def V.fits : V → Bool
  | .mk k _ _ _ s l q => go l && (k != 7 || (q.take l.length).all (fun x => decide (x.size ≤ 256))) && decide (s.size ≤ 256) && decide (l.length ≤ 64)
  where go : List V → Bool
    | [] => true
    | v :: r => v.fits && go r

set_option maxRecDepth 100000 in
theorem sizeL_append : ∀ (a b : List V), V.size.go (a ++ b) = V.size.go a + V.size.go b
  | [], b => by simp [V.size.go]
  | x :: a, b => by simp only [List.cons_append, V.size.go, sizeL_append a b]; omega
set_option maxRecDepth 100000 in
theorem bulkL_append : ∀ (a b : List V), V.bulk.go (a ++ b) = V.bulk.go a + V.bulk.go b
  | [], b => by simp [V.bulk.go]
  | x :: a, b => by simp only [List.cons_append, V.bulk.go, bulkL_append a b]; omega
set_option maxRecDepth 100000 in
theorem deepL_append : ∀ (a b : List V), V.deep.go (a ++ b) = max (V.deep.go a) (V.deep.go b)
  | [], b => by simp [V.deep.go]
  | x :: a, b => by simp only [List.cons_append, V.deep.go, deepL_append a b]; omega
set_option maxRecDepth 100000 in
theorem knownL_append : ∀ (a b : List V), V.known.go (a ++ b) = (V.known.go a && V.known.go b)
  | [], b => by simp [V.known.go]
  | x :: a, b => by simp only [List.cons_append, V.known.go, knownL_append a b, Bool.and_assoc]
set_option maxRecDepth 100000 in
theorem fitsL_append : ∀ (a b : List V), V.fits.go (a ++ b) = (V.fits.go a && V.fits.go b)
  | [], b => by simp [V.fits.go]
  | x :: a, b => by simp only [List.cons_append, V.fits.go, fitsL_append a b, Bool.and_assoc]
set_option maxRecDepth 100000 in
theorem sizeL_one (x : V) : V.size.go [x] = x.size := by simp [V.size.go]
set_option maxRecDepth 100000 in
theorem bulkL_one (x : V) : V.bulk.go [x] = x.bulk := by simp [V.bulk.go]
set_option maxRecDepth 100000 in
theorem deepL_one (x : V) : V.deep.go [x] = x.deep := by simp [V.deep.go]
set_option maxRecDepth 100000 in
theorem knownL_one (x : V) : V.known.go [x] = x.known := by simp [V.known.go]
set_option maxRecDepth 100000 in
theorem fitsL_one (x : V) : V.fits.go [x] = x.fits := by simp [V.fits.go]
set_option maxRecDepth 100000 in
theorem V.size_le_bulk_all : (∀ v : V, v.size ≤ v.bulk) ∧ (∀ l : List V, V.size.go l ≤ V.bulk.go l) := by
  refine ⟨?_, ?_⟩
  · intro v
    exact V.rec (motive_1 := fun v => v.size ≤ v.bulk) (motive_2 := fun l => V.size.go l ≤ V.bulk.go l)
      (fun _ _ _ _ _ _ _ ih => by simp only [V.size, V.bulk]; omega) (by simp [V.size.go]) (fun _ _ h1 h2 => by simp only [V.size.go, V.bulk.go]; omega) v
  · intro l
    exact V.rec_1 (motive_1 := fun v => v.size ≤ v.bulk) (motive_2 := fun l => V.size.go l ≤ V.bulk.go l)
      (fun _ _ _ _ _ _ _ ih => by simp only [V.size, V.bulk]; omega) (by simp [V.size.go]) (fun _ _ h1 h2 => by simp only [V.size.go, V.bulk.go]; omega) l
set_option maxRecDepth 100000 in
theorem V.size_le (v : V) : v.size ≤ v.bulk := V.size_le_bulk_all.1 v
set_option maxRecDepth 100000 in
theorem sizeL_le (l : List V) : V.size.go l ≤ V.bulk.go l := V.size_le_bulk_all.2 l
set_option maxRecDepth 100000 in
theorem V.deep_le_all : (∀ v : V, v.deep ≤ v.size) ∧ (∀ l : List V, V.deep.go l ≤ V.size.go l) := by
  refine ⟨?_, ?_⟩
  · intro v
    exact V.rec (motive_1 := fun v => v.deep ≤ v.size) (motive_2 := fun l => V.deep.go l ≤ V.size.go l)
      (fun _ _ _ _ _ _ _ ih => by simp only [V.size, V.deep]; omega) (by simp [V.size.go, V.deep.go]) (fun _ _ h1 h2 => by simp only [V.size.go, V.deep.go]; omega) v
  · intro l
    exact V.rec_1 (motive_1 := fun v => v.deep ≤ v.size) (motive_2 := fun l => V.deep.go l ≤ V.size.go l)
      (fun _ _ _ _ _ _ _ ih => by simp only [V.size, V.deep]; omega) (by simp [V.size.go, V.deep.go]) (fun _ _ h1 h2 => by simp only [V.size.go, V.deep.go]; omega) l
set_option maxRecDepth 100000 in
theorem V.deep_le (v : V) : v.deep ≤ v.size := V.deep_le_all.1 v
set_option maxRecDepth 100000 in
theorem V.bulk_pos (v : V) : 1 ≤ v.bulk := by cases v; simp only [V.bulk]; omega
set_option maxRecDepth 100000 in
theorem len_le_bulkL : ∀ l : List V, l.length ≤ V.bulk.go l
  | [] => by simp
  | v :: r => by have := v.bulk_pos; have := len_le_bulkL r; simp only [List.length_cons, V.bulk.go]; omega
set_option maxRecDepth 100000 in
theorem bulk_mem : ∀ {l : List V} {v : V}, v ∈ l → v.bulk ≤ V.bulk.go l
  | x :: r, v, h => by
    simp only [V.bulk.go]
    rcases List.mem_cons.1 h with rfl | h
    · omega
    · have := bulk_mem h; omega
set_option maxRecDepth 100000 in
theorem bulk_take (l : List V) (j : Nat) : V.bulk.go (l.take j) ≤ V.bulk.go l := by
  have := bulkL_append (l.take j) (l.drop j)
  rw [List.take_append_drop] at this; omega
set_option maxRecDepth 100000 in
theorem keys_len : ∀ q : List ByteArray, q.length ≤ (q.map (fun x => 1 + x.size)).sum
  | [] => by simp
  | x :: r => by have := keys_len r; simp only [List.map_cons, List.sum_cons, List.length_cons]; omega
set_option maxRecDepth 100000 in
theorem keys_mem : ∀ {q : List ByteArray} {x : ByteArray}, x ∈ q → x.size ≤ (q.map (fun x => 1 + x.size)).sum
  | y :: r, x, h => by
    simp only [List.map_cons, List.sum_cons]
    rcases List.mem_cons.1 h with rfl | h
    · omega
    · have := keys_mem h; omega
end Go.Proofs.Ytigdcnoggjcddaa

