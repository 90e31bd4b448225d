/- Slices of bytes in memory: what a slice value shows in a world, and that it stays so while nothing old is written. No conditions; no function of the program. -/
import Derived.Test.YtgknefpefeghcaaRows
import Derived.WalkKit
import Derived.WalkSpells
import Derived.Laws.BytesArg
import Derived.Deep.QuietTactic
import Derived.BigQuiet
namespace Go.Proofs.Ytgknefpefeghcaa
open Go.RowKit

/-- In the world w the cells from address a on hold the bytes zs. -/
def Row (w : World) (a : Option Addr) (zs : List Int) : Prop :=
  (∀ c ∈ zs, 0 ≤ c ∧ c ≤ 255) ∧ (zs ≠ [] → ∃ b off, a = some ⟨b, off, none⟩ ∧ ∀ j, j < zs.length → w.cell? ⟨b, off + j, none⟩ = some (.int .u8 (zs.getD j 0)))

set_option maxRecDepth 100000 in
theorem Row.nil (w : World) (a : Option Addr) : Row w a [] := ⟨by simp, fun h => absurd rfl h⟩
set_option maxRecDepth 100000 in
theorem Row.at {w : World} {a : Option Addr} {zs : List Int} (h : Row w a zs) (hz : zs ≠ []) : ∃ b off, a = some ⟨b, off, none⟩ ∧ ∀ j, j < zs.length → w.cell? ⟨b, off + j, none⟩ = some (.int .u8 (zs.getD j 0)) := h.2 hz
set_option maxRecDepth 100000 in
theorem Row.byte {w : World} {a : Option Addr} {zs : List Int} (h : Row w a zs) : ∀ c ∈ zs, 0 ≤ c ∧ c ≤ 255 := h.1
set_option maxRecDepth 100000 in
theorem Row.getD {w : World} {a : Option Addr} {zs : List Int} (h : Row w a zs) (j : Nat) : 0 ≤ zs[j]?.getD 0 ∧ zs[j]?.getD 0 ≤ 255 := by
  by_cases hj : j < zs.length
  · have : zs[j]?.getD 0 = zs[j] := by simp [hj]
    rw [this]; exact h.1 _ (List.getElem_mem hj)
  · simp [List.getElem?_eq_none (by omega : zs.length ≤ j)]
set_option maxRecDepth 100000 in
/-- The block lies among those that are there. -/
theorem Row.lt {w : World} {b off : Nat} {zs : List Int} (h : Row w (some ⟨b, off, none⟩) zs) (hz : zs ≠ []) : b < w.heap.size := by
  obtain ⟨b', off', e, hc⟩ := h.2 hz
  simp only [Option.some.injEq, Addr.mk.injEq] at e
  obtain ⟨rfl, rfl, _⟩ := e
  have hl : 0 < zs.length := List.length_pos_iff.2 hz
  exact World.block_lt_of_cell? w ⟨b, off + 0, none⟩ (hc 0 hl)
set_option maxRecDepth 100000 in
/-- It stays while no old block is written. -/
theorem Row.below {w w' : World} {a : Option Addr} {zs : List Int} (h : Row w a zs) (hb : Below w.heap.size w w') : Row w' a zs := by
  refine ⟨h.1, fun hz => ?_⟩
  obtain ⟨b, off, rfl, hc⟩ := h.2 hz
  have hlt := Row.lt h hz
  exact ⟨b, off, rfl, fun j hj => (hb.cell (p := ⟨b, off + j, none⟩) hlt).trans (hc j hj)⟩
set_option maxRecDepth 100000 in
theorem Row.drew {w : World} {a : Option Addr} {zs : List Int} (h : Row w a zs) : Row w.drew a zs := h.below (Below.drew (Below.refl _ _))
set_option maxRecDepth 100000 in
theorem Row.drewN {w : World} {a : Option Addr} {zs : List Int} (h : Row w a zs) (n : Nat) : Row (w.drewN n) a zs := by
  refine ⟨h.1, fun hz => ?_⟩
  obtain ⟨b, off, rfl, hc⟩ := h.2 hz
  exact ⟨b, off, rfl, fun j hj => hc j hj⟩
set_option maxRecDepth 100000 in
theorem Row.alloc {w : World} {a : Option Addr} {zs : List Int} (h : Row w a zs) (o : Obj) : Row (w.alloc o) a zs := h.below ((Below.refl _ _).alloc (Nat.le_refl _) o)
set_option maxRecDepth 100000 in
/-- A row that a call made shows what it owns. -/
theorem Row.own {w : World} {base n cap g : Nat} {zs : List Int} (hz : ∀ c ∈ zs, 0 ≤ c ∧ c ≤ 255) (hn : zs.length = n)
    (h : w.ownsRow base 5 1 (.slice (some ⟨g, 0, none⟩) n cap) n (zs.map (Value.int .u8))) : Row w (some ⟨g, 0, none⟩) zs := by
  refine ⟨hz, fun _ => ⟨g, 0, rfl, fun j hj => ?_⟩⟩
  have := h.cellAt j (by omega)
  rw [Nat.zero_add, this]
  simp [hj]
set_option maxRecDepth 100000 in
/-- A piece from the front. -/
theorem Row.take {w : World} {a : Option Addr} {zs : List Int} (h : Row w a zs) (k : Nat) : Row w a (zs.take k) := by
  refine ⟨fun c hc => h.1 c (List.mem_of_mem_take hc), fun hz => ?_⟩
  have hz' : zs ≠ [] := by intro e; rw [e] at hz; simp at hz
  obtain ⟨b, off, rfl, hc⟩ := h.2 hz'
  refine ⟨b, off, rfl, fun j hj => ?_⟩
  have hj' : j < zs.length ∧ j < k := by simp at hj; omega
  rw [hc j hj'.1]
  simp [hj'.2]
set_option maxRecDepth 100000 in
/-- A piece from place i on. -/
theorem Row.drop {w : World} {b off : Nat} {zs : List Int} (h : Row w (some ⟨b, off, none⟩) zs) (i : Nat) : Row w (some ⟨b, off + i, none⟩) (zs.drop i) := by
  refine ⟨fun c hc => h.1 c (List.mem_of_mem_drop hc), fun hz => ?_⟩
  have hz' : zs ≠ [] := by intro e; rw [e] at hz; simp at hz
  obtain ⟨b', off', e, hc⟩ := h.2 hz'
  simp only [Option.some.injEq, Addr.mk.injEq] at e
  obtain ⟨rfl, rfl, _⟩ := e
  refine ⟨b, off + i, rfl, fun j hj => ?_⟩
  simp at hj
  rw [Nat.add_assoc, hc (i + j) (by omega)]
  simp [List.getElem?_drop]

set_option maxRecDepth 100000 in
/-- As an append wants it. -/
theorem Row.news {w : World} {a : Option Addr} {zs : List Int} (h : Row w a zs) : ∀ ad, a = some ad → ∀ j u, (zs.map (Value.int .u8))[j]? = some u → w.cell? (ad.add j) = some u := by
  intro ad had j u hu
  have hj : j < zs.length := by have := (List.getElem?_eq_some_iff.1 hu).1; simpa using this
  obtain ⟨b, off, e, hc⟩ := h.2 (by intro e; rw [e] at hj; simp at hj)
  rw [e] at had
  obtain rfl := Option.some.inj had
  rw [Addr.add_lit, hc j hj]
  rw [← hu]; simp [hj]
set_option maxRecDepth 100000 in
theorem info8 : (Try.prog.info? 5).map (fun i => (i.zero, i.size, i.bytes)) = some (some (.int .u8 0), 1, 1) := by kernel_rfl

set_option maxRecDepth 100000 in
/-- A row that grew: where it lies, if it isn't empty. -/
theorem own_shape {w : World} {base n : Nat} {v : Value} {xs : List Value} (h : w.ownsRow base 5 1 v n xs) (hn : 0 < n) :
    ∃ g cap, v = .slice (some ⟨g, 0, none⟩) n cap ∧ base ≤ g ∧ n ≤ cap ∧ cap ≤ maxLen := by
  rcases h.2 with ⟨_, h0⟩ | ⟨g, cap, cur, hv, hg, _, hc, hm, _⟩
  · omega
  · exact ⟨g, cap, hv, hg, hc, hm⟩
set_option maxRecDepth 100000 in
/-- What an append to a row of the call's own leaves of what lay below. -/
theorem below_own {B : Nat} {a w w' : World} {v : Value} {n : Nat} {xs : List Value} (hb : Below B a w) (h : w.ownsRow B 5 1 v n xs) (hB : B ≤ w.heap.size) (hg : w.grownBy w' v.ownBlock) : Below B a w' :=
  hb.grown hg hB (fun k hk => (h.lt k hk).1)

set_option maxRecDepth 100000 in
/-- Texts of bytes are the same just if the bytes are. -/
theorem map_byte_inj : ∀ (xs ys : List Int), (∀ c ∈ xs, 0 ≤ c ∧ c ≤ 255) → (∀ c ∈ ys, 0 ≤ c ∧ c ≤ 255) → (xs.map (fun n => UInt8.ofNat n.toNat) = ys.map (fun n => UInt8.ofNat n.toNat)) → xs = ys
  | [], [], _, _, _ => rfl
  | [], _ :: _, _, _, h => by simp at h
  | _ :: _, [], _, _, h => by simp at h
  | x :: xs, y :: ys, hx, hy, h => by
    simp only [List.map_cons, List.cons.injEq] at h
    have h1 := hx x (by simp)
    have h2 := hy y (by simp)
    have e : x.toNat = y.toNat := by
      have := congrArg UInt8.toNat h.1
      simp only [UInt8.toNat_ofNat'] at this
      omega
    rw [map_byte_inj xs ys (fun c hc => hx c (List.mem_cons_of_mem _ hc)) (fun c hc => hy c (List.mem_cons_of_mem _ hc)) h.2, show x = y by omega]
set_option maxRecDepth 100000 in
theorem str_beq (xs ys : List Int) (hx : ∀ c ∈ xs, 0 ≤ c ∧ c ≤ 255) (hy : ∀ c ∈ ys, 0 ≤ c ∧ c ≤ 255) : ((strOfNums xs).toList == (strOfNums ys).toList) = decide (xs = ys) := by
  rw [ByteArray.toList_eq, ByteArray.toList_eq, strOfNums_data, strOfNums_data, Bool.eq_iff_iff, beq_iff_eq, decide_eq_true_iff]
  exact ⟨map_byte_inj xs ys hx hy, fun h => by rw [h]⟩

set_option maxRecDepth 100000 in
/-- string(b). -/
theorem Row.text {w : World} {a : Option Addr} {zs : List Int} (h : Row w a zs) (n cap : Nat) (hn : zs.length = n) :
    (convert 34 9 (.slice a n cap)).run Try.prog w = .ok (.string (strOfNums zs)) w := by
  by_cases hz : zs = []
  · subst hz
    cases a with
    | none => exact run_convert_bytes_nil w 34 5 Try.underlying34 Try.underlying5 n cap 9 Try.underlying9
    | some x =>
      simp at hn; subst hn
      have := run_convert_bytes_string (P := Try.prog) w 34 9 5 (some x) 0 cap Try.underlying34 Try.underlying5 Try.underlying9
      rw [this, run_bytesToString w x 0 cap [] (by simpa using run_loadCells_list (P := Try.prog) w x [] (by simp))]
      rfl
  · obtain ⟨b, off, rfl, hc⟩ := h.2 hz
    exact run_convert_bytes_arg w 34 5 Try.underlying34 Try.underlying5 b off n cap zs hn (fun i hi => hc i (by omega)) 9 Try.underlying9
end Go.Proofs.Ytgknefpefeghcaa
