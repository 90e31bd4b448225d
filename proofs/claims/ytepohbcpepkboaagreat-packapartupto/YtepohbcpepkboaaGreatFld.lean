/- Fields in memory: what a slice of fields shows in a world. No conditions; no function of the program. -/
import Derived.Test.YtepohbcpepkboaaGreatRows
import Derived.WalkKit
import Derived.WalkSpells
import Derived.Laws.BytesArg
import Derived.Deep.QuietTactic
import Derived.BigQuiet
import Derived.Laws.Concat
import Derived.Laws.AppendOwnNone
namespace Go.Proofs.YtepohbcpepkboaaGreat
open Go.RowKit

/-- In the world w the cells from address a on hold the bytes zs. -/
def Row (w : World) (a : Option Addr) (zs : List Int) : Prop :=
  (∀ c ∈ zs, 0 ≤ c ∧ c ≤ 255) ∧ (zs ≠ [] → ∃ b off, a = some ⟨b, off, none⟩ ∧ ∀ j, j < zs.length → w.cell? ⟨b, off + j, none⟩ = some (.int .u8 (zs.getD j 0)))

set_option maxRecDepth 100000 in
theorem Row.nil (w : World) (a : Option Addr) : Row w a [] := ⟨by simp, fun h => absurd rfl h⟩
set_option maxRecDepth 100000 in
theorem Row.at {w : World} {a : Option Addr} {zs : List Int} (h : Row w a zs) (hz : zs ≠ []) : ∃ b off, a = some ⟨b, off, none⟩ ∧ ∀ j, j < zs.length → w.cell? ⟨b, off + j, none⟩ = some (.int .u8 (zs.getD j 0)) := h.2 hz
set_option maxRecDepth 100000 in
theorem Row.byte {w : World} {a : Option Addr} {zs : List Int} (h : Row w a zs) : ∀ c ∈ zs, 0 ≤ c ∧ c ≤ 255 := h.1
set_option maxRecDepth 100000 in
theorem Row.getD {w : World} {a : Option Addr} {zs : List Int} (h : Row w a zs) (j : Nat) : 0 ≤ zs[j]?.getD 0 ∧ zs[j]?.getD 0 ≤ 255 := by
  by_cases hj : j < zs.length
  · have : zs[j]?.getD 0 = zs[j] := by simp [hj]
    rw [this]; exact h.1 _ (List.getElem_mem hj)
  · simp [List.getElem?_eq_none (by omega : zs.length ≤ j)]
set_option maxRecDepth 100000 in
/-- The block lies among those that are there. -/
theorem Row.lt {w : World} {b off : Nat} {zs : List Int} (h : Row w (some ⟨b, off, none⟩) zs) (hz : zs ≠ []) : b < w.heap.size := by
  obtain ⟨b', off', e, hc⟩ := h.2 hz
  simp only [Option.some.injEq, Addr.mk.injEq] at e
  obtain ⟨rfl, rfl, _⟩ := e
  have hl : 0 < zs.length := List.length_pos_iff.2 hz
  exact World.block_lt_of_cell? w ⟨b, off + 0, none⟩ (hc 0 hl)
set_option maxRecDepth 100000 in
/-- It stays while no old block is written. -/
theorem Row.below {w w' : World} {a : Option Addr} {zs : List Int} (h : Row w a zs) (hb : Below w.heap.size w w') : Row w' a zs := by
  refine ⟨h.1, fun hz => ?_⟩
  obtain ⟨b, off, rfl, hc⟩ := h.2 hz
  have hlt := Row.lt h hz
  exact ⟨b, off, rfl, fun j hj => (hb.cell (p := ⟨b, off + j, none⟩) hlt).trans (hc j hj)⟩
set_option maxRecDepth 100000 in
theorem Row.drew {w : World} {a : Option Addr} {zs : List Int} (h : Row w a zs) : Row w.drew a zs := h.below (Below.drew (Below.refl _ _))
set_option maxRecDepth 100000 in
theorem Row.drewN {w : World} {a : Option Addr} {zs : List Int} (h : Row w a zs) (n : Nat) : Row (w.drewN n) a zs := by
  refine ⟨h.1, fun hz => ?_⟩
  obtain ⟨b, off, rfl, hc⟩ := h.2 hz
  exact ⟨b, off, rfl, fun j hj => hc j hj⟩
set_option maxRecDepth 100000 in
theorem Row.alloc {w : World} {a : Option Addr} {zs : List Int} (h : Row w a zs) (o : Obj) : Row (w.alloc o) a zs := h.below ((Below.refl _ _).alloc (Nat.le_refl _) o)
set_option maxRecDepth 100000 in
/-- A row that a call made shows what it owns. -/
theorem Row.own {w : World} {base n cap g : Nat} {zs : List Int} (hz : ∀ c ∈ zs, 0 ≤ c ∧ c ≤ 255) (hn : zs.length = n)
    (h : w.ownsRow base 5 1 (.slice (some ⟨g, 0, none⟩) n cap) n (zs.map (Value.int .u8))) : Row w (some ⟨g, 0, none⟩) zs := by
  refine ⟨hz, fun _ => ⟨g, 0, rfl, fun j hj => ?_⟩⟩
  have := h.cellAt j (by omega)
  rw [Nat.zero_add, this]
  simp [hj]
set_option maxRecDepth 100000 in
/-- A piece from the front. -/
theorem Row.take {w : World} {a : Option Addr} {zs : List Int} (h : Row w a zs) (k : Nat) : Row w a (zs.take k) := by
  refine ⟨fun c hc => h.1 c (List.mem_of_mem_take hc), fun hz => ?_⟩
  have hz' : zs ≠ [] := by intro e; rw [e] at hz; simp at hz
  obtain ⟨b, off, rfl, hc⟩ := h.2 hz'
  refine ⟨b, off, rfl, fun j hj => ?_⟩
  have hj' : j < zs.length ∧ j < k := by simp at hj; omega
  rw [hc j hj'.1]
  simp [hj'.2]
set_option maxRecDepth 100000 in
/-- A piece from place i on. -/
theorem Row.drop {w : World} {b off : Nat} {zs : List Int} (h : Row w (some ⟨b, off, none⟩) zs) (i : Nat) : Row w (some ⟨b, off + i, none⟩) (zs.drop i) := by
  refine ⟨fun c hc => h.1 c (List.mem_of_mem_drop hc), fun hz => ?_⟩
  have hz' : zs ≠ [] := by intro e; rw [e] at hz; simp at hz
  obtain ⟨b', off', e, hc⟩ := h.2 hz'
  simp only [Option.some.injEq, Addr.mk.injEq] at e
  obtain ⟨rfl, rfl, _⟩ := e
  refine ⟨b, off + i, rfl, fun j hj => ?_⟩
  simp at hj
  rw [Nat.add_assoc, hc (i + j) (by omega)]
  simp [List.getElem?_drop]

set_option maxRecDepth 100000 in
/-- As an append wants it. -/
theorem Row.news {w : World} {a : Option Addr} {zs : List Int} (h : Row w a zs) : ∀ ad, a = some ad → ∀ j u, (zs.map (Value.int .u8))[j]? = some u → w.cell? (ad.add j) = some u := by
  intro ad had j u hu
  have hj : j < zs.length := by have := (List.getElem?_eq_some_iff.1 hu).1; simpa using this
  obtain ⟨b, off, e, hc⟩ := h.2 (by intro e; rw [e] at hj; simp at hj)
  rw [e] at had
  obtain rfl := Option.some.inj had
  rw [Addr.add_lit, hc j hj]
  rw [← hu]; simp [hj]
set_option maxRecDepth 100000 in
theorem info8 : (Tryz.prog.info? 5).map (fun i => (i.zero, i.size, i.bytes)) = some (some (.int .u8 0), 1, 1) := by kernel_rfl

set_option maxRecDepth 100000 in
/-- A row that grew: where it lies, if it isn't empty. -/
theorem own_shape {w : World} {base n : Nat} {v : Value} {xs : List Value} (h : w.ownsRow base 5 1 v n xs) (hn : 0 < n) :
    ∃ g cap, v = .slice (some ⟨g, 0, none⟩) n cap ∧ base ≤ g ∧ n ≤ cap ∧ cap ≤ maxLen := by
  rcases h.2 with ⟨_, h0⟩ | ⟨g, cap, cur, hv, hg, _, hc, hm, _⟩
  · omega
  · exact ⟨g, cap, hv, hg, hc, hm⟩
set_option maxRecDepth 100000 in
/-- What an append to a row of the call's own leaves of what lay below. -/
theorem below_own {B : Nat} {a w w' : World} {v : Value} {n : Nat} {xs : List Value} (hb : Below B a w) (h : w.ownsRow B 5 1 v n xs) (hB : B ≤ w.heap.size) (hg : w.grownBy w' v.ownBlock) : Below B a w' :=
  hb.grown hg hB (fun k hk => (h.lt k hk).1)

set_option maxRecDepth 100000 in
/-- Texts of bytes are the same just if the bytes are. -/
theorem map_byte_inj : ∀ (xs ys : List Int), (∀ c ∈ xs, 0 ≤ c ∧ c ≤ 255) → (∀ c ∈ ys, 0 ≤ c ∧ c ≤ 255) → (xs.map (fun n => UInt8.ofNat n.toNat) = ys.map (fun n => UInt8.ofNat n.toNat)) → xs = ys
  | [], [], _, _, _ => rfl
  | [], _ :: _, _, _, h => by simp at h
  | _ :: _, [], _, _, h => by simp at h
  | x :: xs, y :: ys, hx, hy, h => by
    simp only [List.map_cons, List.cons.injEq] at h
    have h1 := hx x (by simp)
    have h2 := hy y (by simp)
    have e : x.toNat = y.toNat := by
      have := congrArg UInt8.toNat h.1
      simp only [UInt8.toNat_ofNat'] at this
      omega
    rw [map_byte_inj xs ys (fun c hc => hx c (List.mem_cons_of_mem _ hc)) (fun c hc => hy c (List.mem_cons_of_mem _ hc)) h.2, show x = y by omega]
set_option maxRecDepth 100000 in
theorem str_beq (xs ys : List Int) (hx : ∀ c ∈ xs, 0 ≤ c ∧ c ≤ 255) (hy : ∀ c ∈ ys, 0 ≤ c ∧ c ≤ 255) : ((strOfNums xs).toList == (strOfNums ys).toList) = decide (xs = ys) := by
  rw [ByteArray.toList_eq, ByteArray.toList_eq, strOfNums_data, strOfNums_data, Bool.eq_iff_iff, beq_iff_eq, decide_eq_true_iff]
  exact ⟨map_byte_inj xs ys hx hy, fun h => by rw [h]⟩

set_option maxRecDepth 100000 in
/-- string(b). -/
theorem Row.text {w : World} {a : Option Addr} {zs : List Int} (h : Row w a zs) (n cap : Nat) (hn : zs.length = n) :
    (convert 29 9 (.slice a n cap)).run Tryz.prog w = .ok (.string (strOfNums zs)) w := by
  by_cases hz : zs = []
  · subst hz
    cases a with
    | none => exact run_convert_bytes_nil w 29 5 Tryz.underlying29 Tryz.underlying5 n cap 9 Tryz.underlying9
    | some x =>
      simp at hn; subst hn
      have := run_convert_bytes_string (P := Tryz.prog) w 29 9 5 (some x) 0 cap Tryz.underlying29 Tryz.underlying5 Tryz.underlying9
      rw [this, run_bytesToString w x 0 cap [] (by simpa using run_loadCells_list (P := Tryz.prog) w x [] (by simp))]
      rfl
  · obtain ⟨b, off, rfl, hc⟩ := h.2 hz
    exact run_convert_bytes_arg w 29 5 Tryz.underlying29 Tryz.underlying5 b off n cap zs hn (fun i hi => hc i (by omega)) 9 Tryz.underlying9
end Go.Proofs.YtepohbcpepkboaaGreat

namespace Go.Proofs.YtepohbcpepkboaaGreat
open Go.RowKit

set_option maxRecDepth 100000 in
theorem str_append (xs ys : List Int) : strOfNums xs ++ strOfNums ys = strOfNums (xs ++ ys) := by
  apply ByteArray.ext
  simp [strOfNums]
end Go.Proofs.YtepohbcpepkboaaGreat

namespace Go.Proofs.YtepohbcpepkboaaGreat
open Go.RowKit

set_option maxRecDepth 100000 in
theorem wpList_append_bytes {w : World} {ops : Array Oper} {rest : List Oper} {o : Oper} {a : Act} {Q : Exit → Act → World → Prop} (hgd : o.guard = none) (s x : Operand)
    (ho : o.op = .call { callee := .builtin .append, args := #[s, x], argTypes := #[29, 29] }) (base : Nat) (v : Value) (n : Nat) (xs : List Value) (hs : a.eval s = v) (hown : w.ownsRow base 5 1 v n xs)
    (ao : Option Addr) (zs : List Int) (m cap : Nat) (hx : a.eval x = .slice ao m cap) (hm : zs.length = m) (hrow : Row w ao zs) (hnil : ao = none → zs.length = 0 ∧ cap = 0)
    (hb : n + m ≤ 70368744177664) (hbase : base ≤ w.heap.size)
    (h : ∀ v' w', w'.ownsRow base 5 1 v' (n + m) (xs ++ zs.map (Value.int .u8)) → w.grownBy w' v.ownBlock → wpList Tryz.prog ops Q rest (a.put o.dst v') w') : wpList Tryz.prog ops Q (o :: rest) a w := by
  obtain ⟨i0, hi, hz0, hz1, hz2⟩ := info_parts info8
  cases ao with
  | none =>
    obtain ⟨h1, rfl⟩ := hnil rfl
    have hm0 : m = 0 := by omega
    subst hm0
    have hz : zs = [] := List.eq_nil_of_length_eq_zero h1
    subst hz
    refine wpList_append_own_none hgd s x 29 ho base 5 i0 1 Tryz.underlying29 hi v n xs hs hown hx (h v w ?_ (World.grownBy.refl _ _))
    simpa using hown
  | some ad =>
    exact wpList_append_own w hgd s x 29 ho base 5 i0 (.int .u8 0) 1 1 Tryz.underlying29 hi hz0 hz1 hz2 rfl (by decide) v n xs hs hown ad m cap (zs.map (Value.int .u8)) hx (by simp [hm]) (hrow.news ad rfl) (ints_oneCell _ _)
      (by unfold maxLen; omega) (by omega) hbase (fun v' w' h1 h2 _ => h v' w' h1 h2)

set_option maxRecDepth 100000 in
/-- A row of the call's own stays while no old block is written. -/
theorem own_below {w w' : World} {base n : Nat} {v : Value} {xs : List Value} (h : w.ownsRow base 5 1 v n xs) (hb : Below w.heap.size w w') : w'.ownsRow base 5 1 v n xs :=
  h.kept (row := none) ⟨hb.os, hb.tape, hb.output, hb.size, fun k hk _ => hb.block k hk⟩ (by cases hv : v.ownBlock with | none => exact Or.inl rfl | some k => exact Or.inr (by simp))

set_option maxRecDepth 100000 in
/-- What a row of the call's own is to a reader. -/
theorem own_view {w : World} {base n : Nat} {v : Value} {zs : List Int} (h : w.ownsRow base 5 1 v n (zs.map (Value.int .u8))) (hz : ∀ c ∈ zs, 0 ≤ c ∧ c ≤ 255) :
    ∃ a cap, v = .slice a n cap ∧ zs.length = n ∧ Row w a zs ∧ (a = none → zs.length = 0 ∧ cap = 0) ∧ n ≤ cap ∧ cap ≤ maxLen := by
  have hl : zs.length = n := by have := h.1; simpa using this
  rcases h.2 with ⟨hv, h0⟩ | ⟨g, cap, cur, hv, hg, _, hc, hm, _⟩
  · subst h0
    have : zs = [] := List.eq_nil_of_length_eq_zero hl
    subst this
    exact ⟨none, 0, hv, rfl, Row.nil _ _, fun _ => ⟨rfl, rfl⟩, Nat.le_refl _, by simp [maxLen]⟩
  · subst hv
    exact ⟨some ⟨g, 0, none⟩, cap, rfl, hl, Row.own hz hl h, (fun h => by cases h), hc, hm⟩
set_option maxRecDepth 100000 in
theorem own_view' {w : World} {base n : Nat} {v : Value} {zs : List Int} (h : w.ownsRow base 5 1 v n (zs.map (Value.int .u8))) (hz : ∀ c ∈ zs, 0 ≤ c ∧ c ≤ 255) :
    ∃ a cap, v = .slice a n cap ∧ zs.length = n ∧ Row w a zs ∧ (a = none → zs.length = 0 ∧ cap = 0) ∧ n ≤ cap ∧ cap ≤ maxLen ∧ ∀ x, a = some x → base ≤ x.block := by
  obtain ⟨a, cap, hv, h1, h2, h3, h4, h5⟩ := own_view h hz
  refine ⟨a, cap, hv, h1, h2, h3, h4, h5, fun x hx => ?_⟩
  subst hv
  exact (h.lt x.block (by rw [hx]; rfl)).1
set_option maxRecDepth 100000 in
/-- Behind a call that writes nothing old: all old cells, all old marks. -/
theorem bcell {W w1 : World} (hb : Below W.heap.size W w1) : (∀ b o, b < W.heap.size → w1.cell? ⟨b, o, none⟩ = W.cell? ⟨b, o, none⟩) ∧ (∀ b o, b < W.heap.size → w1.frozen? ⟨b, o, none⟩ = W.frozen? ⟨b, o, none⟩) :=
  ⟨fun b o h => hb.cell (p := ⟨b, o, none⟩) h, fun b o h => hb.frozen (p := ⟨b, o, none⟩) h⟩
set_option maxRecDepth 100000 in
/-- A store into another block leaves it. -/
theorem Row.setCell {w : World} {a : Option Addr} {zs : List Int} (h : Row w a zs) (p : Addr) (u : Value) (hne : ∀ x, a = some x → x.block ≠ p.block) : Row (w.setCell p u) a zs := by
  refine ⟨h.1, fun hz => ?_⟩
  obtain ⟨b, off, rfl, hc⟩ := h.2 hz
  exact ⟨b, off, rfl, fun j hj => (World.cell?_of_block (Below.heap_setCell w p u b (hne _ rfl))).trans (hc j hj)⟩
end Go.Proofs.YtepohbcpepkboaaGreat

namespace Go.Proofs.YtepohbcpepkboaaGreat
open Go.RowKit

/-- A field: its tag, whether it is of bytes, its number, its bytes. -/
structure Fld where
  tag : Int
  isB : Bool
  n : Int
  b : List Int

/-- A field's value, its bytes at address a. -/
def Fld.val (f : Fld) (a : Option Addr) (c : Nat) : Value := .agg #[.int .i64 f.tag, .bool f.isB, .int .u64 f.n, .slice a f.b.length c]
/-- A field that can be: its numbers are of their kinds. -/
def Fld.ok (f : Fld) : Prop := (-9223372036854775808 ≤ f.tag ∧ f.tag ≤ 9223372036854775807) ∧ (0 ≤ f.n ∧ f.n < 18446744073709551616)
/-- Its bytes in a world. -/
def Fld.shown (f : Fld) (w : World) (a : Option Addr) (c : Nat) : Prop := Row w a f.b ∧ (a = none → f.b.length = 0 ∧ c = 0) ∧ f.b.length ≤ c ∧ c ≤ maxLen

/-- Field j of a slice of fields. -/
def FAt (w : World) (b off j : Nat) (f : Fld) : Prop := ∃ a c, w.cell? ⟨b, off + j * 4, none⟩ = some (.int .i64 f.tag) ∧ w.cell? ⟨b, off + j * 4 + 1, none⟩ = some (.bool f.isB) ∧ w.cell? ⟨b, off + j * 4 + 2, none⟩ = some (.int .u64 f.n) ∧
  w.cell? ⟨b, off + j * 4 + 3, none⟩ = some (.slice a f.b.length c) ∧ f.shown w a c
/-- In the world w the cells from address a on hold the fields fs. -/
def FRow (w : World) (a : Option Addr) (fs : List Fld) : Prop :=
  (∀ f ∈ fs, f.ok) ∧ (fs ≠ [] → ∃ b off, a = some ⟨b, off, none⟩ ∧ ∀ j (hj : j < fs.length), FAt w b off j fs[j])
set_option maxRecDepth 100000 in
theorem FRow.nil (w : World) (a : Option Addr) : FRow w a [] := ⟨by simp, fun h => absurd rfl h⟩
set_option maxRecDepth 100000 in
theorem Fld.shown.below {f : Fld} {w w' : World} {a : Option Addr} {c : Nat} (h : f.shown w a c) (hb : Below w.heap.size w w') : f.shown w' a c := ⟨h.1.below hb, h.2⟩
set_option maxRecDepth 100000 in
theorem FAt.below {w w' : World} {b off j : Nat} {f : Fld} (h : FAt w b off j f) (hb : Below w.heap.size w w') : FAt w' b off j f := by
  obtain ⟨a, c, h0, h1, h2, h3, h4⟩ := h
  have hlt : b < w.heap.size := World.block_lt_of_cell? w ⟨b, off + j * 4, none⟩ h0
  exact ⟨a, c, (hb.cell (p := ⟨b, _, none⟩) hlt).trans h0, (hb.cell (p := ⟨b, _, none⟩) hlt).trans h1, (hb.cell (p := ⟨b, _, none⟩) hlt).trans h2, (hb.cell (p := ⟨b, _, none⟩) hlt).trans h3, h4.below hb⟩
set_option maxRecDepth 100000 in
theorem FRow.below {w w' : World} {a : Option Addr} {fs : List Fld} (h : FRow w a fs) (hb : Below w.heap.size w w') : FRow w' a fs := by
  refine ⟨h.1, fun hz => ?_⟩
  obtain ⟨b, off, rfl, hc⟩ := h.2 hz
  exact ⟨b, off, rfl, fun j hj => (hc j hj).below hb⟩
set_option maxRecDepth 100000 in
theorem FRow.drew {w : World} {a : Option Addr} {fs : List Fld} (h : FRow w a fs) : FRow w.drew a fs := h.below (Below.drew (Below.refl _ _))
set_option maxRecDepth 100000 in
theorem FRow.alloc {w : World} {a : Option Addr} {fs : List Fld} (h : FRow w a fs) (o : Obj) : FRow (w.alloc o) a fs := h.below ((Below.refl _ _).alloc (Nat.le_refl _) o)
set_option maxRecDepth 100000 in
theorem FRow.take {w : World} {a : Option Addr} {fs : List Fld} (h : FRow w a fs) (k : Nat) : FRow w a (fs.take k) := by
  refine ⟨fun f hf => h.1 f (List.mem_of_mem_take hf), fun hz => ?_⟩
  have hz' : fs ≠ [] := by intro e; rw [e] at hz; simp at hz
  obtain ⟨b, off, rfl, hc⟩ := h.2 hz'
  refine ⟨b, off, rfl, fun j hj => ?_⟩
  have hj' : j < fs.length ∧ j < k := by simp at hj; omega
  have := hc j hj'.1
  rwa [List.getElem_take]
end Go.Proofs.YtepohbcpepkboaaGreat

