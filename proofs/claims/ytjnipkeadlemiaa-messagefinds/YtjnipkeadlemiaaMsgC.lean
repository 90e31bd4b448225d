/- What appendField makes: a row with a field's bytes behind. Conditions: the row is the caller's own; the field's tag is from 1 to 1000, its bytes lie below that row. -/
import Derived.Test.YtjnipkeadlemiaaFld
import Derived.Test.YtjnipkeadlemiaaVarC
import Derived.Deep.DeepMust
namespace Go.Proofs.Ytjnipkeadlemiaa
open Go.RowKit

/-- A field's bytes. -/
def lay (f : Fld) : List Int := if f.isB then enc (f.tag * 2 + 1) ++ enc f.b.length ++ f.b else enc (f.tag * 2) ++ enc f.n

set_option maxRecDepth 100000 in
/-- A block of another type is no row of bytes: an append leaves it. -/
theorem box_grown {w w' : World} {B base n : Nat} {cs : Array Value} {T : TypeId} {mk : Nat × Nat} {v : Value} {xs : List Value} (h : w.heap[B]? = some (.cells cs T mk)) (hT : T ≠ 5)
    (hown : w.ownsRow base 5 1 v n xs) (hg : w.grownBy w' v.ownBlock) : w'.heap[B]? = some (.cells cs T mk) := by
  have hlt : B < w.heap.size := (Array.getElem?_eq_some_iff.1 h).1
  rw [hg.block B hlt ?_, h]
  intro e
  rcases hown.2 with ⟨hv, _⟩ | ⟨g, cap, cur, hv, _, hh, _⟩
  · rw [hv] at e; simp [Value.ownBlock] at e
  · rw [hv] at e
    simp only [Value.ownBlock, Option.some.injEq] at e
    rw [← e, h] at hh
    simp at hh
    exact hT hh.2.1
set_option maxRecDepth 100000 in
theorem box_below {w w' : World} {B : Nat} {o : Obj} (h : w.heap[B]? = some o) (hb : Below w.heap.size w w') : w'.heap[B]? = some o :=
  (hb.block B (Array.getElem?_eq_some_iff.1 h).1).trans h
set_option maxRecDepth 100000 in
theorem box_cell {w : World} {B : Nat} {cs : Array Value} {T : TypeId} {mk : Nat × Nat} (h : w.heap[B]? = some (.cells cs T mk)) (j : Nat) : w.cell? ⟨B, j, none⟩ = cs[j]? := cell_of_row w B j cs T mk h
set_option maxRecDepth 100000 in
/-- A row below B stays while nothing below B is written. -/
theorem Row.belowB {w w' : World} {B : Nat} {a : Option Addr} {zs : List Int} (h : Row w a zs) (hlt : zs ≠ [] → ∀ x, a = some x → x.block < B) (hb : Below B w w') : Row w' a zs := by
  refine ⟨h.1, fun hz => ?_⟩
  obtain ⟨b, off, rfl, hc⟩ := h.2 hz
  exact ⟨b, off, rfl, fun j hj => (hb.cell (p := ⟨b, off + j, none⟩) (hlt hz ⟨b, off, none⟩ rfl)).trans (hc j hj)⟩

set_option maxHeartbeats 3200000 in
set_option maxRecDepth 100000 in
theorem appendField_any (base : Nat) (v : Value) (n : Nat) (xs : List Int) (f : Fld) (fa : Option Addr) (fc : Nat) (w : World) (hown : w.ownsRow base 5 1 v n (xs.map (Value.int .u8))) (hbase : base ≤ w.heap.size)
    (hok : f.ok) (ht : 1 ≤ f.tag ∧ f.tag ≤ 1000) (hsh : f.shown w fa fc) (hlt : f.b ≠ [] → ∀ x, fa = some x → x.block < base) (hlen : n + f.b.length ≤ 35184372088832) :
    Calls Try.prog 84 #[v, f.val fa fc] w fun e w' => ∃ v', e = .returned v' ∧ w'.ownsRow base 5 1 v' (n + (lay f).length) ((xs ++ lay f).map (Value.int .u8)) ∧ Below base w w' := by
  obtain ⟨tag, isB, m, b⟩ := f
  obtain ⟨⟨ht0, ht1⟩, hm0, hm1⟩ := hok
  obtain ⟨hr, hnil, hbc, hmax⟩ := hsh
  simp only at ht0 ht1 hm0 hm1 hr hnil hbc hlt hlen ht
  unfold Fld.val
  cases isB
  · have hl1 := enc_len (tag * 2)
    have hl2 := enc_len m
    have hbox : (w.alloc (.cells #[.int .i64 tag, .bool false, .int .u64 m, .slice fa b.length fc] 35)).heap[w.heap.size]? = some (.cells #[.int .i64 tag, .bool false, .int .u64 m, .slice fa b.length fc] 35 (0, 0)) := heap_alloc_new w _
    go_enter Try.func84, Try.ntmps84
    go_wp2_with fail
    refine (append_nil (tag * 2) _ (by omega) (by omega)).mono ?_
    rintro e w2 ⟨rfl, hr2, hb2⟩
    have hr2' : Row w2 (some ⟨w.heap.size + 1, 0, none⟩) (enc (tag * 2)) := by simpa using hr2
    have hown2 := own_below (hown.alloc _) hb2
    have hbox2 := box_below hbox hb2
    have hs2 : base ≤ w2.heap.size := by have := hb2.size; simp at this; omega
    have hB2 : Below base w w2 := ((Below.refl _ _).alloc hbase _).trans (hb2.mono (by simp; omega))
    go_wp2_with (at_builtin; go_must (refine wpList_append_bytes rfl (.tmp 13) (.tmp 15) rfl base v n (xs.map (Value.int .u8)) rfl hown2 _ (enc (tag * 2)) (enc (tag * 2)).length _ rfl rfl hr2' (by intro h; cases h) (by omega) hs2 ?_; intro v3 w3 hown3 hgrow3; have hbox3 := box_grown hbox2 (by decide) hown2 hgrow3; have hc3 := box_cell hbox3 2))
    have hs3 : base ≤ w3.heap.size := Nat.le_trans hs2 hgrow3.size
    have hB3 := below_own hB2 hown2 hs2 hgrow3
    clear hown2 hbox2 hbox hr2 hr2' hb2 hgrow3
    refine (append_nil m _ hm0 hm1).mono ?_
    rintro e w4 ⟨rfl, hr4, hb4⟩
    have hown4 := own_below hown3 hb4
    have hs4 : base ≤ w4.heap.size := Nat.le_trans hs3 hb4.size
    have hB4 := hB3.trans (hb4.mono hs3)
    clear hown3 hb4 hbox3 hc3 hB3 hB2
    go_wp2_with (at_builtin; go_must (refine wpList_append_bytes rfl (.tmp 17) (.tmp 20) rfl base v3 (n + (enc (tag * 2)).length) (xs.map (Value.int .u8) ++ (enc (tag * 2)).map (Value.int .u8)) rfl hown4 _ (enc m) (enc m).length _ rfl rfl hr4 (by intro h; cases h) (by omega) hs4 ?_; intro v5 w5 hown5 hgrow5))
    have hB5 := below_own hB4 hown4 hs4 hgrow5
    go_ret
    refine ⟨v5, rfl, ?_, hB5⟩
    simpa [lay, Nat.add_assoc] using hown5
  · have hl1 := enc_len (tag * 2 + 1)
    have hl2 := enc_len (b.length : Int)
    have hbox : (w.alloc (.cells #[.int .i64 tag, .bool true, .int .u64 m, .slice fa b.length fc] 35)).heap[w.heap.size]? = some (.cells #[.int .i64 tag, .bool true, .int .u64 m, .slice fa b.length fc] 35 (0, 0)) := heap_alloc_new w _
    go_enter Try.func84, Try.ntmps84
    go_wp2_with fail
    refine (append_nil (tag * 2 + 1) _ (by omega) (by omega)).mono ?_
    rintro e w2 ⟨rfl, hr2, hb2⟩
    have hr2' : Row w2 (some ⟨w.heap.size + 1, 0, none⟩) (enc (tag * 2 + 1)) := by simpa using hr2
    have hown2 := own_below (hown.alloc _) hb2
    have hbox2 := box_below hbox hb2
    have hs2 : base ≤ w2.heap.size := by have := hb2.size; simp at this; omega
    have hB2 : Below base w w2 := ((Below.refl _ _).alloc hbase _).trans (hb2.mono (by simp; omega))
    go_wp2_with (at_builtin; go_must (refine wpList_append_bytes rfl (.tmp 22) (.tmp 25) rfl base v n (xs.map (Value.int .u8)) rfl hown2 _ (enc (tag * 2 + 1)) (enc (tag * 2 + 1)).length _ rfl rfl hr2' (by intro h; cases h) (by omega) hs2 ?_; intro v3 w3 hown3 hgrow3; have hbox3 := box_grown hbox2 (by decide) hown2 hgrow3; have hc3 := box_cell hbox3 3))
    have hs3 : base ≤ w3.heap.size := Nat.le_trans hs2 hgrow3.size
    have hB3 := below_own hB2 hown2 hs2 hgrow3
    clear hown2 hbox2 hbox hr2 hr2' hb2 hgrow3
    refine (append_nil (b.length : Int) _ (by omega) (by omega)).mono ?_
    rintro e w4 ⟨rfl, hr4, hb4⟩
    have hown4 := own_below hown3 hb4
    have hbox4 := box_below hbox3 hb4
    have hs4 : base ≤ w4.heap.size := Nat.le_trans hs3 hb4.size
    have hB4 := hB3.trans (hb4.mono hs3)
    clear hown3 hb4 hbox3 hc3 hB3 hB2
    go_wp2_with (first
      | (at_builtin; (refine wpList_append_bytes rfl (.tmp 27) (.tmp 32) rfl base v3 (n + (enc (tag * 2 + 1)).length) (xs.map (Value.int .u8) ++ (enc (tag * 2 + 1)).map (Value.int .u8)) rfl hown4 _ (enc (b.length : Int)) (enc (b.length : Int)).length _ rfl rfl hr4 (by intro h; cases h) (by omega) hs4 ?_; intro v5 w5 hown5 hgrow5; have hbox5 := box_grown hbox4 (by decide) hown4 hgrow5; have hc5 := box_cell hbox5 3; have hB5 := below_own hB4 hown4 hs4 hgrow5; have hs5 : base ≤ w5.heap.size := Nat.le_trans hs4 hgrow5.size))
      | (at_builtin; go_must (refine wpList_append_bytes rfl (.tmp 34) (.tmp 36) rfl base v5 (n + (enc (tag * 2 + 1)).length + (enc (b.length : Int)).length) (xs.map (Value.int .u8) ++ (enc (tag * 2 + 1)).map (Value.int .u8) ++ (enc (b.length : Int)).map (Value.int .u8)) rfl hown5 fa b b.length fc rfl rfl (hr.belowB hlt hB5) hnil (by omega) hs5 ?_; intro v6 w6 hown6 hgrow6)))
    have hB6 := below_own hB5 hown5 hs5 hgrow6
    go_ret
    refine ⟨v6, rfl, ?_, hB6⟩
    simpa [lay, Nat.add_assoc] using hown6
end Go.Proofs.Ytjnipkeadlemiaa
