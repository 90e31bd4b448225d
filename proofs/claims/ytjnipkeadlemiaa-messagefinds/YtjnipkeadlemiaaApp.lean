/- append of bytes to a row of the call's own, whatever the bytes' slice is: nil, empty or not. Condition: fewer than 2^46 bytes. -/
import Derived.Test.YtjnipkeadlemiaaRow
import Derived.Laws.AppendOwnNone
namespace Go.Proofs.Ytjnipkeadlemiaa
open Go.RowKit

set_option maxRecDepth 100000 in
theorem wpList_append_bytes {w : World} {ops : Array Oper} {rest : List Oper} {o : Oper} {a : Act} {Q : Exit → Act → World → Prop} (hgd : o.guard = none) (s x : Operand)
    (ho : o.op = .call { callee := .builtin .append, args := #[s, x], argTypes := #[29, 29] }) (base : Nat) (v : Value) (n : Nat) (xs : List Value) (hs : a.eval s = v) (hown : w.ownsRow base 5 1 v n xs)
    (ao : Option Addr) (zs : List Int) (m cap : Nat) (hx : a.eval x = .slice ao m cap) (hm : zs.length = m) (hrow : Row w ao zs) (hnil : ao = none → zs.length = 0 ∧ cap = 0)
    (hb : n + m ≤ 70368744177664) (hbase : base ≤ w.heap.size)
    (h : ∀ v' w', w'.ownsRow base 5 1 v' (n + m) (xs ++ zs.map (Value.int .u8)) → w.grownBy w' v.ownBlock → wpList Try.prog ops Q rest (a.put o.dst v') w') : wpList Try.prog ops Q (o :: rest) a w := by
  obtain ⟨i0, hi, hz0, hz1, hz2⟩ := info_parts info8
  cases ao with
  | none =>
    obtain ⟨h1, rfl⟩ := hnil rfl
    have hm0 : m = 0 := by omega
    subst hm0
    have hz : zs = [] := List.eq_nil_of_length_eq_zero h1
    subst hz
    refine wpList_append_own_none hgd s x 29 ho base 5 i0 1 Try.underlying29 hi v n xs hs hown hx (h v w ?_ (World.grownBy.refl _ _))
    simpa using hown
  | some ad =>
    exact wpList_append_own w hgd s x 29 ho base 5 i0 (.int .u8 0) 1 1 Try.underlying29 hi hz0 hz1 hz2 rfl (by decide) v n xs hs hown ad m cap (zs.map (Value.int .u8)) hx (by simp [hm]) (hrow.news ad rfl) (ints_oneCell _ _)
      (by unfold maxLen; omega) (by omega) hbase (fun v' w' h1 h2 _ => h v' w' h1 h2)

set_option maxRecDepth 100000 in
/-- A row of the call's own stays while no old block is written. -/
theorem own_below {w w' : World} {base n : Nat} {v : Value} {xs : List Value} (h : w.ownsRow base 5 1 v n xs) (hb : Below w.heap.size w w') : w'.ownsRow base 5 1 v n xs :=
  h.kept (row := none) ⟨hb.os, hb.tape, hb.output, hb.size, fun k hk _ => hb.block k hk⟩ (by cases hv : v.ownBlock with | none => exact Or.inl rfl | some k => exact Or.inr (by simp))

set_option maxRecDepth 100000 in
/-- What a row of the call's own is to a reader. -/
theorem own_view {w : World} {base n : Nat} {v : Value} {zs : List Int} (h : w.ownsRow base 5 1 v n (zs.map (Value.int .u8))) (hz : ∀ c ∈ zs, 0 ≤ c ∧ c ≤ 255) :
    ∃ a cap, v = .slice a n cap ∧ zs.length = n ∧ Row w a zs ∧ (a = none → zs.length = 0 ∧ cap = 0) ∧ n ≤ cap ∧ cap ≤ maxLen := by
  have hl : zs.length = n := by have := h.1; simpa using this
  rcases h.2 with ⟨hv, h0⟩ | ⟨g, cap, cur, hv, hg, _, hc, hm, _⟩
  · subst h0
    have : zs = [] := List.eq_nil_of_length_eq_zero hl
    subst this
    exact ⟨none, 0, hv, rfl, Row.nil _ _, fun _ => ⟨rfl, rfl⟩, Nat.le_refl _, by simp [maxLen]⟩
  · subst hv
    exact ⟨some ⟨g, 0, none⟩, cap, rfl, hl, Row.own hz hl h, (fun h => by cases h), hc, hm⟩
set_option maxRecDepth 100000 in
theorem own_view' {w : World} {base n : Nat} {v : Value} {zs : List Int} (h : w.ownsRow base 5 1 v n (zs.map (Value.int .u8))) (hz : ∀ c ∈ zs, 0 ≤ c ∧ c ≤ 255) :
    ∃ a cap, v = .slice a n cap ∧ zs.length = n ∧ Row w a zs ∧ (a = none → zs.length = 0 ∧ cap = 0) ∧ n ≤ cap ∧ cap ≤ maxLen ∧ ∀ x, a = some x → base ≤ x.block := by
  obtain ⟨a, cap, hv, h1, h2, h3, h4, h5⟩ := own_view h hz
  refine ⟨a, cap, hv, h1, h2, h3, h4, h5, fun x hx => ?_⟩
  subst hv
  exact (h.lt x.block (by rw [hx]; rfl)).1
set_option maxRecDepth 100000 in
/-- Behind a call that writes nothing old: all old cells, all old marks. -/
theorem bcell {W w1 : World} (hb : Below W.heap.size W w1) : (∀ b o, b < W.heap.size → w1.cell? ⟨b, o, none⟩ = W.cell? ⟨b, o, none⟩) ∧ (∀ b o, b < W.heap.size → w1.frozen? ⟨b, o, none⟩ = W.frozen? ⟨b, o, none⟩) :=
  ⟨fun b o h => hb.cell (p := ⟨b, o, none⟩) h, fun b o h => hb.frozen (p := ⟨b, o, none⟩) h⟩
set_option maxRecDepth 100000 in
/-- A store into another block leaves it. -/
theorem Row.setCell {w : World} {a : Option Addr} {zs : List Int} (h : Row w a zs) (p : Addr) (u : Value) (hne : ∀ x, a = some x → x.block ≠ p.block) : Row (w.setCell p u) a zs := by
  refine ⟨h.1, fun hz => ?_⟩
  obtain ⟨b, off, rfl, hc⟩ := h.2 hz
  exact ⟨b, off, rfl, fun j hj => (World.cell?_of_block (Below.heap_setCell w p u b (hne _ rfl))).trans (hc j hj)⟩
end Go.Proofs.Ytjnipkeadlemiaa
