/- What an interface's equality tells of two values; what a value holds tells the value. No conditions; no function of the program. -/
import Derived.Test.YtheabeapmhoclaaVSameP
namespace Go.Proofs.Ytheabeapmhoclaa
open Go.RowKit Go.Maps

set_option maxRecDepth 100000 in
theorem ptr_info {E X : TypeId} (h : (Try.prog.info? E).map (fun i => i.comparable) = some true) (h2 : ((Try.prog.info? X).map (fun i => decide (i.size ≠ 0))) = some true) : (∃ i, Try.prog.info? E = some i ∧ i.comparable = true) ∧ ∃ j, Try.prog.info? X = some j ∧ j.size ≠ 0 := by
  obtain ⟨i, hi, hz⟩ := Option.map_eq_some_iff.1 h
  obtain ⟨j, hj, hy⟩ := Option.map_eq_some_iff.1 h2
  exact ⟨⟨i, hi, hz⟩, j, hj, of_decide_eq_true hy⟩
set_option maxRecDepth 100000 in
theorem PlainB.below {w W : World} {B : Nat} (h : PlainB w B) (hb : Below w.heap.size w W) : PlainB W B := by
  obtain ⟨cs, T, e⟩ := h
  exact ⟨cs, T, (hb.block B (Array.getElem?_eq_some_iff.1 e).1).trans e⟩
set_option maxRecDepth 100000 in
theorem eql_ptr {E X : TypeId} (hu : Try.prog.underlying E = some (.pointer X)) (h : (Try.prog.info? E).map (fun i => i.comparable) = some true) (h2 : ((Try.prog.info? X).map (fun i => decide (i.size ≠ 0))) = some true) {w W : World} {B C : Nat} (hB : PlainB w B) (hC : PlainB w C) (hb : Below w.heap.size w W) :
    (binOp .eql 20 (.iface E (.pointer (some ⟨B, 0, none⟩))) (.iface E (.pointer (some ⟨C, 0, none⟩)))).run Try.prog W = .ok (.bool (decide (B = C))) W := by
  obtain ⟨⟨i, hi, hc⟩, j, hj, hs⟩ := ptr_info h h2
  by_cases e : B = C
  · subst e
    rw [run_eql_iface_ptr_same W _ Try.underlying20 hu hi hc hj]; simp
  · obtain ⟨cb, tb, eb⟩ := hB.below hb
    obtain ⟨cc, tc, ec⟩ := hC.below hb
    rw [run_eql_iface_ptr_other W Try.underlying20 hu hi hc hj hs (a := ⟨B, 0, none⟩) (b := ⟨C, 0, none⟩) (fun e2 => e (by injection e2)) eb ec]
    simp [e]
/-- What the equality of what two values hold tells. -/
def EqTold (w : World) (h g : Value) (v u : V) : Prop := ∃ r : Bool, (∀ W, Below w.heap.size w W → (binOp .eql 20 h g).run Try.prog W = .ok (.bool r) W) ∧ (r = true → h = g) ∧ (r = false → v = u → 6 ≤ v.k)
set_option maxRecDepth 100000 in
theorem EqTold.diff {w : World} {t s : TypeId} {x y : Value} {v u : V} (h : t ≠ s) (hk : v.k ≠ u.k) : EqTold w (.iface t x) (.iface s y) v u := ⟨false, fun W _ => eql_diff W t s x y h, (fun e => by cases e), fun _ e => absurd (by rw [e]) hk⟩
set_option maxRecDepth 100000 in
set_option maxHeartbeats 3200000 in
theorem leaf_eq {w : World} {h g : Value} {v u : V} (hr : Leaf h v) (hs : Leaf g u) : EqTold w h g v u := by
  rcases hr with ⟨rfl, rfl⟩ | ⟨rfl, rfl⟩ | ⟨b, rfl, rfl⟩ | ⟨n, rfl, rfl⟩ | ⟨n, m, hn, hm, rfl, rfl⟩ | ⟨s, rfl, rfl⟩ <;>
  rcases hs with ⟨rfl, rfl⟩ | ⟨rfl, rfl⟩ | ⟨b', rfl, rfl⟩ | ⟨n', rfl, rfl⟩ | ⟨n', m', hn', hm', rfl, rfl⟩ | ⟨s', rfl, rfl⟩
  all_goals first
    | exact EqTold.diff (by decide) (by simp)
    | exact ⟨true, fun W _ => eql_any_nil W, fun _ => rfl, fun e => by cases e⟩
    | exact ⟨false, fun W _ => eql_nil_any W _ _, (fun e => by cases e), fun _ e => by simp [V.null] at e⟩
    | exact ⟨false, fun W _ => eql_some_nil W _ _, (fun e => by cases e), fun _ e => by simp [V.null] at e⟩
    | exact ⟨true, fun W _ => eql_later W, fun _ => rfl, fun e => by cases e⟩
    | exact ⟨_, fun W _ => eql_bool W _ _, (fun e => by simp at e; rw [e]), fun e e2 => by simp at e e2; exact absurd e2 e⟩
    | exact ⟨_, fun W _ => eql_int W _ _, (fun e => by simp at e; rw [e]), fun e e2 => by simp at e e2; exact absurd e2 e⟩
    | exact ⟨_, fun W _ => eql_text W _ _, (fun e => by rw [(MapKept.bytes_beq _ _).1 e]), fun e e2 => by simp at e2; rw [(MapKept.bytes_beq _ _).2 e2] at e; cases e⟩
    | (refine ⟨_, fun W _ => eql_point W _ _ _ _, ?_, ?_⟩ <;> rw [float_eq _ _ hn hn', float_eq _ _ hm hm']
       · intro e; simp at e; rw [e.1, e.2]
       · intro e e2; simp at e e2; exact absurd e2.2 (e e2.1))
set_option maxRecDepth 100000 in
set_option maxHeartbeats 3200000 in
theorem held_eq {w : World} {h g : Value} {v u : V} (hr : Rep w (fun _ => True) h v) (hs : Rep w (fun _ => True) g u) : EqTold w h g v u := by
  rcases hr.held with hr | ⟨B, l, H, a, c, G, -, rfl, rfl⟩ | ⟨B, l, q, H, a, c, ka, kc, G, -, -, -, -, -, rfl, rfl⟩ <;>
  rcases hs.held with hs | ⟨B', l', H', a', c', G', -, rfl, rfl⟩ | ⟨B', l', q', H', a', c', ka', kc', G', -, -, -, -, -, rfl, rfl⟩
  · exact leaf_eq hr hs
  all_goals first
    | exact EqTold.diff (by decide) (by simp)
    | exact ⟨_, fun W hb => eql_ptr (X := 95) Try.underlying91 (by kernel_rfl) (by kernel_rfl) G.plain G'.plain hb, (fun e => by simp at e; rw [e]), fun _ _ => by simp⟩
    | exact ⟨_, fun W hb => eql_ptr (X := 117) Try.underlying114 (by kernel_rfl) (by kernel_rfl) G.plain G'.plain hb, (fun e => by simp at e; rw [e]), fun _ _ => by simp⟩
    | (rcases hr with ⟨rfl, rfl⟩ | ⟨rfl, rfl⟩ | ⟨b, rfl, rfl⟩ | ⟨n, rfl, rfl⟩ | ⟨n, m, hn, hm, rfl, rfl⟩ | ⟨s, rfl, rfl⟩ <;> first
        | exact EqTold.diff (by decide) (by simp)
        | exact ⟨false, fun W _ => eql_nil_any W _ _, (fun e => by cases e), fun _ e => by simp [V.null] at e⟩)
    | (rcases hs with ⟨rfl, rfl⟩ | ⟨rfl, rfl⟩ | ⟨b, rfl, rfl⟩ | ⟨n, rfl, rfl⟩ | ⟨n, m, hn, hm, rfl, rfl⟩ | ⟨s, rfl, rfl⟩ <;> first
        | exact EqTold.diff (by decide) (by simp)
        | exact ⟨false, fun W _ => eql_some_nil W _ _, (fun e => by cases e), fun _ e => by simp [V.null] at e⟩)
end Go.Proofs.Ytheabeapmhoclaa
