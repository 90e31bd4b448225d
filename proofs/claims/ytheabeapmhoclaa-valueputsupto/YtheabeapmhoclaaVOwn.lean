/- A slice of values that a call makes one by one. No conditions; no function of the program. -/
import Derived.Test.YtheabeapmhoclaaVGoTo
import Derived.Test.YtheabeapmhoclaaVFits
import Derived.Maps.AppendAt
namespace Go.Proofs.Ytheabeapmhoclaa
open Go.RowKit Go.Maps Go.WideMaps

set_option maxRecDepth 100000 in
theorem sortK_of {q : List ByteArray} (h : Rising q) : sortK q = q := rising_ext (sortK_rising q h.nodup) h (sortK_perm q)
set_option maxRecDepth 100000 in
theorem pick_of {q : List ByteArray} {l : List V} (h : Rising q) (hl : q.length = l.length) : pick q l = l := by
  unfold pick
  rw [sortK_of h]
  apply List.ext_getElem (by simpa using hl)
  intro j h3 h4
  rw [List.getElem_map, posK_nodup h.nodup]
  simp [h4]
/-- Values, in a row of the call's own; what they hold lies elsewhere. -/
def VOwn (W : World) (n : Nat) (sv : Value) (l : List V) : Prop :=
  ∃ us : List Value, W.ownsRow n 30 1 sv l.length us ∧ us.length = l.length ∧ ∀ i (hi : i < us.length) (hl : i < l.length), Rep W (fun b => n ≤ b ∧ sv.ownBlock ≠ some b) us[i] l[i]
set_option maxRecDepth 100000 in
theorem VOwn.nil (W : World) (n : Nat) : VOwn W n (.slice none 0 0) [] := ⟨[], World.ownsRow_nil _ _ _ _, rfl, fun i hi _ => by simp at hi⟩
set_option maxRecDepth 100000 in
theorem VOwn.below {W W' : World} {n : Nat} {sv : Value} {l : List V} (h : VOwn W n sv l) (hb : Below W.heap.size W W') : VOwn W' n sv l := by
  obtain ⟨us, h1, h2, h3⟩ := h
  exact ⟨us, cown_below h1 hb, h2, fun i hi hl => (h3 i hi hl).stays hb⟩
set_option maxRecDepth 100000 in
theorem VOwn.snoc {W1 W2 W4 : World} {n : Nat} {sv v' u : Value} {l : List V} {x : V} {us : List Value} (hr : ∀ i (hi : i < us.length) (hl : i < l.length), Rep W1 (fun b => n ≤ b ∧ sv.ownBlock ≠ some b) us[i] l[i]) (hlen : us.length = l.length) (ho : W1.ownsRow n 30 1 sv l.length us)
    (hb : Below W1.heap.size W1 W2) (hu : Rep W2 (fun b => W1.heap.size ≤ b) u x) (hn : n ≤ W1.heap.size)
    (h4 : W4.ownsRow n 30 1 v' (l.length + 1) (us ++ [u])) (hg : (W2.alloc (.cells #[u] 30)).grownBy W4 sv.ownBlock) (ha : v'.ownBlock = sv.ownBlock ∨ v'.ownBlock = some (W2.alloc (.cells #[u] 30)).heap.size) : VOwn W4 n v' (l ++ [x]) := by
  have hb3 : Below W1.heap.size W1 (W2.alloc (.cells #[u] 30)) := hb.alloc hb.size _
  have hs := hb3.size
  refine ⟨us ++ [u], by rw [List.length_append]; exact h4, by simp [hlen], fun i hi hl => ?_⟩
  by_cases hlt : i < us.length
  · have h1 := (hr i hlt (by omega)).low
    have h2 := h1.stays hb3
    have h3 : Rep W4 (fun b => (n ≤ b ∧ sv.ownBlock ≠ some b) ∧ b < W1.heap.size) us[i] l[i] := h2.agree (fun b hb' _ => hg.block b (by omega) (fun e => hb'.1.2 e.symm))
    have h5 := h3.mono (ok' := fun b => n ≤ b ∧ v'.ownBlock ≠ some b) (fun b hb' _ => ⟨hb'.1.1, fun e => by
      rcases ha with ha | ha
      · exact hb'.1.2 (ha ▸ e)
      · rw [ha] at e; injection e with e; omega⟩)
    rw [List.getElem_append_left hlt, List.getElem_append_left (by omega)]
    exact h5
  · obtain rfl : i = us.length := by simp at hi; omega
    have h2 := hu.low.stays ((Below.refl _ W2).alloc (Nat.le_refl _) (.cells #[u] 30))
    have h3 : Rep W4 (fun b => W1.heap.size ≤ b ∧ b < W2.heap.size) u x := h2.agree (fun b hb' _ => hg.block b (by simp; omega) (fun e => by have := (ho.lt b e.symm).2; omega))
    have h5 := h3.mono (ok' := fun b => n ≤ b ∧ v'.ownBlock ≠ some b) (fun b hb' _ => ⟨by omega, fun e => by
      rcases ha with ha | ha
      · rw [ha] at e; have := (ho.lt b e).2; omega
      · rw [ha] at e; injection e with e; simp at e; omega⟩)
    rw [List.getElem_append_right (Nat.le_refl _), List.getElem_append_right (by omega)]
    simpa [hlen] using h5
set_option maxRecDepth 100000 in
theorem VOwn.row {W : World} {n : Nat} {sv : Value} {l : List V} (h : VOwn W n sv l) : ∃ a c, sv = .slice a l.length c ∧ RRow W (fun b => n ≤ b) a l ∧ SliceOk a l.length c := by
  obtain ⟨us, h1, h2, h3⟩ := h
  obtain ⟨a, c, rfl, hc, hk, -⟩ := own_crow h1 (ok := fun b => n ≤ b) (fun b hb => hb)
  refine ⟨a, c, rfl, ⟨fun i => us[i]?.getD undef, fun hn => ?_, fun i hi => ?_⟩, hk⟩
  · obtain ⟨b, off, e, hb, hcc⟩ := hc (by intro e; rw [e] at h2; simp at h2; omega)
    refine ⟨b, off, e, hb, fun j hj => hcc j _ ?_⟩
    have hj' : j < us.length := by omega
    simp [hj']
  · have hi' : i < us.length := by omega
    have := (h3 i hi' hi).mono (ok' := fun b => n ≤ b) (fun b hb _ => hb.1)
    simpa [hi'] using this
end Go.Proofs.Ytheabeapmhoclaa
