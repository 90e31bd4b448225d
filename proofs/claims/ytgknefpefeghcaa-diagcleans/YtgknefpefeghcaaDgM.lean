/- Notes as keys of a map, as a row of the call's own; slices.Contains of notes. Conditions: no text is longer than the machine's memory. -/
import Derived.Test.YtgknefpefeghcaaDgC
import Derived.Maps.OwnSet
import Derived.Maps.Views
import Derived.DeepKeys4
import Derived.StringKeys
import Derived.BigQuiet
namespace Go.Proofs.Ytgknefpefeghcaa
open Go.RowKit Go.Maps Go.ChangeMaps Go.WideShapes Go.WideMaps

/-- A note's key. -/
def keyNt (x : Bool × ByteArray) : Lit := .string (keyBytes [.bool x.1, .string x.2.data.toList])
set_option maxRecDepth 100000 in
theorem note_cb : Try.prog.cellsOf 4 = 1 := by kernel_rfl
set_option maxRecDepth 100000 in
theorem note_cs : Try.prog.cellsOf 9 = 1 := by kernel_rfl
set_option maxRecDepth 100000 in
theorem note_kt : Try.prog.keyType 31 = true := by kernel_rfl
set_option maxRecDepth 100000 in
theorem note_wide : (match Try.prog.underlying 31 with | some (.array _ _) | some (.struct _) => true | _ => false) = true := by rw [Try.underlying31]
set_option maxRecDepth 100000 in
theorem note_row : (31 : TypeId) < Try.prog.types.size := of_decide_eq_true (by kernel_rfl)
set_option maxRecDepth 100000 in
theorem keyedN : Keyed Try.prog 31 := Keyed.of_law (deep_law_laid edge_laid (m := 2) (by omega) note_row (by kernel_rfl) note_wide)
set_option maxRecDepth 100000 in
theorem key_note {x : Bool × ByteArray} (hx : x.2.size ≤ maxLen) : keyOf Try.prog 31 (.agg #[.bool x.1, .string x.2]) = some (keyNt x) := by
  have k0 := cellsNt
  have k1 := note_cb
  have k2 := note_cs
  have hkt := note_kt
  obtain ⟨m, hm⟩ : ∃ m, Try.prog.types.size = m + 1 := Nat.exists_eq_succ_of_ne_zero (fun e => by have := note_row; rw [e] at this; exact absurd this (by decide))
  unfold keyOf
  simp only [Try.underlying31]
  rw [if_pos (by simp [hkt, Value.formed, Try.underlying31, k0]), hm]
  unfold Program.keyLits
  simp only [Try.underlying31, Value.cells]
  cases m with
  | zero => have := note_row; rw [hm] at this; exact absurd this (by decide)
  | succ m => simp [k0, k1, k2, Program.keyLits, Try.underlying4, Try.underlying9, keyNt, Lit.wf, hx]
set_option maxRecDepth 100000 in
theorem keyNt_inj {x y : Bool × ByteArray} (hx : x.2.size ≤ maxLen) (hy : y.2.size ≤ maxLen) (h : keyNt x = keyNt y) : x = y := by
  have h1 := keyedN.inj (key_note hx) ((key_note hy).trans (by rw [h]))
  simp at h1
  exact Prod.ext h1.1 h1.2
/-- Cells of a row of notes. -/
def flatQ : List (Bool × ByteArray) → List Value
  | [] => []
  | x :: r => .bool x.1 :: .string x.2 :: flatQ r
set_option maxRecDepth 100000 in
theorem flatQ_app (l r : List (Bool × ByteArray)) : flatQ (l ++ r) = flatQ l ++ flatQ r := by
  induction l with
  | nil => rfl
  | cons y t ih => simp only [List.cons_append, flatQ, ih]
set_option maxRecDepth 100000 in
theorem flatQ_len (l : List (Bool × ByteArray)) : (flatQ l).length = l.length * 2 := by
  induction l with
  | nil => rfl
  | cons y r ih => simp only [flatQ, List.length_cons, ih]; omega
set_option maxRecDepth 100000 in
theorem flatQ_get : ∀ (l : List (Bool × ByteArray)) (j : Nat) (hj : j < l.length), (flatQ l)[j * 2]? = some (.bool l[j].1) ∧ (flatQ l)[j * 2 + 1]? = some (.string l[j].2)
  | x :: r, 0, _ => ⟨rfl, rfl⟩
  | x :: r, j + 1, hj => by
    have := flatQ_get r j (by simpa using hj)
    rw [show (j + 1) * 2 = j * 2 + 2 by omega]
    exact this
set_option maxRecDepth 100000 in
theorem infoQ : (Try.prog.info? 31).map (fun i => (i.zero, i.size, i.bytes)) = some (some (.agg #[.bool false, .string ByteArray.empty]), 2, 24) := by kernel_rfl
set_option maxRecDepth 100000 in
theorem append_note {W : World} {base : Nat} {sv : Value} {l : List (Bool × ByteArray)} (h : W.ownsRow base 31 2 sv l.length (flatQ l)) {X : Nat} {q : Bool × ByteArray} (hX : W.heap[X]? = some (.cells #[.bool q.1, .string q.2] 31)) (hb : base ≤ W.heap.size) (hl : l.length ≤ 100000) (ty : TypeId) :
    ∃ v' W', (Builtin.append_ #[28, 28] ty #[sv, .slice (some ⟨X, 0, none⟩) 1 1]).run Try.prog W = .ok v' W' ∧ W'.ownsRow base 31 2 v' (l ++ [q]).length (flatQ (l ++ [q])) ∧ W.grownBy W' sv.ownBlock := by
  obtain ⟨i0, hi, hz0, hz1, hz2⟩ := info_parts infoQ
  obtain ⟨v', w', h2, h3, h4, -⟩ := run_append_any W base 28 ty 31 i0 _ 2 24 Try.underlying28 hi hz0 hz1 hz2 rfl (by omega) sv l.length _ h (some ⟨X, 0, none⟩) 1 1 [.bool q.1, .string q.2] rfl (fun e => by cases e)
    (fun ad had j u hu => by
      cases had
      match j, hu with
      | 0, hu => simp at hu; subst hu; rw [Addr.add_lit]; exact cell_of_row _ _ _ _ _ _ hX
      | 1, hu => simp at hu; subst hu; rw [Addr.add_lit]; exact cell_of_row _ _ _ _ _ _ hX
      | j + 2, hu => simp at hu)
    (fun u hu => by simp at hu; rcases hu with rfl | rfl <;> rfl) (by unfold maxLen; omega) (by omega) hb
  refine ⟨v', w', h2, ?_, h4⟩
  rw [List.length_append, flatQ_app]
  exact h3
set_option maxRecDepth 100000 in
/-- A row of notes of the call's own, as a slice that came in shows it. -/
theorem row_notes {W : World} {base : Nat} {a : Option Addr} {n cap : Nat} {l : List (Bool × ByteArray)} (h : W.ownsRow base 31 2 (.slice a n cap) l.length (flatQ l)) (hn : n = l.length) : NotesIn W a cap l := by
  subst hn
  rcases h.2 with ⟨hv, h0⟩ | ⟨g, cap', cur, hv, hg, hb, h1, h2, h3, h4⟩
  · injection hv with e1 e2 e3
    subst e1 e3
    exact ⟨fun _ => ⟨by omega, rfl⟩, by omega, fun hne => absurd (List.eq_nil_of_length_eq_zero (by omega)) hne⟩
  · injection hv with e1 e2 e3
    subst e1 e3
    refine ⟨(fun e => by cases e), h1, fun hne => ⟨g, 0, rfl, fun j hj => ?_⟩⟩
    have hlen := flatQ_len l
    have hlen2 : (flatQ l).length = l.length * 2 := hlen
    have c0 := h.cellAt (j * 2) (show j * 2 < l.length * 2 by omega)
    have c1 := h.cellAt (j * 2 + 1) (show j * 2 + 1 < l.length * 2 by omega)
    obtain ⟨y0, y1⟩ := flatQ_get l j hj
    rw [Nat.zero_add]
    exact ⟨c0.trans y0, c1.trans y1⟩
end Go.Proofs.Ytgknefpefeghcaa
