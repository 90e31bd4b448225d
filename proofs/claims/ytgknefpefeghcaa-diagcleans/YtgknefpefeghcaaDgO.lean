/- diag.Clean, in plain mathematics; a set of notes in memory. No conditions. -/
import Derived.Test.YtgknefpefeghcaaDgN
namespace Go.Proofs.Ytgknefpefeghcaa
open Go.RowKit Go.Maps Go.ChangeMaps Go.WideShapes Go.WideMaps

/-- Numbers as a text. -/
def strN (l : List Int) : ByteArray := ⟨(l.map (fun n => UInt8.ofNat n.toNat)).toArray⟩
set_option maxRecDepth 100000 in
theorem strN_bsI (s : ByteArray) : strN (bsI s) = s := by
  apply ByteArray.ext
  apply Array.ext'
  unfold strN bsI
  have e : ((fun n : Int => UInt8.ofNat n.toNat) ∘ fun c : UInt8 => (c.toNat : Int)) = id := by funext c; simp
  simp [e]
/-- A text, clean: what Text answers. -/
def textD (s : List ByteArray) (T : ByteArray) : ByteArray := textB (strN (cleanS (sec s) (bsI T)))
set_option maxRecDepth 100000 in
theorem textD_of {s : List ByteArray} {T c : ByteArray} (h : bsI c = cleanS (sec s) (bsI T)) : textB c = textD s T := by
  unfold textD
  rw [← h, strN_bsI]
set_option maxRecDepth 100000 in
theorem textB_size (c : ByteArray) : (textB c).size ≤ 80 := by
  unfold textB
  by_cases h : 80 < c.size
  · rw [if_pos h, ByteArray.size_append, plainT_size, ByteArray.size_extract]
    show min 77 c.size - 0 + 3 ≤ 80
    omega
  · rw [if_neg h, plainT_size]
    omega
/-- Is a note one of these? -/
def memN (x : Bool × ByteArray) (L : List (Bool × ByteArray)) : Bool := L.any (fun y => sameNt x y)
set_option maxRecDepth 100000 in
theorem memN_iff (x : Bool × ByteArray) (L : List (Bool × ByteArray)) : memN x L = true ↔ x ∈ L := by
  unfold memN
  rw [List.any_eq_true]
  exact ⟨fun ⟨y, h1, h2⟩ => by rw [(sameNt_iff x y).1 h2]; exact h1, fun h => ⟨x, h, (sameNt_iff x x).2 rfl⟩⟩
/-- Clean, note by note. -/
def cleanGo (s : List ByteArray) : List (Bool × ByteArray) → List (Bool × ByteArray) → List (Bool × ByteArray) → List (Bool × ByteArray)
  | [], _, out => out
  | n :: r, seen, out => if memN n seen = true ∨ n.2.size = 0 then cleanGo s r seen out else if out.length = 8 then out else
      cleanGo s r (n :: seen) (if memN (n.1, textD s n.2) out = true then out else out ++ [(n.1, textD s n.2)])
set_option maxRecDepth 100000 in
theorem go_skip {s : List ByteArray} {n : Bool × ByteArray} {r seen out : List (Bool × ByteArray)} (h : memN n seen = true ∨ n.2.size = 0) : cleanGo s (n :: r) seen out = cleanGo s r seen out := by
  rw [cleanGo, if_pos h]
set_option maxRecDepth 100000 in
theorem go_full {s : List ByteArray} {n : Bool × ByteArray} {r seen out : List (Bool × ByteArray)} (h : ¬ (memN n seen = true ∨ n.2.size = 0)) (h8 : out.length = 8) : cleanGo s (n :: r) seen out = out := by
  rw [cleanGo, if_neg h, if_pos h8]
set_option maxRecDepth 100000 in
theorem go_old {s : List ByteArray} {n : Bool × ByteArray} {r seen out : List (Bool × ByteArray)} (h : ¬ (memN n seen = true ∨ n.2.size = 0)) (h8 : ¬ out.length = 8) (hm : memN (n.1, textD s n.2) out = true) : cleanGo s (n :: r) seen out = cleanGo s r (n :: seen) out := by
  rw [cleanGo, if_neg h, if_neg h8, if_pos hm]
set_option maxRecDepth 100000 in
theorem go_new {s : List ByteArray} {n : Bool × ByteArray} {r seen out : List (Bool × ByteArray)} (h : ¬ (memN n seen = true ∨ n.2.size = 0)) (h8 : ¬ out.length = 8) (hm : ¬ memN (n.1, textD s n.2) out = true) : cleanGo s (n :: r) seen out = cleanGo s r (n :: seen) (out ++ [(n.1, textD s n.2)]) := by
  rw [cleanGo, if_neg h, if_neg h8, if_neg hm]
/-- A set of notes in memory. -/
def SetN (W : World) (Mb : Nat) (L : List (Bool × ByteArray)) : Prop := (∀ x ∈ L, x.2.size ≤ maxLen) ∧ ∃ D : DataW Unit, W.ownsMap Try.prog 31 unitElem Mb L.length D ∧ ∀ x : Bool × ByteArray, x.2.size ≤ maxLen → Maps.has D (keyNt x) = memN x L
set_option maxRecDepth 100000 in
theorem SetN.kept {W W' : World} {Mb : Nat} {L : List (Bool × ByteArray)} (h : SetN W Mb L) (hg : W'.heap[Mb]? = W.heap[Mb]?) : SetN W' Mb L := by
  obtain ⟨h0, D, ⟨es, clock, h1, h2⟩, h3⟩ := h
  exact ⟨h0, D, ⟨es, clock, hg.trans h1, h2⟩, h3⟩
set_option maxRecDepth 100000 in
theorem SetN.lt {W : World} {Mb : Nat} {L : List (Bool × ByteArray)} (h : SetN W Mb L) : Mb < W.heap.size := by
  obtain ⟨-, D, h1, -⟩ := h
  exact h1.lt
set_option maxRecDepth 100000 in
theorem zeroU (W : World) : (zeroValue 71).run Try.prog W = .ok (.agg #[]) W := by kernel_rfl
set_option maxRecDepth 100000 in
theorem SetN.look {W : World} {Mb : Nat} {L : List (Bool × ByteArray)} (h : SetN W Mb L) (x : Bool × ByteArray) (hx : x.2.size ≤ maxLen) :
    (Instr.lookup 70 (.map (some Mb)) (.agg #[.bool x.1, .string x.2]) true).run Try.prog W = .ok (.tuple #[.agg #[], .bool (memN x L)]) W := by
  obtain ⟨-, D, h1, h3⟩ := h
  obtain ⟨v, ps, hrun, hv⟩ := h1.look_ok keyedN Try.underlying70 (zeroU W) unitElem_mk (key_note hx)
  obtain ⟨rfl, -⟩ := unitElem_inv hv
  rw [hrun, h3 x hx]
set_option maxRecDepth 100000 in
theorem SetN.store {W : World} {Mb : Nat} {L : List (Bool × ByteArray)} (h : SetN W Mb L) (x : Bool × ByteArray) (hx : x.2.size ≤ maxLen) (hl : L.length ≤ 1000) :
    ∃ w', (Instr.mapUpdate 70 (.map (some Mb)) (.agg #[.bool x.1, .string x.2]) (.agg #[])).run Try.prog W = .ok () w' ∧ SetN w' Mb (x :: L) ∧ W.mapTurned w' Mb := by
  obtain ⟨h0, D, h1, h3⟩ := h
  obtain ⟨w', hrun, hown, ht⟩ := h1.store keyedN Try.underlying70 (by unfold maxLen; omega) (key_note hx) unitElem_mk
  refine ⟨w', hrun, ⟨fun y hy => ?_, _, hown, fun y hy => ?_⟩, ht⟩
  · rcases List.mem_cons.1 hy with rfl | hy
    · exact hx
    · exact h0 y hy
  · by_cases e : y = x
    · subst e
      have hK : WideAt.IsKeyLit (keyNt y) := trivial
      rw [has_put_same h1.isMap hK]
      exact ((memN_iff y (y :: L)).2 List.mem_cons_self).symm
    · rw [has_put_other (fun hk => e (keyNt_inj hy hx hk)), h3 y hy]
      show _ = (sameNt y x || memN y L)
      rw [show sameNt y x = false from Bool.eq_false_iff.2 (fun h => e ((sameNt_iff y x).1 h)), Bool.false_or]
set_option maxRecDepth 100000 in
theorem SetN.made (W : World) : SetN (W.alloc (.map #[] 0)) W.heap.size [] :=
  ⟨(fun x hx => by cases hx), _, World.ownsMap_made W Try.prog 31 _, fun x _ => rfl⟩
set_option maxRecDepth 100000 in
theorem row_slice {W : World} {base : Nat} {v : Value} {l : List (Bool × ByteArray)} (h : W.ownsRow base 31 2 v l.length (flatQ l)) : ∃ a c, v = .slice a l.length c := by
  rcases h.2 with ⟨hv, h0⟩ | ⟨g, cap', cur, hv, -⟩
  · exact ⟨none, 0, by rw [hv, h0]⟩
  · exact ⟨_, _, hv⟩
end Go.Proofs.Ytgknefpefeghcaa
