/- Ticks one by one ring as all at once: in plain mathematics; rows of names kept. No conditions. -/
import Derived.Test.YtjgonfaniincbaaCkK
import Derived.Test.YtjgonfaniincbaaCkX
import Derived.Laws.AppendOwnNone
namespace Go.Proofs.Ytjgonfaniincbaa
open Go.RowKit

set_option maxRecDepth 100000 in
theorem due_split {s t : Int} (hst : s ≤ t) {l : List (Int × ByteArray)} (h : l.Pairwise ltA) :
    dueA t l = dueA s l ++ dueA t (l.drop (dueA s l).length) ∧ l.drop (dueA t l).length = (l.drop (dueA s l).length).drop (dueA t (l.drop (dueA s l).length)).length := by
  have h1 : l = dueA s l ++ l.drop (dueA s l).length := by
    have := List.take_append_drop (dueA s l).length l
    rw [← due_take h] at this
    exact this.symm
  have h2 : dueA t (dueA s l) = dueA s l := by
    refine List.filter_eq_self.2 (fun x hx => ?_)
    have := of_decide_eq_true (List.mem_filter.1 hx).2
    exact decide_eq_true (by omega)
  have h3 : dueA t l = dueA s l ++ dueA t (l.drop (dueA s l).length) := by
    have e : dueA t (dueA s l ++ l.drop (dueA s l).length) = dueA t (dueA s l) ++ dueA t (l.drop (dueA s l).length) := List.filter_append ..
    rw [← h1, h2] at e
    exact e
  refine ⟨h3, ?_⟩
  rw [List.drop_drop]
  congr 1
  have := congrArg List.length h3
  rw [List.length_append] at this
  exact this
/-- By which tick all has rung, so many ticks from the start. -/
def thr (n : Int) : Int := if n = 0 then -1 else n
set_option maxRecDepth 100000 in
theorem due_none {l : List (Int × ByteArray)} (h : OkA l) : dueA (-1) l = [] := by
  unfold dueA
  rw [List.filter_eq_nil_iff]
  intro y hy
  have := (h.2.2 y hy).1
  simp; omega
set_option maxRecDepth 100000 in
theorem thr_le (n : Int) (h : 0 ≤ n) : thr n ≤ n + 1 ∧ thr (n + 1) = n + 1 := by
  unfold thr
  refine ⟨by split <;> omega, if_neg (by omega)⟩
def namesV (l : List (Int × ByteArray)) : List Value := l.map (fun x => Value.string x.2)
set_option maxRecDepth 100000 in
theorem namesV_len (l : List (Int × ByteArray)) : (namesV l).length = l.length := List.length_map ..
set_option maxRecDepth 100000 in
theorem AlIn.keep {W w' : World} {B Mb B' Mb' : Nat} {now : Int} {l : List (Int × ByteArray)} (h : AlIn W B Mb now l) (hk : Keep W w' B' Mb') (h1 : B ≠ B') (h2 : B ≠ Mb') (h3 : Mb ≠ B') (h4 : Mb ≠ Mb') : AlIn w' B Mb now l :=
  ⟨(hk.2 B h.1.lt h1 h2).trans h.1, h.2.block (hk.2 Mb h.2.lt h3 h4)⟩
set_option maxRecDepth 100000 in
theorem row_keep {W w' : World} {base n B Mb : Nat} {v : Value} {xs : List Value} (h : W.ownsRow base 9 1 v n xs) (hk : Keep W w' B Mb) (hB : B < base) (hM : Mb < base) : w'.ownsRow base 9 1 v n xs := by
  obtain ⟨h0, h | ⟨g, cap, cur, hv, hg, hb, h1⟩⟩ := h
  · exact ⟨h0, Or.inl h⟩
  · exact ⟨h0, Or.inr ⟨g, cap, cur, hv, hg, (hk.2 g (Array.getElem?_eq_some_iff.1 hb).1 (by omega) (by omega)).trans hb, h1⟩⟩
set_option maxRecDepth 100000 in
theorem row_below {W w' : World} {base n : Nat} {v : Value} {xs : List Value} (h : W.ownsRow base 9 1 v n xs) (hb : Below W.heap.size W w') : w'.ownsRow base 9 1 v n xs := by
  obtain ⟨h0, h | ⟨g, cap, cur, hv, hg, hh, h1⟩⟩ := h
  · exact ⟨h0, Or.inl h⟩
  · exact ⟨h0, Or.inr ⟨g, cap, cur, hv, hg, (hb.block g (Array.getElem?_eq_some_iff.1 hh).1).trans hh, h1⟩⟩
set_option maxRecDepth 100000 in
/-- So many ticks from the start. -/
theorem tick_n {W : World} {B Mb : Nat} {l : List (Int × ByteArray)} (h : AlIn W B Mb 0 l) (hok : OkA l) (hl : l.length ≤ 32) (n : Int) (h0 : 0 ≤ n) (h1 : n ≤ 255) (base : Nat) (hB : base ≤ B) (hM : base ≤ Mb) :
    Calls Try.prog 15 #[.pointer (some ⟨B, 0, none⟩), .int .i64 n] W fun e w' => ∃ v, e = .returned v ∧ w'.ownsRow W.heap.size 9 1 v (dueA (thr n) l).length (namesV (dueA (thr n) l)) ∧ AlIn w' B Mb n (l.drop (dueA (thr n) l).length) ∧ Below base W w' ∧ Keep W w' B Mb := by
  by_cases hz : n = 0
  · subst hz
    have e : dueA (thr 0) l = [] := due_none hok
    refine (tick_none 0 (by omega)).mono ?_
    rintro e' w' ⟨rfl, rfl⟩
    rw [e]
    exact ⟨_, rfl, World.ownsRow_nil _ _ _ _, h, Below.refl _ _, Keep.refl _ _ _⟩
  · have e : clp (0 + clp n) = n := by simp only [clp, brought]; omega
    have e2 : thr n = n := if_neg hz
    have hc := tick_keep h hok hl ⟨by omega, by omega⟩ n (by omega) base hB hM
    rw [e] at hc
    rw [e2]
    exact hc
set_option maxRecDepth 100000 in
/-- One tick more. -/
theorem tick_one {W : World} {B Mb : Nat} {l : List (Int × ByteArray)} (i : Int) (h0 : 0 ≤ i) (h1 : i ≤ 255) (h : AlIn W B Mb i (l.drop (dueA (thr i) l).length)) (hok : OkA l) (hl : l.length ≤ 32) (base : Nat) (hB : base ≤ B) (hM : base ≤ Mb) :
    Calls Try.prog 15 #[.pointer (some ⟨B, 0, none⟩), .int .i64 1] W fun e w' => ∃ v q, e = .returned v ∧ namesV (dueA (thr (i + 1)) l) = namesV (dueA (thr i) l) ++ q ∧ w'.ownsRow W.heap.size 9 1 v q.length q ∧ (∀ u ∈ q, ∃ s, u = Value.string s) ∧ AlIn w' B Mb (i + 1) (l.drop (dueA (thr (i + 1)) l).length) ∧ Below base W w' ∧ Keep W w' B Mb := by
  have e : clp (i + clp 1) = i + 1 := by simp only [clp, brought]; omega
  obtain ⟨t1, t2⟩ := thr_le i h0
  have hl2 : (l.drop (dueA (thr i) l).length).length ≤ 32 := by rw [List.length_drop]; omega
  have hc := tick_keep h (hok.drop _) hl2 ⟨by omega, by omega⟩ 1 (by omega) base hB hM
  rw [e] at hc
  obtain ⟨s1, s2⟩ := due_split (s := thr i) (t := i + 1) t1 hok.1
  refine hc.mono ?_
  rintro e' w' ⟨v, rfl, hrow, hA, hb, hk⟩
  refine ⟨v, namesV (dueA (i + 1) (l.drop (dueA (thr i) l).length)), rfl, ?_, ?_, ?_, ?_, hb, hk⟩
  · rw [t2, s1]; exact List.map_append ..
  · rw [namesV_len]; exact hrow
  · intro u hu
    obtain ⟨x, -, rfl⟩ := List.mem_map.1 hu
    exact ⟨_, rfl⟩
  · rw [t2, s2]; exact hA
/-- The cells of a row of names. -/
def NF (W : World) (p : Option Addr) (L : List Value) : Prop := L ≠ [] → ∃ g, p = some ⟨g, 0, none⟩ ∧ ∀ j, j < L.length → W.cell? ⟨g, j, none⟩ = L[j]?
set_option maxRecDepth 100000 in
theorem row_nf {W : World} {base : Nat} {v : Value} {L : List Value} (h : W.ownsRow base 9 1 v L.length L) : ∃ p c, v = .slice p L.length c ∧ NF W p L := by
  rcases h.2 with ⟨rfl, h0⟩ | ⟨g, cap, cur, rfl, -⟩
  · exact ⟨none, 0, by rw [h0], fun hn => absurd (List.eq_nil_of_length_eq_zero h0) hn⟩
  · refine ⟨some ⟨g, 0, none⟩, cap, rfl, fun _ => ⟨g, rfl, fun j hj => ?_⟩⟩
    exact h.cellAt j (by omega)
end Go.Proofs.Ytjgonfaniincbaa
