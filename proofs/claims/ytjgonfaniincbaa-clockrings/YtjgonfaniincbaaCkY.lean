/- ClockRings: what rings by a tick, told place by place; Tick of any number of ticks. Conditions: the alarms lie in memory. -/
import Derived.Test.YtjgonfaniincbaaCkO
namespace Go.Proofs.Ytjgonfaniincbaa
open Go.RowKit

set_option maxRecDepth 100000 in
theorem due_at {t : Int} : ∀ {l : List (Int × ByteArray)}, l.Pairwise ltA → ∀ (j : Nat) (hj : j < l.length), (l[j].1 ≤ t ↔ j < (dueA t l).length)
  | [], _, j, hj => by simp at hj
  | x :: r, h, j, hj => by
    obtain ⟨h1, h2⟩ := List.pairwise_cons.1 h
    by_cases hx : x.1 ≤ t
    · have e : dueA t (x :: r) = x :: dueA t r := List.filter_cons_of_pos (by simpa using hx)
      rw [e]
      match j, hj with
      | 0, _ => simpa using hx
      | j + 1, hj => simpa using due_at h2 j (by simpa using hj)
    · have hle : ∀ y ∈ x :: r, x.1 ≤ y.1 := by
        intro y hy
        rcases List.mem_cons.1 hy with rfl | hy
        · exact Int.le_refl _
        · rcases h1 y hy with h | ⟨h, _⟩ <;> omega
      have e : dueA t (x :: r) = [] := by
        unfold dueA
        rw [List.filter_eq_nil_iff]
        intro y hy
        have := hle y hy
        simp; omega
      rw [e]
      have := hle _ (List.getElem_mem hj)
      simp; omega
/-- What rings, when so many ticks go by. -/
def rung (now n : Int) (l : List (Int × ByteArray)) : List (Int × ByteArray) := if n < 1 then [] else dueA (clp (now + clp n)) l
set_option maxRecDepth 100000 in
theorem rung_len (now n : Int) (l : List (Int × ByteArray)) : (rung now n l).length ≤ l.length := by
  unfold rung
  split
  · simp
  · exact due_len
set_option maxRecDepth 100000 in
theorem rung_none {now n : Int} {l : List (Int × ByteArray)} (h : n < 1) : (rung now n l).length = 0 := by simp [rung, h]
set_option maxRecDepth 100000 in
theorem rung_at {now n : Int} {l : List (Int × ByteArray)} (h : ¬ n < 1) (hok : OkA l) (j : Nat) (hj : j < l.length) : (l[j].1 ≤ clp (now + clp n) ↔ j < (rung now n l).length) := by
  unfold rung
  rw [if_neg h]
  exact due_at hok.1 j hj
set_option maxRecDepth 100000 in
theorem rung_take {now n : Int} {l : List (Int × ByteArray)} (hok : OkA l) : rung now n l = l.take (rung now n l).length := by
  unfold rung
  split
  · simp
  · exact due_take hok.1
set_option maxRecDepth 100000 in
theorem rung_name {now n : Int} {l : List (Int × ByteArray)} (hok : OkA l) (j : Nat) (hj : j < (rung now n l).length) (hl : j < l.length) : (namesV (rung now n l))[j]? = some (.string l[j].2) := by
  have h5 := List.getElem?_take_of_lt (l := l) hj
  rw [← rung_take hok] at h5
  unfold namesV
  rw [List.getElem?_map, h5]
  simp [hl]
set_option maxRecDepth 100000 in
theorem tick_all {W : World} {B Mb : Nat} {now : Int} {l : List (Int × ByteArray)} (h : AlIn W B Mb now l) (hok : OkA l) (hl : l.length ≤ 32) (h0 : 0 ≤ now) (h1 : now ≤ 1152921504606846976) (n : Int) (base : Nat) (hB : base ≤ B) (hM : base ≤ Mb) :
    Calls Try.prog 15 #[.pointer (some ⟨B, 0, none⟩), .int .i64 n] W fun e w' => ∃ q c, e = .returned (.slice q (rung now n l).length c) ∧ NF w' q (namesV (rung now n l)) ∧ AlIn w' B Mb (clp (now + clp n)) (l.drop (rung now n l).length) ∧ Below base W w' ∧ Keep W w' B Mb := by
  by_cases hz : n < 1
  · have e : clp (now + clp n) = now := by simp only [clp, brought]; omega
    have e2 : rung now n l = [] := by simp [rung, hz]
    rw [e, e2]
    refine (tick_none n hz).mono ?_
    rintro e' w' ⟨rfl, rfl⟩
    exact ⟨none, 0, rfl, fun hn => absurd rfl hn, h, Below.refl _ _, Keep.refl _ _ _⟩
  · have e2 : rung now n l = dueA (clp (now + clp n)) l := by simp [rung, hz]
    rw [e2]
    refine (tick_keep h hok hl ⟨h0, h1⟩ n (by omega) base hB hM).mono ?_
    rintro e' w' ⟨v, rfl, hrow, hA, hb, hk⟩
    have hrow2 : w'.ownsRow W.heap.size 9 1 v (namesV (dueA (clp (now + clp n)) l)).length (namesV (dueA (clp (now + clp n)) l)) := by rw [namesV_len]; exact hrow
    obtain ⟨q, c, rfl, hq⟩ := row_nf hrow2
    exact ⟨q, c, by rw [namesV_len], hq, hA, hb, hk⟩
set_option maxRecDepth 100000 in
/-- Set, by its three ways. -/
theorem setA_len {now : Int} {l : List (Int × ByteArray)} (hok : OkA l) (hl : l.length ≤ 32) (s : ByteArray) (n : Int) (h : ¬ (hasA l s = false ∧ 32 ≤ l.length)) : (insA (clp (now + clp n), s) (delA s l)).length ≤ 32 := by
  have h1 := (insA_perm (clp (now + clp n), s) (delA s l)).length_eq
  have h2 := delA_len hok.2.1 s
  simp only [List.length_cons] at h1
  cases hh : hasA l s
  · rw [hh] at h2
    simp at h2
    have : ¬ 32 ≤ l.length := fun x => h ⟨hh, x⟩
    omega
  · rw [hh] at h2
    simp at h2
    omega
set_option maxRecDepth 100000 in
theorem delA_len_le (s : ByteArray) (l : List (Int × ByteArray)) : (delA s l).length ≤ l.length := List.length_filter_le _ _
set_option maxRecDepth 100000 in
theorem next_cases (l : List (Int × ByteArray)) : (l.length < 1 ∧ nextV l = .tuple #[.string ByteArray.empty, .int .i64 0, .bool false]) ∨ (∃ h : 0 < l.length, nextV l = .tuple #[.string l[0].2, .int .i64 l[0].1, .bool true]) := by
  cases l with
  | nil => exact Or.inl ⟨by simp, rfl⟩
  | cons x r => exact Or.inr ⟨by simp, rfl⟩
set_option maxRecDepth 100000 in
theorem find_neg {l : List (Int × ByteArray)} {s : ByteArray} (h : hasA l s = false) : ∃ fi : Int, findI l s = fi ∧ fi < 0 := ⟨_, rfl, by simp [findI, h]⟩
set_option maxRecDepth 100000 in
theorem find_lt {l : List (Int × ByteArray)} {s : ByteArray} (h : hasA l s = false) : findI l s < 0 := by simp [findI, h]
set_option maxRecDepth 100000 in
theorem find_empty {l : List (Int × ByteArray)} (s : ByteArray) (h : l.length < 1) : ∃ fi : Int, findI l s = fi ∧ fi < 0 ∧ hasA l s = false := by
  have e : l = [] := List.eq_nil_of_length_eq_zero (by omega)
  subst e
  exact ⟨_, rfl, by simp [findI, hasA], rfl⟩
set_option maxRecDepth 100000 in
theorem find_pos {l : List (Int × ByteArray)} {s : ByteArray} (h : hasA l s = true) : ∃ (k : Nat) (hk : k < l.length) (a : Int), l[k].1 = a ∧ (a, s) ∈ l ∧ findI l s = (k : Int) := by
  obtain ⟨h1, h2⟩ := idx_mem h
  exact ⟨idxA s l, h1, _, rfl, h2, by simp [findI, h]⟩
set_option maxRecDepth 100000 in
theorem find_del {l : List (Int × ByteArray)} {s : ByteArray} (hok : OkA l) (h : hasA l s = true) : ∃ k : Nat, k < l.length ∧ l.take k ++ l.drop (k + 1) = delA s l ∧ findI l s = (k : Int) := by
  obtain ⟨h1, -⟩ := idx_mem h
  exact ⟨idxA s l, h1, del_idx hok.2.1 h, by simp [findI, h]⟩
set_option maxRecDepth 100000 in
theorem IIn.cut {W : World} {p : Option Addr} {l : List (Int × ByteArray)} {c : Nat} (h : IIn W (.slice p l.length c) l) (K : Nat) (hK : K ≤ l.length) : IIn W (.slice (cutI p c K) (l.length - K) (c - K)) (l.drop K) := by
  obtain ⟨p3, c3, e3, hc, hno, hr⟩ := h
  injection e3 with e3a e3b e3c
  subst e3a e3c
  have h2 := cutI_row K (l.length - K) hc W hr
  rw [List.take_of_length_le (by simp)] at h2
  exact ⟨_, _, by rw [List.length_drop], by rw [List.length_drop]; omega, fun e => by have := cutI_nil K hno e; rw [List.length_drop]; omega, h2⟩
end Go.Proofs.Ytjgonfaniincbaa
