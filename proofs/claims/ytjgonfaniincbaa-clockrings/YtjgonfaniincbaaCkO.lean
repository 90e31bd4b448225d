/- The law's list against the alarms, in plain mathematics: a name's place, the list without it, what Set makes of it. No conditions. -/
import Derived.Test.YtjgonfaniincbaaCkI
import Derived.Test.YtjgonfaniincbaaCkJ
namespace Go.Proofs.Ytjgonfaniincbaa
open Go.RowKit Go.Maps Go.ChangeMaps Go.WideShapes Go.WideMaps

set_option maxRecDepth 100000 in
theorem del_idx : ∀ {l : List (Int × ByteArray)} {s : ByteArray}, (l.map Prod.snd).Nodup → hasA l s = true → l.take (idxA s l) ++ l.drop (idxA s l + 1) = delA s l
  | [], _, _, h => by simp [hasA] at h
  | x :: r, s, hn, h => by
    have hn2 : (x.2 :: r.map Prod.snd).Nodup := hn
    obtain ⟨h1, h2⟩ := List.nodup_cons.1 hn2
    by_cases e : x.2 = s
    · have hr : hasA r s = false := by
        rw [Bool.eq_false_iff]
        intro hh
        obtain ⟨n, hm⟩ := hasA_mem hh
        exact h1 (List.mem_map.2 ⟨_, hm, e.symm⟩)
      have hi : idxA s (x :: r) = 0 := by simp [idxA, e]
      have hd : delA s (x :: r) = delA s r := List.filter_cons_of_neg (by simp [e])
      rw [hi, hd, delA_same hr]
      rfl
    · have hi : idxA s (x :: r) = idxA s r + 1 := by simp [idxA, e]
      have hd : delA s (x :: r) = x :: delA s r := List.filter_cons_of_pos (by simp [e])
      have hh : hasA r s = true := by simpa [hasA, e] using h
      rw [hi, hd, List.take_succ_cons, List.drop_succ_cons, List.cons_append, del_idx h2 hh]
set_option maxRecDepth 100000 in
theorem find_sign (l : List (Int × ByteArray)) (s : ByteArray) : (0 ≤ findI l s ↔ hasA l s = true) ∧ -1 ≤ findI l s ∧ findI l s ≤ l.length := by
  unfold findI
  by_cases h : hasA l s = true
  · obtain ⟨h1, -⟩ := idx_at l s h
    rw [if_pos h]
    exact ⟨⟨fun _ => h, fun _ => by omega⟩, by omega, by omega⟩
  · rw [if_neg h]
    exact ⟨⟨fun g => by omega, fun g => absurd g h⟩, by omega, by omega⟩
set_option maxRecDepth 100000 in
/-- What stands at a name's place. -/
theorem idx_mem {l : List (Int × ByteArray)} {s : ByteArray} (h : hasA l s = true) : ∃ hi : idxA s l < l.length, (l[idxA s l].1, s) ∈ l := by
  obtain ⟨h1, h2⟩ := idx_at l s h
  refine ⟨h1, ?_⟩
  have e : l[idxA s l] = (l[idxA s l].1, s) := Prod.ext rfl h2
  rw [← e]
  exact List.getElem_mem h1
set_option maxRecDepth 100000 in
/-- Set, where it sets. -/
theorem set_list {now : Int} {l : List (Int × ByteArray)} {s : ByteArray} {n : Int} (h0 : ¬ n < 0) (h1 : ¬ (hasA l s = false ∧ 32 ≤ l.length)) : setE l s n = 0 ∧ setA now l s n = insA (clp (now + clp n), s) (delA s l) :=
  ⟨(if_neg h0).trans (if_neg h1), if_neg (fun x => x.elim h0 h1)⟩
set_option maxRecDepth 100000 in
/-- A row of items is not among the alarms' own two blocks. -/
theorem LRow.keep {W w' : World} {p : Option Addr} {l L : List (Int × ByteArray)} {B Mb : Nat} {now : Int} (h : LRow W p l) (hA : AlIn W B Mb now L) (hk : Keep W w' B Mb) : LRow w' p l := fun hz => by
  obtain ⟨b, off, rfl, hc⟩ := h hz
  obtain ⟨d0, -⟩ := hc 0 (List.length_pos_iff.2 hz)
  have hlt := World.block_lt_of_cell? _ _ d0
  have hB : b ≠ B := by
    intro e
    subst e
    rw [cell_of_row _ _ _ _ _ _ hA.1] at d0
    match off + 0 * 2, d0 with
    | 0, d0 => simp at d0
    | 1, d0 => simp at d0
    | k + 2, d0 => simp at d0
  have hM : b ≠ Mb := by
    intro e
    subst e
    obtain ⟨-, D, ⟨es, clock, h2, -⟩, -⟩ := hA
    simp [World.cell?, h2] at d0
  have hb := hk.2 b hlt hB hM
  refine ⟨b, off, rfl, fun j hj => ?_⟩
  obtain ⟨c0, c1⟩ := hc j hj
  exact ⟨(World.cell?_of_block (a := ⟨b, off + j * 2, none⟩) hb).trans c0, (World.cell?_of_block (a := ⟨b, off + j * 2 + 1, none⟩) hb).trans c1⟩
set_option maxRecDepth 100000 in
theorem IIn.keep {W w' : World} {v : Value} {l L : List (Int × ByteArray)} {B Mb : Nat} {now : Int} (h : IIn W v l) (hA : AlIn W B Mb now L) (hk : Keep W w' B Mb) : IIn w' v l := by
  obtain ⟨p, c, h1, h2, h3, h4⟩ := h
  exact ⟨p, c, h1, h2, h3, h4.keep hA hk⟩
set_option maxRecDepth 100000 in
/-- Drop, with all other blocks kept. -/
theorem drop_keep {W : World} {B Mb : Nat} {now : Int} {l : List (Int × ByteArray)} (h : AlIn W B Mb now l) (hok : OkA l) (s : ByteArray) (hs : s.size ≤ maxLen) (base : Nat) (hB : base ≤ Mb) : Calls Try.prog 14 #[.pointer (some ⟨B, 0, none⟩), .string s] W fun e w' =>
    e = .returned (.bool (hasA l s)) ∧ AlIn w' B Mb now (delA s l) ∧ Below base W w' ∧ Keep W w' B Mb := by
  obtain ⟨z0, z1, zf⟩ := h.cells
  have hlt := h.1.lt
  have hml := h.2.lt
  cases hh : hasA l s
  · have CA : Hid (Calls Try.prog 17 #[.pointer (some ⟨B, 0, none⟩), .string s] W fun e w' => (∃ c : Int, e = .returned (.tuple #[.int .i64 c, .bool false])) ∧ W = w') := (at_any h hok s hs).mono (fun e w' ⟨⟨c, h1, _⟩, h2⟩ => ⟨⟨c, by rw [h1, hh]⟩, h2⟩)
    go_enter Try.func14, Try.ntmps14
    go_wp2_with (go_at_call 17; refine CA.out.mono ?_; rintro e w' ⟨⟨c, rfl⟩, rfl⟩)
    go_ret
    exact ⟨rfl, by rw [delA_same hh]; exact h, Below.refl _ _, Keep.refl _ _ _⟩
  · have CA : Hid (Calls Try.prog 17 #[.pointer (some ⟨B, 0, none⟩), .string s] W fun e w' => (∃ c : Int, e = .returned (.tuple #[.int .i64 c, .bool true])) ∧ W = w') := (at_any h hok s hs).mono (fun e w' ⟨⟨c, h1, _⟩, h2⟩ => ⟨⟨c, by rw [h1, hh]⟩, h2⟩)
    have hA := h
    obtain ⟨-, D, hown, hv⟩ := h
    have key := key_of hs
    go_enter Try.func14, Try.ntmps14
    go_wp2_with (first
      | (go_at_call 17; refine CA.out.mono ?_; rintro e w' ⟨⟨c, rfl⟩, rfl⟩)
      | (at_delete; refine wpList_delete_own _ rfl _ _ 51 9 rfl 3 keyed Try.underlying51 _ Mb l.length D rfl hown _ _ rfl key ?_; intro w1 hown1 hturn1))
    go_ret
    exact ⟨rfl, hA.turned hturn1 (MapIn.mk hown1 (hv.del s)), turned_below hturn1 base hB (by omega), (Keep.refl W B Mb).turned hturn1⟩
end Go.Proofs.Ytjgonfaniincbaa
