/- diag.Clean. Conditions: the notes and the secrets lie in memory, and are not too many, nor too long. -/
import Derived.Test.YtgknefpefeghcaaDgO
namespace Go.Proofs.Ytgknefpefeghcaa
open Go.RowKit Go.Maps Go.ChangeMaps Go.WideShapes Go.WideMaps

set_option maxRecDepth 100000 in
theorem nrow_below {w w' : World} {base n : Nat} {v : Value} {xs : List Value} (h : w.ownsRow base 31 2 v n xs) (hb : Below w.heap.size w w') : w'.ownsRow base 31 2 v n xs :=
  h.kept (row := none) ⟨hb.os, hb.tape, hb.output, hb.size, fun k hk _ => hb.block k hk⟩ (by cases hv : v.ownBlock with | none => exact Or.inl rfl | some k => exact Or.inr (by simp))
set_option maxRecDepth 100000 in
theorem nrow_set {w : World} {base n k : Nat} {v : Value} {xs : List Value} (h : w.ownsRow base 31 2 v n xs) (hne : ∀ q, v.ownBlock = some q → q ≠ k) (i : Nat) (u : Value) : (w.setCell ⟨k, i, none⟩ u).ownsRow base 31 2 v n xs := by
  obtain ⟨h0, h | ⟨g, cap, cur, hv, hg, hh, h1⟩⟩ := h
  · exact ⟨h0, Or.inl h⟩
  · exact ⟨h0, Or.inr ⟨g, cap, cur, hv, hg, (Below.heap_setCell _ _ _ _ (hne g (by rw [hv]; rfl))).trans hh, h1⟩⟩
set_option maxRecDepth 100000 in
set_option maxHeartbeats 1600000 in
theorem nclean_any {W : World} {a p : Option Addr} {ca cp : Nat} {l : List (Bool × ByteArray)} {s : List ByteArray} (h : NotesIn W a ca l) (hs : StrsIn W p cp s) (h3 : ∀ x ∈ l, x.2.size ≤ 300) (hl : l.length ≤ 30) (hsl : s.length ≤ 20) :
    Calls Try.prog 16 #[.slice a l.length ca, .slice p s.length cp] W fun e w' => (∃ v, e = .returned v ∧ w'.ownsRow (W.heap.size + 1) 31 2 v (cleanGo s l [] []).length (flatQ (cleanGo s l [] []))) ∧ Below W.heap.size W w' := by
  have h3 : Hid (∀ x ∈ l, x.2.size ≤ 300) := h3
  have hmm := @run_makeMap Try.prog
  have hset := SetN.made W
  have hb0 := (Below.refl W.heap.size W).alloc (Nat.le_refl _) (.map #[] 0)
  have hsz0 : W.heap.size + 1 ≤ (W.alloc (.map #[] 0)).heap.size := by simp
  go_enter Try.func16, Try.ntmps16
  go_wp2_with fail
  generalize W.alloc (.map #[] 0) = w0 at *
  go_loopw [5, 14] (fun s5 s14 wr => ∃ (k : Nat) (seen out : List (Bool × ByteArray)) (SV : Value), SV = s5 ∧ k ≤ l.length ∧ s14 = .int .i64 (k : Int) ∧ out.length ≤ 8 ∧ seen.length ≤ k ∧ Hid (cleanGo s (l.drop k) seen out = cleanGo s l [] []) ∧ wr.ownsRow (W.heap.size + 1) 31 2 SV out.length (flatQ out) ∧ SetN wr W.heap.size seen ∧ Below W.heap.size W wr) (fun _ s14 _ => l.length - (intOf s14).toNat)
  case atStart => exact ⟨0, [], [], _, rfl, by omega, rfl, by simp, by simp, (by show _ = _; rw [List.drop_zero]), World.ownsRow_nil _ _ _ _, hset, hb0⟩
  case round =>
    clear hset hb0 hsz0
    obtain ⟨k, seen, out, SV, rfl, hk, rfl, ho8, hsk, hgo, hrow, hset, hb⟩ := hrel
    by_cases hlt : k < l.length
    · have hin := h.below hb
      obtain ⟨b, off, rfl, c0, c1, hbl⟩ := note_cells hin hlt
      have hsz := h3.out _ (List.getElem_mem hlt)
      have hdr : l.drop k = l[k] :: l.drop (k + 1) := List.drop_eq_getElem_cons hlt
      rw [hdr] at hgo
      clear hdr
      generalize l[k] = n at *
      obtain ⟨nb, ns⟩ := n
      simp only at c0 c1 hsz
      have hX := heap_alloc_new wr (.cells #[.bool nb, .string ns] 31)
      have hbX := (Below.refl wr.heap.size wr).alloc (Nat.le_refl _) (.cells #[.bool nb, .string ns] 31)
      have hXk : wr.heap.size < (wr.alloc (.cells #[.bool nb, .string ns] 31)).heap.size := by simp
      have hsetX := hset.kept (hbX.block _ hset.lt)
      have hz0 := cell_of_row _ _ 0 _ _ _ hX
      have hz1 := cell_of_row _ _ 1 _ _ _ hX
      have hlook := hsetX.look (nb, ns) (by show ns.size ≤ _; unfold maxLen; omega)
      obtain ⟨a5, c5, rfl⟩ := row_slice hrow
      have hbU := hbX.trans ((Below.refl _ _).alloc (Nat.le_of_lt hXk) (.cells #[] 71))
      have hXU := (Below.heap_alloc (wr.alloc (.cells #[.bool nb, .string ns] 31)) (.cells #[] 71) _ hXk).trans hX
      have hsetU := hset.kept (hbU.block _ hset.lt)
      have hrowU := (hrow.alloc (.cells #[.bool nb, .string ns] 31)).alloc (.cells #[] 71)
      have hbbU := hb.trans (hbU.mono hb.size)
      cases hm : memN (nb, ns) seen with
      | true =>
        rw [hm] at hlook
        have hgo2 : Hid (cleanGo s (l.drop (k + 1)) seen out = cleanGo s l [] []) := by
          show _ = _
          rw [← hgo.out, go_skip (Or.inl hm)]
        clear hgo hrow hset hb hsetX hbX hbU
        go_wp2_with fail
        go_roundw
        case rel => exact ⟨k + 1, seen, out, _, rfl, by omega, by go_num, ho8, by omega, hgo2, hrowU, hsetU, hbbU⟩
        case measure => simp [intOf]; omega
      | false =>
        rw [hm] at hlook
        by_cases hem : ns.size = 0
        · have hgo2 : Hid (cleanGo s (l.drop (k + 1)) seen out = cleanGo s l [] []) := by
            show _ = _
            rw [← hgo.out, go_skip (Or.inr hem)]
          obtain rfl : ns = ⟨#[]⟩ := by
            apply ByteArray.ext
            exact Array.eq_empty_of_size_eq_zero hem
          clear hgo hrow hset hb hsetX hbX hbU
          go_wp2_with fail
          go_roundw
          case rel => exact ⟨k + 1, seen, out, _, rfl, by omega, by go_num, ho8, by omega, hgo2, hrowU, hsetU, hbbU⟩
          case measure => simp [intOf]; omega
        · have hns : ¬ (memN (nb, ns) seen = true ∨ (nb, ns).2.size = 0) := by
            rintro (h1 | h1)
            · rw [hm] at h1; cases h1
            · exact hem h1
          have hbe : ns.toList.isEmpty = false := List.isEmpty_eq_false_iff.2 fun e => by
            rw [ByteArray.toList_eq] at e
            have e2 := congrArg List.length e
            rw [Array.length_toList] at e2
            exact hem e2
          by_cases h8 : out.length = 8
          · have hgo2 : Hid (out = cleanGo s l [] []) := by
              show _ = _
              rw [← hgo.out, go_full hns h8]
            clear hgo hrow hset hb hsetX hbX hbU
            have h8i : ((out.length : Nat) : Int) = 8 := by omega
            go_wp2_with fail
            go_ret
            exact ⟨⟨.slice a5 8 c5, rfl, by rw [← hgo2.out]; rw [h8] at hrowU ⊢; exact hrowU⟩, hbbU⟩
          · obtain ⟨w2, hst, hset2, ht2⟩ := hsetU.store (nb, ns) (by show ns.size ≤ _; unfold maxLen; omega) (by omega)
            have h8i : ((out.length : Nat) : Int) ≠ 8 := by omega
            have hMl := hset.lt
            have hown : ∀ q, (Value.slice a5 out.length c5).ownBlock = some q → q ≠ wr.heap.size := fun q hq => by have := (hrow.lt q hq).2; omega
            have hXM : wr.heap.size ≠ W.heap.size := by omega
            have hX2 := (turned_block ht2 hXM (Array.getElem?_eq_some_iff.1 hXU).1).trans hXU
            have z21 := cell_of_row _ _ 1 _ _ _ hX2
            have hrow2 := World.ownsRow.kept hrowU ht2.grown (Or.inr (fun e => by have := (hrowU.lt _ (by first | exact e | exact e.symm)).1; omega))
            have hbb2 := hbbU.trans (turned_below ht2 W.heap.size (Nat.le_refl _) hbbU.size)
            have hs2 := hs.below hbb2
            have CT : Hid (Calls Try.prog 22 #[.string ns, .slice p s.length cp] w2 fun e w' => e = .returned (.string (textD s ns)) ∧ Below w2.heap.size w2 w') := by
              refine (dtext_any ns hs2 (by omega) (by omega) (Nat.le_trans (Nat.mul_le_mul hsz hsl) (by omega))).mono ?_
              rintro e w' ⟨⟨c, rfl, hc⟩, hb⟩
              rw [textD_of hc]
              exact ⟨rfl, hb⟩
            have hgoO := fun hq => go_old (s := s) (n := (nb, ns)) (r := l.drop (k + 1)) (seen := seen) (out := out) hns h8 hq
            have hgoN := fun hq => go_new (s := s) (n := (nb, ns)) (r := l.drop (k + 1)) (seen := seen) (out := out) hns h8 hq
            rw [hgo.out] at hgoO hgoN
            have hgoO : Hid (memN (nb, textD s ns) out = true → cleanGo s l [] [] = cleanGo s (l.drop (k + 1)) ((nb, ns) :: seen) out) := hgoO
            have hgoN : Hid (¬ memN (nb, textD s ns) out = true → cleanGo s l [] [] = cleanGo s (l.drop (k + 1)) ((nb, ns) :: seen) (out ++ [(nb, textD s ns)])) := hgoN
            clear hrow hset hb hsetX hsetU hgo hs2 hrowU
            go_wp2_with fail
            refine CT.out.mono ?_
            rintro e w3 ⟨rfl, hb3⟩
            clear CT
            have hX3 := (hb3.block _ (Array.getElem?_eq_some_iff.1 hX2).1).trans hX2
            have hset3 := hset2.kept (hb3.block _ hset2.lt)
            have hrow3 := nrow_below hrow2 hb3
            have hbb3 := hbb2.trans (hb3.mono hbb2.size)
            generalize textD s ns = y at *
            have z30 := cell_of_row _ _ 0 _ _ _ hX3
            have z31 := cell_of_row _ _ 1 _ _ _ hX3
            have zf3 : w3.frozen? ⟨wr.heap.size, 1, none⟩ = false := frozen_of_row _ _ _ _ _ hX3
            have hXl3 := (Array.getElem?_eq_some_iff.1 hX3).1
            have hX4 := heap_setCell_same _ _ 1 _ _ (.string y) hX3
            have hset4 : SetN (w3.setCell ⟨wr.heap.size, 1, none⟩ (.string y)) W.heap.size ((nb, ns) :: seen) := hset3.kept (Below.heap_setCell _ _ _ _ (by show W.heap.size ≠ wr.heap.size; omega))
            have hbb4 := hbb3.setCell (p := ⟨wr.heap.size, 1, none⟩) (by show W.heap.size ≤ wr.heap.size; omega) (.string y)
            have hrow4 : (w3.setCell ⟨wr.heap.size, 1, none⟩ (.string y)).ownsRow (W.heap.size + 1) 31 2 (.slice a5 out.length c5) out.length (flatQ out) := nrow_set hrow3 hown _ _
            have CC : Hid (Calls Try.prog 31 #[.slice a5 out.length c5, .agg #[.bool nb, .string y]] (w3.setCell ⟨wr.heap.size, 1, none⟩ (.string y)) fun e w' => (∃ t : Int, e = .returned (.bool (decide (0 ≤ t))) ∧ Hid (0 ≤ t ↔ (nb, y) ∈ out)) ∧ Below (w3.setCell ⟨wr.heap.size, 1, none⟩ (.string y)).heap.size (w3.setCell ⟨wr.heap.size, 1, none⟩ (.string y)) w') := ncont_any (nb, y) (row_notes hrow4 rfl) (by omega)
            have z40 := cell_of_row _ _ 0 _ _ _ hX4
            have z41 := cell_of_row _ _ 1 _ _ _ hX4
            have hXl4 := (Array.getElem?_eq_some_iff.1 hX4).1
            clear hrow2 hrow3 hset2 hset3 hb3 hX hX2 hX3 hXU
            go_wp2_with fail
            refine CC.out.mono ?_
            rintro e w5 ⟨⟨t, rfl, ht⟩, hb5⟩
            clear CC
            have hX5 := (hb5.block _ hXl4).trans hX4
            have hset5 := hset4.kept (hb5.block _ hset4.lt)
            have hrow5 := nrow_below hrow4 hb5
            have hbb5 := hbb4.trans (hb5.mono hbb4.size)
            clear hrow4 hset4 hX4 hb5 hbb4 z40 z41 z30 z31 zf3
            cases hd : decide (0 ≤ t)
            case true =>
              have hc := of_decide_eq_true hd
              have hgo2 : Hid (cleanGo s (l.drop (k + 1)) ((nb, ns) :: seen) out = cleanGo s l [] []) := (hgoO.out ((memN_iff _ _).2 (ht.out.1 hc))).symm
              clear hgoO hgoN ht
              go_wp2_with fail
              go_roundw
              case rel => exact ⟨k + 1, (nb, ns) :: seen, out, _, rfl, by omega, by go_num, ho8, by simp; omega, hgo2, hrow5, hset5, hbb5⟩
              case measure => simp [intOf]; omega
            case false =>
              have hc := of_decide_eq_false hd
              have hgo2 : Hid (cleanGo s (l.drop (k + 1)) ((nb, ns) :: seen) (out ++ [(nb, y)]) = cleanGo s l [] []) := (hgoN.out (fun hm2 => hc (ht.out.2 ((memN_iff _ _).1 hm2)))).symm
              clear hgoO hgoN ht
              have z50 := cell_of_row _ _ 0 _ _ _ hX5
              have z51 := cell_of_row _ _ 1 _ _ _ hX5
              have hXl5 := (Array.getElem?_eq_some_iff.1 hX5).1
              have hXA := heap_alloc_new w5 (.cells #[.bool nb, .string y] 31)
              have hrow6 := hrow5.alloc (.cells #[.bool nb, .string y] 31)
              have hbA := (Below.refl w5.heap.size w5).alloc (Nat.le_refl _) (.cells #[.bool nb, .string y] 31)
              have hset6 := hset5.kept (hbA.block _ hset5.lt)
              have hbb6 := hbb5.trans (hbA.mono hbb5.size)
              have hMl6 : W.heap.size + 1 ≤ (w5.alloc (.cells #[.bool nb, .string y] 31)).heap.size := by have := hset6.lt; omega
              obtain ⟨v7, w7, hr7, hown7, hg7⟩ := append_note (q := (nb, y)) hrow6 hXA hMl6 (by omega) 28
              have hset7 := hset6.kept (hg7.block _ hset6.lt (fun e => by have := (hrow6.lt _ (by first | exact e | exact e.symm)).1; omega))
              have hbb7 := hbb6.grown hg7 (by omega) (fun q hq => by have := (hrow6.lt q hq).1; omega)
              have ho9 : (out ++ [(nb, y)]).length ≤ 8 := by simp; omega
              clear hrow5 hrow6 hset5 hset6 hbb5 hbb6 hX5 hXA hbA hg7
              go_wp2_with (at_builtin; refine wpList_append_run rfl (.tmp 45) (.tmp 47) 28 rfl _ _ rfl rfl hr7 ?_)
              clear hr7
              go_wp2_with fail
              go_roundw
              case rel => exact ⟨k + 1, (nb, ns) :: seen, out ++ [(nb, y)], _, rfl, by omega, by go_num, ho9, by simp; omega, hgo2, hown7, hset7, hbb7⟩
              case measure => simp [intOf]; omega
    · have hkn : k = l.length := by omega
      subst hkn
      rw [List.drop_length] at hgo
      go_wp2_with fail
      go_ret
      have hgo2 : out = cleanGo s l [] [] := hgo.out
      exact ⟨⟨_, rfl, by rw [← hgo2]; exact hrow⟩, hb⟩
end Go.Proofs.Ytgknefpefeghcaa
