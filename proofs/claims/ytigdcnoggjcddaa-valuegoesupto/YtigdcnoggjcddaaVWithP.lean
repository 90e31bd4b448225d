/- How a value with another one where steps lead is made from the last step back, in plain mathematics; how great it is. No conditions; no program. -/
import Derived.Test.YtigdcnoggjcddaaVPut
namespace Go.Proofs.Ytigdcnoggjcddaa
open Go.RowKit Go.Maps Go.WideMaps

/-- All values on a way, behind others; the error's number. -/
def V.wayFrom : List V → V → List St → List V × Int
  | acc, x, [] => (acc ++ [x], 0)
  | acc, x, s :: r => if (x.follow s).2 = 0 then V.wayFrom (acc ++ [x]) (x.follow s).1 r else ([], (x.follow s).2)
set_option maxRecDepth 100000 in
set_option maxHeartbeats 3200000 in
theorem way_any {w : World} {ok : Nat → Prop} (hk : ∀ b, w.heap.size ≤ b → ok b) {h : Value} {v : V} (hr : Rep w ok h v) (ao : Option Addr) (l : List St) (c : Nat) (hl : StRow w ao l) (hn : l.length ≤ 1048575) :
    Calls Try.prog 50 #[.agg #[h], .slice ao l.length c] w fun e w' => ∃ a' c', e = .returned (.tuple #[.slice a' (V.wayFrom [] v l).1.length c', .int .i64 (V.wayFrom [] v l).2]) ∧ RRow w' ok a' (V.wayFrom [] v l).1 ∧ SliceOk a' (V.wayFrom [] v l).1.length c' ∧ Below w.heap.size w w' := by
  have hr0 := hr.low
  have hone := hr.one
  clear hr
  generalize hR : V.wayFrom [] v l = R
  have CF : Hid (∀ (W : World) (u : Value) (x : V) (s : St), Below w.heap.size w W → Rep w (fun b => ok b ∧ b < w.heap.size) u x → s.ok → Calls Try.prog 49 #[.agg #[u], .agg #[.string s.key, .int .i64 s.at_]] W fun e w' => ∃ u', e = .returned (.tuple #[.agg #[u'], .int .i64 (x.follow s).2]) ∧ u'.oneCell' = true ∧ Rep w (fun b => ok b ∧ b < w.heap.size) u' (x.follow s).1 ∧ Below W.heap.size W w') := fun W u x s hW hx hs => by
    refine (follow_any (hx.stays hW) s hs).mono ?_
    rintro e w' ⟨u', rfl, h1, h2⟩
    exact ⟨u', rfl, h1.one, h1.back hW, h2⟩
  obtain ⟨hok, hl2⟩ := hl
  have HC : Hid (∀ (W : World) (k : Nat), Below w.heap.size w W → ∀ hk : k < l.length, ∃ (bl off : Nat) (s : St), ao = some ⟨bl, off, none⟩ ∧ l.drop k = s :: l.drop (k + 1) ∧ s.ok ∧ W.cell? ⟨bl, off + k * 2, none⟩ = some (.string s.key) ∧ W.cell? ⟨bl, off + k * 2 + 1, none⟩ = some (.int .i64 s.at_)) := fun W k hW hk => by
    obtain ⟨bl, off, rfl, hcc⟩ := hl2 (by intro e; subst e; simp at hk)
    have hbl : bl < w.heap.size := World.block_lt_of_cell? _ _ (hcc k hk).1
    exact ⟨bl, off, l[k], rfl, List.drop_eq_getElem_cons hk, hok _ (List.getElem_mem hk), (hW.cell (p := ⟨bl, off + k * 2, none⟩) hbl).trans (hcc k hk).1, (hW.cell (p := ⟨bl, off + k * 2 + 1, none⟩) hbl).trans (hcc k hk).2⟩
  have FIN : Hid (∀ (W : World) (SV : Value) (us : List Value) (xs : List V), Below w.heap.size w W → W.ownsRow (w.heap.size + 1) 30 1 SV us.length us → us.length = xs.length → (∀ j (hj : j < us.length) (hk : j < xs.length), Rep w (fun b => ok b ∧ b < w.heap.size) us[j] xs[j]) → ∃ a' c', SV = .slice a' xs.length c' ∧ RRow W ok a' xs ∧ SliceOk a' xs.length c') := fun W SV us xs hW ho hl hin => by
    obtain ⟨a', c', rfl, hc, hs, -⟩ := own_crow ho (ok := ok) (fun b hb => hk b (by omega))
    refine ⟨a', c', by rw [hl], RRow.of_vals hc hl (fun j hj hk => ((hin j hj hk).agree (w' := W) (fun b h1 _ => hW.block b h1.2)).mono (fun b h1 _ => h1.1)), by rw [← hl]; exact hs⟩
  have HR : Hid (V.wayFrom [] v l = R) := hR
  have hs0 : ((w.alloc (.cells #[h] 30)).alloc (.cells #[h] 30)).heap[w.heap.size]? = some (.cells #[h] 30 (0, 0)) := by rw [Below.heap_alloc _ _ _ (by simp)]; exact heap_alloc_new _ _
  have hB0 : Below w.heap.size w ((w.alloc (.cells #[h] 30)).alloc (.cells #[h] 30)) := ((Below.refl _ _).alloc (Nat.le_refl _) _).alloc (by simp) _
  have ho0 : ((w.alloc (.cells #[h] 30)).alloc (.cells #[h] 30)).ownsRow (w.heap.size + 1) 30 1 (.slice (some ⟨w.heap.size + 1, 0, none⟩) 1 1) 1 [h] := by
    have := World.ownsRow_lit (e := 30) (size := 1) (w.alloc (.cells #[h] 30)) #[h] 1 (show w.heap.size + 1 ≤ _ by simp) (by simp [maxLen]) rfl
    simpa using this
  clear hl2 hok hR hk
  go_enter Try.func50, Try.ntmps50
  go_wp2_with fail
  go_loopw [6, 15] (fun sv si wr => ∃ (k : Nat) (SV : Value) (u : Value) (x : V) (acc : List V) (us : List Value), k ≤ l.length ∧ si = .int .i64 k ∧ SV = sv ∧ wr.heap[w.heap.size]? = some (.cells #[u] 30 (0, 0)) ∧ Below w.heap.size w wr ∧ Rep w (fun b => ok b ∧ b < w.heap.size) u x ∧ wr.ownsRow (w.heap.size + 1) 30 1 SV us.length us ∧ us.length = k + 1 ∧ acc.length = k ∧ (∀ j (hj : j < us.length) (hk : j < (acc ++ [x]).length), Rep w (fun b => ok b ∧ b < w.heap.size) us[j] (acc ++ [x])[j]) ∧ Hid (V.wayFrom acc x (l.drop k) = R)) (fun _ si _ => l.length - (intOf si).toNat)
  case atStart => exact ⟨0, _, h, v, [], [h], by omega, rfl, rfl, hs0, hB0, hr0, ho0, rfl, rfl, (fun j hj hk => by
    have : j = 0 := by simp at hj; omega
    subst this; exact hr0), HR⟩
  case round =>
    obtain ⟨k, SV, u, x, acc, us, hkl, rfl, rfl, h0, hb, hrep, ho, hul, hal, hin, hid⟩ := hrel
    have z0 := cell_of_row _ _ 0 _ _ _ h0
    have f0 := frozen_of_row _ _ 0 _ _ h0
    clear hs0 hr0 HR hone hB0 ho0
    by_cases hlt : k < l.length
    · obtain ⟨bl, off, s, rfl, hdr, hso, cx, cy⟩ := HC.out _ k hb hlt
      have HD : Hid (l.drop k = s :: l.drop (k + 1)) := hdr
      have C := CF.out
      have l0 := (Array.getElem?_eq_some_iff.1 h0).1
      clear hdr CF HC FIN
      have HG : Hid (V.wayFrom acc x (s :: l.drop (k + 1)) = R) := by rw [← HD.out]; exact hid.out
      clear HD hid
      go_wp2_with fail
      refine (C _ u x s (by exact hb.alloc hb.size _) hrep hso).mono ?_
      rintro e w2 ⟨u', rfl, hu, hrep2, hb2⟩
      have hs2 := hb2.size
      simp only [World.size_alloc] at hs2
      have hbA : Below wr.heap.size wr w2 := ((Below.refl wr.heap.size wr).alloc (Nat.le_refl _) (.cells #[.string s.key, .int .i64 s.at_] 42)).trans (hb2.mono (by simp))
      have st := store_new 30 u' .nilIface hu w2
      have hB3 : Below wr.heap.size wr (w2.alloc (.cells #[u'] 30)) := hbA.alloc hbA.size _
      have h03 := (hB3.block w.heap.size l0).trans h0
      have hn3 := heap_alloc_new w2 (.cells #[u'] 30)
      have hc3 := cell_of_row _ _ 0 _ _ _ hn3
      have ho3 := cown_below ho hB3
      have hBB3 := hb.trans (hB3.mono hb.size)
      have hs3 : Hid (wr.heap.size < w2.heap.size) := hs2
      have hs4 := hb.size
      have hol : Hid (∀ k, SV.ownBlock = some k → k < wr.heap.size) := fun k hk => (ho.lt k hk).2
      clear z0 f0 h0 hb2 C cx cy hbA hB3 ho hb
      by_cases hE : (x.follow s).2 = 0
      · have HG2 : Hid (V.wayFrom (acc ++ [x]) (x.follow s).1 (l.drop (k + 1)) = R) := by
          have := HG.out
          rw [V.wayFrom, if_pos hE] at this
          exact this
        clear HG
        generalize (x.follow s).1 = X at *
        generalize (x.follow s).2 = EE at *
        subst hE
        have ho4 := ho3.alloc (.cells #[u'] 30)
        have hcr : CRow ((w2.alloc (.cells #[u'] 30)).alloc (.cells #[u'] 30)) (fun _ => True) (some ⟨(w2.alloc (.cells #[u'] 30)).heap.size, 0, none⟩) [u'] := fun _ => ⟨(w2.alloc (.cells #[u'] 30)).heap.size, 0, rfl, trivial, fun i y hi => by
          rw [cell_of_row _ _ _ _ _ _ (heap_alloc_new (w2.alloc (.cells #[u'] 30)) _)]
          simpa using hi⟩
        simp only [World.size_alloc] at hcr
        have WS : Hid (∀ w6, ((w2.alloc (.cells #[u'] 30)).alloc (.cells #[u'] 30)).grownBy w6 SV.ownBlock → w6.heap[w.heap.size]? = some (.cells #[u] 30 (0, 0)) ∧ w6.heap[w2.heap.size]? = some (.cells #[u'] 30 (0, 0)) ∧ Below w.heap.size w w6) := fun w6 hg => by
          have hX : Below (w.heap.size + 1) ((w2.alloc (.cells #[u'] 30)).alloc (.cells #[u'] 30)) w6 := (Below.refl _ _).grown hg (by simp; omega) (fun k hk => (ho4.lt k hk).1)
          refine ⟨?_, ?_, (hBB3.alloc hBB3.size _).trans (hX.mono (by omega))⟩
          · rw [hX.block _ (by omega), Below.heap_alloc _ _ _ (by simp; omega)]; exact h03
          · rw [hg.block _ (by simp; omega) (fun e => by have := hol.out _ e.symm; have := hs3.out; omega), Below.heap_alloc _ _ _ (by simp)]; exact hn3
        clear hBB3 h03 hn3 ho3
        go_wp2_with (at_builtin; go_must (refine wpList_append_any rfl (.tmp 28) (.tmp 30) 57 30 _ _ Try.underlying57 infoVal rfl (by decide) rfl (w.heap.size + 1) SV us.length us rfl ho4 (some ⟨w2.heap.size + 1, 0, none⟩) [u'] 1 1 rfl rfl hcr (by intro e; cases e) (by simpa using hu) (by omega) (by simp; omega) ?_; intro v6 w6 hown6 hgrow6; obtain ⟨i0, i1, i2⟩ := WS.out _ hgrow6; have c1 := cell_of_row _ _ 0 _ _ _ i1; have st2 := store_old u' u hu _ _ (cell_of_row _ _ 0 _ _ _ i0) (frozen_of_row _ _ 0 _ _ i0); clear hgrow6))
        have i3 := heap_setCell_same _ _ 0 _ _ u' i0
        have i4 := i2.setCell (p := ⟨w.heap.size, 0, none⟩) (Nat.le_refl _) u'
        go_roundw
        case rel =>
          refine ⟨k + 1, v6, u', X, acc ++ [x], us ++ [u'], by omega, by go_num, rfl, i3, i4, hrep2, ?_, by simp [hul], by simp [hal], ?_, HG2⟩
          · have := ownsRow_setCell_below hown6 (a := ⟨w.heap.size, 0, none⟩) (by simp) u'
            simpa using this
          · intro j hj hk
            by_cases h1 : j < us.length
            · rw [List.getElem_append_left h1, List.getElem_append_left (by simp at *; omega)]
              exact hin j h1 _
            · obtain rfl : j = us.length := by simp at hj; omega
              rw [List.getElem_append_right (Nat.le_refl _), List.getElem_append_right (by simp; omega)]
              simpa using hrep2
        case measure => simp [intOf]; omega
      · have HG2 : Hid (R = ([], (x.follow s).2)) := by
          have := HG.out
          rw [V.wayFrom, if_neg hE] at this
          exact this.symm
        clear HG
        generalize (x.follow s).2 = EE at *
        have hE' : (EE == 0) = false := by simpa using hE
        go_wp2_with fail
        go_ret2
        refine ⟨none, 0, by rw [HG2.out]; rfl, ?_, by rw [HG2.out]; exact ⟨fun _ => ⟨rfl, rfl⟩, Nat.le_refl _, by simp [maxLen]⟩, hBB3⟩
        rw [HG2.out]
        exact ⟨fun _ => undef, fun h => by simp at h, fun j hj => by simp at hj⟩
    · obtain rfl : k = l.length := by omega
      have HG2 : Hid (R = (acc ++ [x], 0)) := by
        have := hid.out
        rw [List.drop_length] at this
        exact this.symm
      obtain ⟨a', c', rfl, hrr, hss⟩ := FIN.out wr SV us (acc ++ [x]) hb ho (by simp; omega) hin
      clear hid HC CF h0 FIN
      go_wp2_with fail
      go_ret2
      exact ⟨a', c', by rw [HG2.out]; rfl, by rw [HG2.out]; exact hrr, by rw [HG2.out]; exact hss, hb⟩
end Go.Proofs.Ytigdcnoggjcddaa

namespace Go.Proofs.Ytigdcnoggjcddaa
open Go.RowKit

set_option maxRecDepth 100000 in
theorem wayFrom_acc : ∀ (l : List St) (acc : List V) (v : V), (V.wayFrom acc v l).2 = (V.wayFrom [] v l).2 ∧ ((V.wayFrom acc v l).2 = 0 → (V.wayFrom acc v l).1 = acc ++ (V.wayFrom [] v l).1)
  | [], acc, v => ⟨rfl, fun _ => rfl⟩
  | s :: r, acc, v => by
    simp only [V.wayFrom]
    by_cases h : (v.follow s).2 = 0
    · simp only [h, if_true]
      obtain ⟨a1, a2⟩ := wayFrom_acc r (acc ++ [v]) (v.follow s).1
      obtain ⟨b1, b2⟩ := wayFrom_acc r ([] ++ [v]) (v.follow s).1
      refine ⟨by rw [a1, b1], fun h0 => ?_⟩
      rw [a2 h0, b2 (by rw [b1, ← a1]; exact h0)]
      simp
    · simp only [h, if_false]
      exact ⟨trivial, fun h0 => h0.elim⟩
set_option maxRecDepth 100000 in
/-- The values on a way that leads somewhere. -/
theorem wayFrom_ok : ∀ (r : List St) (v : V), (V.wayFrom [] v r).2 = 0 → ((V.wayFrom [] v r).1.length = r.length + 1 ∧ (V.wayFrom [] v r).1[0]? = some v ∧ ∀ j (hj : j < r.length), ∃ y z, (V.wayFrom [] v r).1[j]? = some y ∧ (V.wayFrom [] v r).1[j + 1]? = some z ∧ y.follow r[j] = (z, 0))
  | [], v, _ => ⟨rfl, rfl, fun j hj => by simp at hj⟩
  | s :: r, v, h => by
    simp only [V.wayFrom] at h ⊢
    by_cases h0 : (v.follow s).2 = 0
    · simp only [h0, if_true] at h ⊢
      obtain ⟨b1, b2⟩ := wayFrom_acc r ([] ++ [v]) (v.follow s).1
      rw [b2 h]
      rw [b1] at h
      obtain ⟨c1, c2, c3⟩ := wayFrom_ok r (v.follow s).1 h
      refine ⟨by simp [c1], by simp, fun j hj => ?_⟩
      cases j with
      | zero => exact ⟨v, (v.follow s).1, by simp, by simpa using c2, by rw [List.getElem_cons_zero]; exact Prod.ext rfl h0⟩
      | succ j =>
        obtain ⟨y, z, d1, d2, d3⟩ := c3 j (by simpa using hj)
        exact ⟨y, z, by simpa using d1, by simpa using d2, by simpa using d3⟩
    · simp only [h0, if_false] at h
set_option maxRecDepth 100000 in
theorem withR_err {x : V} : ∀ (l : List St) (v : V), l ≠ [] → (V.wayFrom [] v l.dropLast).2 ≠ 0 → v.withR x l = (V.null, (V.wayFrom [] v l.dropLast).2)
  | [], v, h, _ => absurd rfl h
  | [s], v, _, h => absurd rfl h
  | s :: t :: r, v, _, h => by
    rw [List.dropLast_cons_of_ne_nil (by simp)] at h ⊢
    simp only [V.wayFrom] at h ⊢
    rw [V.withR, if_neg (by simp)]
    by_cases h0 : (v.follow s).2 = 0
    · simp only [h0, if_true] at h ⊢
      obtain ⟨b1, -⟩ := wayFrom_acc (t :: r).dropLast ([] ++ [v]) (v.follow s).1
      rw [b1] at h ⊢
      have ih := withR_err (x := x) (t :: r) (v.follow s).1 (by simp) h
      rw [ih]
      simp only [h, if_false]
    · simp only [h0, if_false]
set_option maxRecDepth 100000 in
theorem put_err {v x : V} {s : St} (h : (v.put x s).2 ≠ 0) : v.put x s = (V.null, (v.put x s).2) := by
  unfold V.put at *
  split at h <;> rename_i h1
  · rw [if_pos h1]
    split at h <;> rename_i h2
    · exact absurd rfl h
    · rw [if_neg h2]
  · rw [if_neg h1]
    split at h <;> rename_i h2
    · rw [if_pos h2]
      split at h <;> rename_i h3
      · exact absurd rfl h
      · rw [if_neg h3]
    · rw [if_neg h2]
/-- What is there, from a step on. -/
def partR (xs : List V) (x : V) (l : List St) (k : Nat) : V × Int := if k < l.length then (xs[k]?.getD V.null).withR x (l.drop k) else (x, 0)
/-- The values on a way, and its steps but the last one. -/
def OnWay (xs : List V) (v : V) (l : List St) : Prop := xs.length = l.length ∧ xs[0]? = some v ∧ ∀ j (hj : j + 1 < l.length), ∃ y z, xs[j]? = some y ∧ xs[j + 1]? = some z ∧ y.follow l[j] = (z, 0)
set_option maxRecDepth 100000 in
theorem onWay_of {v : V} {l : List St} (hl : l ≠ []) (h : (V.wayFrom [] v l.dropLast).2 = 0) : OnWay (V.wayFrom [] v l.dropLast).1 v l := by
  obtain ⟨h1, h2, h3⟩ := wayFrom_ok _ _ h
  have h0 : 0 < l.length := List.length_pos_iff.2 hl
  rw [List.length_dropLast] at h1
  refine ⟨by omega, h2, fun j hj => ?_⟩
  obtain ⟨y, z, a, b, c⟩ := h3 j (by rw [List.length_dropLast]; omega)
  rw [List.getElem_dropLast] at c
  exact ⟨y, z, a, b, c⟩
set_option maxRecDepth 100000 in
theorem partR_step {xs : List V} {v x : V} {l : List St} (hw : OnWay xs v l) {k : Nat} (hk : k < l.length) {Y : V} (h : partR xs x l (k + 1) = (Y, 0)) : partR xs x l k = (xs[k]?.getD V.null).put Y l[k] := by
  unfold partR at *
  rw [if_pos hk, List.drop_eq_getElem_cons hk, V.withR]
  by_cases h1 : k + 1 < l.length
  · rw [if_pos h1] at h
    obtain ⟨y, z, a, b, c⟩ := hw.2.2 k h1
    rw [b] at h
    simp only [Option.getD_some] at h
    rw [if_neg (by simp; omega), a]
    simp only [Option.getD_some, c, h, if_true]
  · rw [if_neg h1] at h
    injection h with h _
    rw [if_pos (by simp; omega), h]
set_option maxRecDepth 100000 in
theorem partR_err {xs : List V} {v x : V} {l : List St} (hw : OnWay xs v l) : ∀ k, k ≤ l.length → l ≠ [] → (partR xs x l k).2 ≠ 0 → v.withR x l = (V.null, (partR xs x l k).2)
  | 0, _, hl, h => by
    have h0 : 0 < l.length := List.length_pos_iff.2 hl
    unfold partR at h ⊢
    rw [if_pos h0, hw.2.1] at h ⊢
    simp only [Option.getD_some, List.drop_zero] at h ⊢
    cases l with
    | nil => exact absurd rfl hl
    | cons s r =>
      rw [V.withR] at h ⊢
      split at h <;> rename_i h1
      · rw [if_pos h1]; exact put_err h
      · rw [if_neg h1]
        split at h <;> rename_i h2
        · rw [if_pos h2]
          split at h <;> rename_i h3
          · rw [if_pos h3]; exact put_err h
          · rw [if_neg h3]
        · rw [if_neg h2]
  | k + 1, hk, hl, h => by
    by_cases h1 : k + 1 < l.length
    · obtain ⟨y, z, a, b, c⟩ := hw.2.2 k h1
      have e : partR xs x l k = (V.null, (partR xs x l (k + 1)).2) := by
        unfold partR at h ⊢
        rw [if_pos h1, b] at h ⊢
        rw [if_pos (by omega), List.drop_eq_getElem_cons (by omega : k < l.length), V.withR, if_neg (by simp; omega), a]
        simp only [Option.getD_some] at h ⊢
        simp only [c, if_true, h, if_false]
      rw [partR_err hw k (by omega) hl (by rw [e]; exact h), e]
    · unfold partR at h
      rw [if_neg h1] at h
      exact absurd rfl h
set_option maxRecDepth 100000 in
theorem partR_zero {xs : List V} {v x : V} {l : List St} (hw : OnWay xs v l) (hl : l ≠ []) : partR xs x l 0 = v.withR x l := by
  unfold partR
  rw [if_pos (List.length_pos_iff.2 hl), hw.2.1]; rfl
set_option maxRecDepth 100000 in
theorem partR_end (xs : List V) (x : V) (l : List St) : partR xs x l l.length = (x, 0) := by
  unfold partR; rw [if_neg (by omega)]
set_option maxRecDepth 100000 in
theorem bulkL_set (l : List V) (i : Nat) (y x : V) (h : l[i]? = some y) : V.bulk.go (l.set i x) + y.bulk = V.bulk.go l + x.bulk := by
  obtain ⟨hi, rfl⟩ := List.getElem?_eq_some_iff.1 h
  have e : l = l.take i ++ l[i] :: l.drop (i + 1) := by rw [← List.drop_eq_getElem_cons hi, List.take_append_drop]
  have h1 : V.bulk.go l = V.bulk.go (l.take i) + (l[i].bulk + V.bulk.go (l.drop (i + 1))) := by
    conv => lhs; rw [e]
    rw [bulkL_append, V.bulk.go]
  rw [List.set_eq_take_append_cons_drop, if_pos hi, bulkL_append, V.bulk.go]
  omega
set_option maxRecDepth 100000 in
theorem bulk_goL (v : V) : V.bulk.go v.l + sumK v.keys + 1 ≤ v.bulk := by
  obtain ⟨k, b, n, m, s, l, q⟩ := v
  simp only [V.bulk, sumK]; omega
set_option maxRecDepth 100000 in
theorem bulk_map (l : List V) (q : List ByteArray) : (V.map l q).bulk = 1 + V.bulk.go l + sumK q := by
  have e0 : ByteArray.empty.size = 0 := rfl
  simp [V.map, V.bulk, sumK, e0]
set_option maxRecDepth 100000 in
theorem bulk_list (l : List V) : (V.list l).bulk = 1 + V.bulk.go l := by
  have e0 : ByteArray.empty.size = 0 := rfl
  simp [V.list, V.bulk, e0]
set_option maxRecDepth 100000 in
theorem bulk_null : V.null.bulk = 1 := by
  have e0 : ByteArray.empty.size = 0 := rfl
  simp [V.null, V.bulk, V.bulk.go, e0]
set_option maxRecDepth 100000 in
theorem put_bulk (v y : V) (s : St) : (v.put y s).1.bulk ≤ v.bulk + y.bulk + (1 + s.key.size) := by
  have h1 := v.bulk_pos
  have h2 := bulk_goL v
  by_cases h0 : (v.put y s).2 = 0
  · cases hb : s.byKey
    · obtain ⟨hk, hi⟩ := (put_kind h0).2 hb
      rw [put_list hb hk, if_pos hi]
      have := putAt_bulk v.l s.at_.toNat y
      simp only [bulk_list]; omega
    · have hk := (put_kind h0).1 hb
      rw [put_map hb hk]
      simp only
      unfold mapPut
      split
      · have := putAt_bulk v.l (posK v.keys s.key) y
        rw [bulk_map]; omega
      · rw [bulk_map, ins_bulk]
        have h3 : sumK (v.keys.take (below s.key v.keys) ++ s.key :: v.keys.drop (below s.key v.keys)) = sumK v.keys + (1 + s.key.size) := by
          have h4 := sumK_append (v.keys.take (below s.key v.keys)) (v.keys.drop (below s.key v.keys))
          rw [List.take_append_drop] at h4
          rw [sumK_append]
          have e : ∀ r : List ByteArray, sumK (s.key :: r) = 1 + s.key.size + sumK r := fun r => by simp [sumK]
          rw [e]; omega
        omega
  · rw [put_err h0]
    simp only [bulk_null]; omega
set_option maxRecDepth 100000 in
theorem put_bulk2 {v : V} (h : v.cl) (y : V) (s : St) (hf : (v.follow s).2 = 0) : (v.put y s).1.bulk + (v.follow s).1.bulk ≤ v.bulk + y.bulk := by
  have h2 := bulk_goL v
  cases hb : s.byKey
  · obtain ⟨hk, hi⟩ := (follow_kind hf).2 hb
    have hp := byKey_at hb
    have hlt : s.at_.toNat < v.l.length := by omega
    rw [put_list hb hk, if_pos (by omega), follow_list hb hk, if_pos hi]
    have h3 := bulkL_set v.l s.at_.toNat _ y (List.getElem?_eq_getElem hlt)
    have e : v.item s.at_ = v.l[s.at_.toNat] := by unfold V.item; rw [List.getElem?_eq_getElem hlt]; rfl
    simp only [bulk_list, e, putAt, if_pos hlt]; omega
  · have hk := (follow_kind hf).1 hb
    obtain ⟨hv, hl, hr, -⟩ := cl_map h hk
    have hh : v.hasK s.key = true := by
      rw [follow_map hb hk] at hf
      by_cases h3 : v.hasK s.key = true
      · exact h3
      · rw [if_neg h3] at hf; cases hf
    have hm := (hasK_mem v s.key).1 hh
    have hp := posK_lt hm
    have hlt : posK v.keys s.key < v.l.length := by omega
    rw [put_map hb hk, follow_map hb hk, if_pos hh]
    have h3 := bulkL_set v.l (posK v.keys s.key) _ y (List.getElem?_eq_getElem hlt)
    have e : v.under s.key = v.l[posK v.keys s.key] := by rw [under_yes hh, List.getElem?_eq_getElem hlt]; rfl
    simp only
    unfold mapPut
    rw [if_pos (show (V.mk 7 false 0 0 ByteArray.empty v.l v.keys).hasK s.key = true from hh), bulk_map, e]
    simp only [putAt, if_pos hlt]; omega
set_option maxRecDepth 100000 in
theorem follow_bulk {v : V} (h : v.cl) (s : St) : (v.follow s).1.bulk ≤ v.bulk := by
  by_cases hf : (v.follow s).2 = 0
  · have h1 := put_bulk2 h V.null s hf
    have h2 := (v.put V.null s).1.bulk_pos
    rw [bulk_null] at h1
    omega
  · rw [follow_err hf, bulk_null]; exact v.bulk_pos
set_option maxRecDepth 100000 in
theorem onWay_all {xs : List V} {v : V} {l : List St} (hw : OnWay xs v l) (hv : v.cl) : ∀ (k : Nat) (y : V), xs[k]? = some y → y.cl ∧ y.bulk ≤ v.bulk
  | 0, y, h => by
    rw [hw.2.1] at h; injection h with h; subst h; exact ⟨hv, Nat.le_refl _⟩
  | k + 1, y, h => by
    have hlt := (List.getElem?_eq_some_iff.1 h).1
    obtain ⟨a, z, h1, h2, h3⟩ := hw.2.2 k (by have := hw.1; omega)
    rw [h] at h2; injection h2 with h2; subst h2
    obtain ⟨c1, c2⟩ := onWay_all hw hv k a h1
    have hkl : k < l.length := by have := hw.1; omega
    have e : y = (a.follow l[k]).1 := by rw [h3]
    rw [e]
    exact ⟨follow_cl c1 _, Nat.le_trans (follow_bulk c1 _) c2⟩
set_option maxRecDepth 100000 in
/-- What is put in, one step further back, is no greater. -/
theorem part_bulk {xs : List V} {v x : V} {l : List St} (hw : OnWay xs v l) (hv : v.cl) {K : Nat} (hK : ∀ s ∈ l, 1 + s.key.size ≤ K) {k : Nat} (hk : k < l.length) {Y : V} (hY : Y.bulk ≤ (xs[k + 1]?.getD V.null).bulk + (x.bulk + K)) (hz : k + 1 = l.length → Y = x) : ((xs[k]?.getD V.null).put Y l[k]).1.bulk ≤ (xs[k]?.getD V.null).bulk + (x.bulk + K) := by
  have hkx : k < xs.length := by have := hw.1; omega
  obtain ⟨hc, hb⟩ := onWay_all hw hv k _ (List.getElem?_eq_getElem hkx)
  by_cases h1 : k + 1 < l.length
  · obtain ⟨y, z, a, b, c⟩ := hw.2.2 k h1
    rw [List.getElem?_eq_getElem hkx] at a ⊢
    injection a with a
    rw [b] at hY
    simp only [Option.getD_some] at hY ⊢
    have h2 := put_bulk2 hc Y l[k] (by rw [a, c])
    rw [a] at h2 ⊢
    rw [c] at h2
    simp only at h2
    omega
  · have e := hz (by omega)
    subst e
    rw [List.getElem?_eq_getElem hkx]
    simp only [Option.getD_some]
    have h2 := put_bulk xs[k] Y l[k]
    have h3 := hK l[k] (List.getElem_mem hk)
    omega
end Go.Proofs.Ytigdcnoggjcddaa

