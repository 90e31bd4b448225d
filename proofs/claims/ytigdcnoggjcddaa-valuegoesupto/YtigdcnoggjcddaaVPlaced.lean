/- placed: new memory of values, with another one at a place. Condition: at most 1048576 of them. -/
import Derived.Test.YtigdcnoggjcddaaVCopy
import Derived.Test.YtigdcnoggjcddaaVPlaces
import Derived.Test.YtigdcnoggjcddaaVMap
namespace Go.Proofs.Ytigdcnoggjcddaa
open Go.RowKit Go.Maps

/-- A list with another one at a place, which may be the one behind the last. -/
def putAt {α : Type} (l : List α) (i : Nat) (x : α) : List α := if i < l.length then l.set i x else l ++ [x]
set_option maxRecDepth 100000 in
theorem putAt_len {α : Type} (l : List α) (i : Nat) (x : α) : (putAt l i x).length = if i < l.length then l.length else l.length + 1 := by
  unfold putAt; split <;> simp
set_option maxRecDepth 100000 in
theorem sizeVal1 : (Try.prog.info? 30).map (·.size) = some 1 := by kernel_rfl
set_option maxRecDepth 100000 in
/-- copy of a slice's values into new memory. -/
theorem copy_new (W : World) (g N : Nat) (Z : List Value) (hg : W.heap[g]? = some (.cells Z.toArray 30 (0, 0))) (hZ : Z.length = N) {ok : Nat → Prop} (ao : Option Addr) (us : List Value) (c : Nat) (hrow : CRow W ok ao us) (hno : ao = none → us.length = 0) (h1 : ∀ v ∈ us, v.oneCell' = true) (hN : us.length ≤ N) (dc : Nat) :
    ∃ W', (Builtin.copy_ #[57, 57] 3 #[.slice (some ⟨g, 0, none⟩) N dc, .slice ao us.length c]).run Try.prog W = .ok (goInt us.length) W' ∧ W'.heap[g]? = some (.cells (us ++ Z.drop us.length).toArray 30 (0, 0)) ∧ (∀ k, k ≠ g → W'.heap[k]? = W.heap[k]?) ∧ ∀ X w0, X ≤ g → Below X w0 W → Below X w0 W' := by
  by_cases h0 : us = []
  · subst h0
    exact ⟨W, run_copy_none (P := Try.prog) W 57 57 3 30 (some ⟨g, 0, none⟩) ao N dc 0 c Try.underlying57 sizeVal1 (by simp), by simpa using hg, fun _ _ => rfl, fun _ _ _ h => h⟩
  · obtain ⟨b, off, rfl, -, hc⟩ := hrow h0
    obtain ⟨W', h2, h3, h4, -, h5⟩ := copy_run W 57 30 3 Try.underlying57 sizeVal1 g 0 N dc ⟨b, off, none⟩ us.length c Z 30 us hg (by simp only [Nat.min_def]; split <;> omega) (fun j v hj => by rw [Addr.add_lit]; exact hc j v hj) (by omega) h1
    refine ⟨W', h2, ?_, h4, h5⟩
    simpa [splice] using h3
set_option maxRecDepth 100000 in
theorem made_list (n : Nat) : ∃ Z : List Value, madeCells #[.nilIface] n = Z.toArray ∧ Z.length = n :=
  ⟨(madeCells #[.nilIface] n).toList, by simp, by simp [madeCells]⟩
set_option maxRecDepth 100000 in
set_option maxHeartbeats 1600000 in
theorem placed_any {w : World} {ok : Nat → Prop} (hk : ∀ b, w.heap.size ≤ b → ok b) {ao : Option Addr} {l : List V} (c : Nat) (hr : RRow w ok ao l) (hok : SliceOk ao l.length c) (hn : l.length ≤ 1048576) {i : Nat} (hi : i ≤ l.length) {u : Value} {x : V} (hu : Rep w ok u x) :
    Calls Try.prog 89 #[.slice ao l.length c, .int .i64 (i : Nat), .agg #[u]] w fun e w' => ∃ a' c', e = .returned (.slice a' (putAt l i x).length c') ∧ RRow w' ok a' (putAt l i x) ∧ SliceOk a' (putAt l i x).length c' ∧ Below w.heap.size w w' := by
  obtain ⟨H, hrow, hin⟩ := hr
  have h1 := one_map hin
  have hone := hu.one
  obtain ⟨N, hN⟩ : ∃ N, N = (putAt l i x).length := ⟨_, rfl⟩
  have hNl := putAt_len l i x
  rw [← hN] at hNl ⊢
  have hNn : l.length ≤ N ∧ i < N ∧ N ≤ 1048577 := by split at hNl <;> omega
  obtain ⟨Z, hZ1, hZ2⟩ := made_list N
  have hm := run_makeV N hNn.2.2 (w.alloc (.cells #[u] 30))
  rw [hZ1] at hm
  have hb1 : Below w.heap.size w ((w.alloc (.cells #[u] 30)).alloc (.cells Z.toArray 30)) := ((Below.refl _ _).alloc (Nat.le_refl _) _).alloc (by simp) _
  have hg1 : ((w.alloc (.cells #[u] 30)).alloc (.cells Z.toArray 30)).heap[w.heap.size + 1]? = some (.cells Z.toArray 30 (0, 0)) := by simpa using heap_alloc_new (w.alloc (.cells #[u] 30)) (.cells Z.toArray 30)
  have hu1 : ((w.alloc (.cells #[u] 30)).alloc (.cells Z.toArray 30)).heap[w.heap.size]? = some (.cells #[u] 30 (0, 0)) := (Below.heap_alloc _ _ _ (by simp)).trans (heap_alloc_new w _)
  simp only [World.size_alloc] at hm
  generalize (w.alloc (.cells #[u] 30)).alloc (.cells Z.toArray 30) = W1 at *
  have hul : ((List.range l.length).map H).length = l.length := by simp
  obtain ⟨W2, hr2, hg2, ho2, hb2⟩ := copy_new W1 (w.heap.size + 1) N Z hg1 hZ2 ao ((List.range l.length).map H) c (hrow.crow.below hb1) (fun e => by rw [hul]; exact (hok.1 e).1) h1 (by rw [hul]; exact hNn.1) N
  rw [hul] at hr2 hg2
  have hB2 := hb2 w.heap.size w (by omega) hb1
  have hu2 := (ho2 w.heap.size (by omega)).trans hu1
  have cu := cell_of_row _ _ 0 _ _ _ hu2
  simp only [List.getElem?_cons_zero, List.getElem?_toArray] at cu
  have hlen2 : (((List.range l.length).map H) ++ Z.drop l.length).length = N := by rw [List.length_append, hul, List.length_drop, hZ2]; omega
  have ci : ∃ y, W2.cell? ⟨w.heap.size + 1, i, none⟩ = some y := by
    rw [cell_of_row _ _ _ _ _ _ hg2]
    exact ⟨_, by rw [List.getElem?_toArray, List.getElem?_eq_getElem (by rw [hlen2]; exact hNn.2.1)]⟩
  obtain ⟨y, ci⟩ := ci
  have st := store_old u y hone W2 ⟨w.heap.size + 1, i, none⟩ ci (frozen_of_row _ _ _ _ _ hg2)
  have hg3 := heap_setCell_same W2 (w.heap.size + 1) i _ _ u hg2
  have hB3 : Below w.heap.size w (W2.setCell ⟨w.heap.size + 1, i, none⟩ u) := hB2.setCell (by simp) _
  have HR : Hid (RRow (W2.setCell ⟨w.heap.size + 1, i, none⟩ u) ok (some ⟨w.heap.size + 1, 0, none⟩) (putAt l i x)) := by
    refine ⟨fun j => if j = i then u else H j, fun _ => ⟨w.heap.size + 1, 0, rfl, hk _ (by omega), fun j hj => ?_⟩, fun j hj => ?_⟩
    · rw [← hN] at hj
      rw [cell_of_row _ _ _ _ _ _ hg3, Nat.zero_add]
      by_cases hji : j = i
      · subst hji
        simp [hlen2, hj]
      · have hjl : j < l.length := by split at hNl <;> omega
        simp only [hji, if_false]
        rw [List.setIfInBounds_toArray, List.getElem?_toArray, List.getElem?_set_ne (Ne.symm hji), List.getElem?_append_left (by simpa using hjl)]
        simp [hjl]
    · by_cases hji : j = i
      · subst hji
        have e1 : (putAt l j x)[j] = x := by
          unfold putAt
          split
          · simp
          · have : j = l.length := by omega
            subst this; simp
        simp only [if_true, e1]
        exact hu.stays hB3
      · rw [← hN] at hj
        have hjl : j < l.length := by split at hNl <;> omega
        have e1 : (putAt l i x)[j] = l[j] := by
          unfold putAt
          split
          · simp [Ne.symm hji]
          · simp [hjl]
        simp only [hji, if_false, e1]
        exact (hin j hjl).stays hB3
  have hiN : (i : Int) < (N : Int) := by omega
  have hsl : SliceOk (some ⟨w.heap.size + 1, 0, none⟩) N N := ⟨(fun e => by cases e), Nat.le_refl _, by unfold maxLen; omega⟩
  have hw : IntKind.i64.wrap ((i : Int) + 1) = (i : Int) + 1 := IntWalk.i64_in _ (by omega)
  have hmx : max (l.length : Int) ((i : Int) + 1) = (N : Int) := by split at hNl <;> omega
  clear hNl hN hNn hrow hin h1 hone hb1 hg1 hu1 hg2 ho2 hb2 hB2 hu2 hlen2 hg3 hul hZ1 hZ2
  go_enter Try.func89, Try.ntmps89
  go_wp2_with (at_builtin; refine wpList_copy_any rfl _ _ 57 rfl _ _ rfl rfl hr2 ?_)
  go_ret
  exact ⟨_, _, rfl, HR.out, hsl, hB3⟩
end Go.Proofs.Ytigdcnoggjcddaa

