/- The law's awake, layer 4: the document's example. No conditions. -/
import Derived.Test.YtigdcnoggjcddaaVGoTo
import Derived.Deep.CutRange
namespace Go.Proofs.Ytigdcnoggjcddaa
open Go.RowKit Go.Maps Go.WideMaps

def keyA : ByteArray := ⟨#[97]⟩
def vOne : V := .mk 3 false 1 0 ByteArray.empty [] []
def vEx : V := V.map [V.list [vOne]] [keyA]
set_option maxRecDepth 100000 in
theorem ex_pick : V.map (pick [keyA] [V.list [vOne]]) (sortK [keyA]) = vEx := by
  have h : sortK [keyA] = [keyA] := by
    have := sortK_perm [keyA]
    exact List.perm_singleton.1 this
  unfold vEx pick
  rw [h]
  have hp : posK [keyA] keyA = 0 := by simp [posK]
  simp [hp]

set_option maxRecDepth 100000 in
theorem byKey_empty : St.byKey ⟨ByteArray.empty, 0⟩ = false := by simp [St.byKey]
set_option maxRecDepth 100000 in
theorem ex_go : vEx.goTo [⟨keyA, -1⟩, ⟨ByteArray.empty, 0⟩] = (vOne, 0) := by
  have hp : posK [keyA] keyA = 0 := by simp [posK]
  have h1 : vEx.follow ⟨keyA, -1⟩ = (V.list [vOne], 0) := by
    have hb : St.byKey ⟨keyA, -1⟩ = true := by simp [St.byKey]
    have := follow_k7 [V.list [vOne]] [keyA] ⟨keyA, -1⟩ hb
    rw [show vEx = V.mk 7 false 0 0 ByteArray.empty [V.list [vOne]] [keyA] from rfl, this]
    simp [V.hasK, V.under, hp]
  have h2 : (V.list [vOne]).follow ⟨ByteArray.empty, 0⟩ = (vOne, 0) := by
    have := follow_k6 [vOne] ⟨ByteArray.empty, 0⟩ byKey_empty
    rw [show V.list [vOne] = V.mk 6 false 0 0 ByteArray.empty [vOne] [] from rfl, this]
    simp [V.item]
  simp [V.goTo, h1, h2]
set_option maxRecDepth 100000 in
theorem ex_no : vEx.goTo [⟨ByteArray.empty, 0⟩] = (V.null, 6) := by
  have h1 : vEx.follow ⟨ByteArray.empty, 0⟩ = (V.null, 6) := follow_no _ _ ⟨(fun h => by rw [byKey_empty] at h; cases h), fun _ => by decide⟩
  simp [V.goTo, h1]
set_option maxRecDepth 100000 in
theorem one_row {w : World} {B : Nat} {u : Value} {T : TypeId} {v : V} (h : w.heap[B]? = some (.cells #[u] T (0, 0))) (hr : Rep w (fun _ => True) u v) : RRow w (fun _ => True) (some ⟨B, 0, none⟩) [v] := by
  refine ⟨fun _ => u, fun _ => ⟨B, 0, rfl, trivial, fun j hj => ?_⟩, fun j hj => ?_⟩
  · match j, hj with
    | 0, _ => exact cell_of_row _ _ _ _ _ _ h
  · match j, hj with
    | 0, _ => exact hr
set_option maxRecDepth 100000 in
theorem one_ok (B n : Nat) (hn : n ≤ 4) : SliceOk (some ⟨B, 0, none⟩) n n := ⟨(fun h => by cases h), Nat.le_refl _, by unfold maxLen; omega⟩
set_option maxRecDepth 100000 in
theorem one_keys {w : World} {B : Nat} {T : TypeId} (h : w.heap[B]? = some (.cells #[.string ⟨#[97]⟩] T (0, 0))) : SRow w (fun _ => True) (some ⟨B, 0, none⟩) [keyA] := by
  refine ⟨by intro x hx; simp at hx; subst hx; decide, fun _ => ⟨B, 0, rfl, trivial, fun j hj => ?_⟩⟩
  match j, hj with
  | 0, _ => exact cell_of_row _ _ _ _ _ _ h
set_option maxRecDepth 100000 in
theorem steps_two {w : World} {B : Nat} {T : TypeId} (h : w.heap[B]? = some (.cells #[.string ⟨#[97]⟩, .int .i64 (-1), .string ⟨#[]⟩, .int .i64 0] T (0, 0))) : StRow w (some ⟨B, 0, none⟩) [⟨keyA, -1⟩, ⟨ByteArray.empty, 0⟩] := by
  refine ⟨?_, fun _ => ⟨B, 0, rfl, fun j hj => ?_⟩⟩
  · intro s hs
    simp only [List.mem_cons, List.not_mem_nil, or_false] at hs
    rcases hs with rfl | rfl
    · exact ⟨by decide, by unfold I64; decide⟩
    · exact ⟨by decide, by unfold I64; decide⟩
  · rw [cell_of_row _ _ _ _ _ _ h, cell_of_row _ _ _ _ _ _ h]
    match j, hj with
    | 0, _ => exact ⟨rfl, rfl⟩
    | 1, _ => exact ⟨rfl, rfl⟩
set_option maxRecDepth 100000 in
theorem steps_one {w : World} {B : Nat} {T : TypeId} (h : w.heap[B]? = some (.cells #[.string ⟨#[]⟩, .int .i64 0] T (0, 0))) : StRow w (some ⟨B, 0, none⟩) [⟨ByteArray.empty, 0⟩] := by
  refine ⟨?_, fun _ => ⟨B, 0, rfl, fun j hj => ?_⟩⟩
  · intro s hs
    simp only [List.mem_cons, List.not_mem_nil, or_false] at hs
    subst hs
    exact ⟨by decide, by unfold I64; decide⟩
  · rw [cell_of_row _ _ _ _ _ _ h, cell_of_row _ _ _ _ _ _ h]
    match j, hj with
    | 0, _ => exact ⟨rfl, rfl⟩
set_option maxRecDepth 100000 in
set_option maxHeartbeats 3200000 in
theorem awake4_any (w : World) : Calls Try.prog 9 #[] w fun e w' => e = .returned (.bool true) ∧ Below w.heap.size w w' := by
  have CL : Hid (∀ (W : World) (B : Nat), W.heap[B]? = some (.cells #[.iface 3 (.int .i64 1)] 30 (0, 0)) → Calls Try.prog 35 #[.slice (some ⟨B, 0, none⟩) 1 1] W fun e w' => ∃ h, e = .returned (.agg #[h]) ∧ h.oneCell' = true ∧ Rep w' (fun _ => True) h (V.list [vOne]) ∧ Below W.heap.size W w') := fun W B h => by
    refine (list_any (some ⟨B, 0, none⟩) [vOne] 1 W (ok := fun _ => True) (fun _ _ => trivial) (one_row h (Rep.int 1 (by unfold I64; omega))) (one_ok B 1 (by omega)) (by decide)).mono ?_
    rintro e w' ⟨h, rfl, h1, h2⟩
    exact ⟨h, rfl, h1.one, h1, h2⟩
  have CM : Hid (∀ (W : World) (B K : Nat) (u : Value), W.heap[B]? = some (.cells #[u] 30 (0, 0)) → W.heap[K]? = some (.cells #[.string ⟨#[97]⟩] 9 (0, 0)) → Rep W (fun _ => True) u (V.list [vOne]) → Calls Try.prog 32 #[.slice (some ⟨K, 0, none⟩) 1 1, .slice (some ⟨B, 0, none⟩) 1 1] W fun e w' => ∃ h, e = .returned (.tuple #[.agg #[h], .int .i64 0]) ∧ h.oneCell' = true ∧ Rep w' (fun _ => True) h vEx ∧ Below W.heap.size W w') := fun W B K u h1 h2 h3 => by
    refine (map_yes (some ⟨K, 0, none⟩) [keyA] 1 (some ⟨B, 0, none⟩) [V.list [vOne]] 1 W (ok := fun _ => True) (fun _ _ => trivial) (one_keys h2) (one_row h1 h3) rfl (by decide) (by simp)).mono ?_
    rintro e w' ⟨h, rfl, h1, h2⟩
    rw [ex_pick] at h1
    exact ⟨h, rfl, h1.one, h1, h2⟩
  have CG : Hid (∀ (W : World) (B : Nat) (u : Value), W.heap[B]? = some (.cells #[.string ⟨#[97]⟩, .int .i64 (-1), .string ⟨#[]⟩, .int .i64 0] 42 (0, 0)) → Rep W (fun _ => True) u vEx → Calls Try.prog 23 #[.agg #[u], .slice (some ⟨B, 0, none⟩) 2 2] W fun e w' => ∃ h, e = .returned (.tuple #[.agg #[h], .int .i64 0]) ∧ h.oneCell' = true ∧ Rep w' (fun _ => True) h vOne ∧ Below W.heap.size W w') := fun W B u h1 h2 => by
    have C := go_any h2 (some ⟨B, 0, none⟩) [⟨keyA, -1⟩, ⟨ByteArray.empty, 0⟩] 2 (steps_two h1) (by decide)
    rw [ex_go] at C
    refine C.mono ?_
    rintro e w' ⟨h, rfl, h1, h2⟩
    exact ⟨h, rfl, h1.one, h1.stays h2, h2⟩
  have CN : Hid (∀ (W : World) (B : Nat) (u : Value), W.heap[B]? = some (.cells #[.string ⟨#[]⟩, .int .i64 0] 42 (0, 0)) → Rep W (fun _ => True) u vEx → Calls Try.prog 23 #[.agg #[u], .slice (some ⟨B, 0, none⟩) 1 1] W fun e w' => ∃ h, e = .returned (.tuple #[.agg #[h], .int .i64 6]) ∧ h.oneCell' = true ∧ Below W.heap.size W w') := fun W B u h1 h2 => by
    have C := go_any h2 (some ⟨B, 0, none⟩) [⟨ByteArray.empty, 0⟩] 1 (steps_one h1) (by decide)
    rw [ex_no] at C
    refine C.mono ?_
    rintro e w' ⟨h, rfl, h1, h2⟩
    exact ⟨h, rfl, h1.one, h2⟩
  have CI : Hid (∀ (W : World) (u : Value), Rep W (fun _ => True) u vOne → Calls Try.prog 37 #[.agg #[u]] W fun e w' => e = .returned (.tuple #[.int .i64 1, .bool true]) ∧ Below W.heap.size W w') := fun W u h => gint_any h W
  go_enter Try.func9, Try.ntmps9
  go_wp2_with fail
  refine (int_any _ _).mono ?_
  rintro e w1 ⟨rfl, hb1⟩
  have hk1 := (hb1.block w.heap.size (by simp)).trans (heap_alloc_new w _)
  have hB1 : Below w.heap.size w w1 := ((Below.refl _ _).alloc (Nat.le_refl _) _).trans (hb1.mono (by simp))
  have l1 := (Array.getElem?_eq_some_iff.1 hk1).1
  clear hb1
  go_wp2_with fail
  refine (CL.out _ w1.heap.size (heap_alloc_new w1 _)).mono ?_
  rintro e w2 ⟨h2, rfl, ho2, hr2, hb2⟩
  have hs2 := hb2.size
  simp only [World.size_alloc] at hs2
  have hk2 := (hb2.block w.heap.size (by simp; omega)).trans ((Below.heap_alloc _ _ _ l1).trans hk1)
  have hB2 : Below w.heap.size w w2 := (hB1.alloc hB1.size _).trans (hb2.mono (by simp; omega))
  have l2 := (Array.getElem?_eq_some_iff.1 hk2).1
  clear hb2 hk1 hB1 CL
  go_wp2_with fail
  refine (CM.out _ w2.heap.size w.heap.size h2 (heap_alloc_new w2 _) ((Below.heap_alloc _ _ _ l2).trans hk2) (hr2.stays ((Below.refl _ _).alloc (Nat.le_refl _) _))).mono ?_
  rintro e w3 ⟨h3, rfl, ho3, hr3, hb3⟩
  have hs3 := hb3.size
  simp only [World.size_alloc] at hs3
  have hB3 : Below w.heap.size w w3 := (hB2.alloc hB2.size _).trans (hb3.mono (by simp; omega))
  have st3 := store_new 30 h3 .nilIface ho3 w3
  clear hb3 hk2 hB2 CM hr2
  have hr3' := hr3.stays ((Below.refl _ w3).alloc (Nat.le_refl _) (.cells #[h3] 30))
  have hx3 := heap_alloc_new w3 (.cells #[h3] 30)
  go_wp2_with fail
  refine (CG.out _ (w3.heap.size + 1) h3 (by simpa using heap_alloc_new (w3.alloc (.cells #[h3] 30)) _) (hr3'.stays ((Below.refl _ _).alloc (Nat.le_refl _) _))).mono ?_
  rintro e w4 ⟨h4, rfl, ho4, hr4, hb4⟩
  have hs4 := hb4.size
  simp only [World.size_alloc] at hs4
  have hx4 := (hb4.block w3.heap.size (by simp; omega)).trans ((Below.heap_alloc _ _ _ (by simp)).trans hx3)
  have hr34 := (hr3'.stays ((Below.refl _ _).alloc (Nat.le_refl _) _)).stays hb4
  have hB4 : Below w.heap.size w w4 := ((hB3.alloc hB3.size _).alloc (by have := hB3.size; simp; omega) _).trans (hb4.mono (by have := hB3.size; simp; omega))
  have st4 := store_new 30 h4 .nilIface ho4 w4
  have hr4' := hr4.stays ((Below.refl _ w4).alloc (Nat.le_refl _) (.cells #[h4] 30))
  have z4 := cell_of_row _ _ 0 _ _ _ (heap_alloc_new w4 (.cells #[h4] 30))
  clear hb4 hx3 hB3 hr3 hr3' CG hr4
  go_wp2_with fail
  refine (CI.out _ h4 hr4').mono ?_
  rintro e w5 ⟨rfl, hb5⟩
  have hs5 := hb5.size
  simp only [World.size_alloc] at hs5
  have hx5 := (hb5.block w3.heap.size (by simp; omega)).trans ((Below.heap_alloc _ _ _ (by omega)).trans hx4)
  have hr35 := (hr34.stays ((Below.refl _ _).alloc (Nat.le_refl _) _)).stays hb5
  have hB5 : Below w.heap.size w w5 := (hB4.alloc hB4.size _).trans (hb5.mono (by have := hB4.size; simp; omega))
  have z5 := cell_of_row _ _ 0 _ _ _ hx5
  clear hb5 hx4 hB4 hr34 hr4' CI z4
  go_wp2_with fail
  refine (CN.out _ w5.heap.size h3 (heap_alloc_new w5 _) (hr35.stays ((Below.refl _ _).alloc (Nat.le_refl _) _))).mono ?_
  rintro e w6 ⟨h6, rfl, ho6, hb6⟩
  have hs6 := hb6.size
  simp only [World.size_alloc] at hs6
  have hB6 : Below w.heap.size w w6 := (hB5.alloc hB5.size _).trans (hb6.mono (by have := hB5.size; simp; omega))
  have st6 := store_new 30 h6 .nilIface ho6 w6
  clear hb6 hx5 hB5 hr35 CN z5
  go_wp2_with fail
  go_ret
  exact ⟨rfl, hB6.alloc hB6.size _⟩
end Go.Proofs.Ytigdcnoggjcddaa

