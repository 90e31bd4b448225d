/- What mustBeMap and mustBeList answer: of another kind the panic is recovered, and told as ErrType. No conditions. -/
import Derived.Test.YtigdcnoggjcddaaVItems
import Derived.Defers
import Derived.Recover
namespace Go.Proofs.Ytigdcnoggjcddaa
open Go.RowKit Go.Maps Go.WideMaps

set_option maxRecDepth 100000 in
theorem assert_fails (A : TypeId) (d : TypeDesc) (hu : Try.prog.underlying A = some d) (hd : ∀ m, d ≠ .interface m) (x t : TypeId) (v : Value) (hne : t ≠ A) (w : World) :
    ∃ u cs E, (Instr.typeAssert (.iface t v) x A false).run Try.prog w = .halt (.panic (.iface u (.pointer (some ⟨w.heap.size, 0, none⟩)))) (w.alloc (.cells cs E)) := by
  unfold Instr.typeAssert
  cases d <;> first | (exact absurd rfl (hd _)) | (simp [hne, run_underlying hu, runtimePanic, elemOf, newVar, newRow]; exact ⟨_, _, rfl⟩)
set_option maxRecDepth 100000 in
theorem assert_fails_nil (A : TypeId) (d : TypeDesc) (hu : Try.prog.underlying A = some d) (hd : ∀ m, d ≠ .interface m) (x : TypeId) (w : World) :
    ∃ u cs E, (Instr.typeAssert .nilIface x A false).run Try.prog w = .halt (.panic (.iface u (.pointer (some ⟨w.heap.size, 0, none⟩)))) (w.alloc (.cells cs E)) := by
  unfold Instr.typeAssert
  cases d <;> first | (exact absurd rfl (hd _)) | (simp [run_underlying hu, runtimePanic, elemOf, newVar, newRow]; exact ⟨_, _, rfl⟩)
set_option maxRecDepth 100000 in
theorem assert_holds (A : TypeId) (d : TypeDesc) (hu : Try.prog.underlying A = some d) (hd : ∀ m, d ≠ .interface m) (x : TypeId) (v : Value) (w : World) :
    (Instr.typeAssert (.iface A v) x A false).run Try.prog w = .ok v w := by
  unfold Instr.typeAssert
  cases d <;> first | (exact absurd rfl (hd _)) | (simp [run_underlying hu])
set_option maxRecDepth 100000 in
theorem mmap_catch (p r : Addr) (u : TypeId) (pv : Value) (older : List PanicEntry) (w : World) (hc : w.cell? p = some (.pointer none)) (hz : w.frozen? p = false) (hc2 : (w.setCell p (.pointer none)).cell? r = some (.int .i64 0)) (hz2 : w.frozen? r = false) :
    CallsD Try.prog 87 #[.pointer (some p), .pointer (some r)] (.panicking ({ v := .iface u pv, recovered := false } :: older)) w fun e u' w' =>
      e = .returned (.tuple #[]) ∧ u' = .panicking ({ v := .iface u pv, recovered := true } :: older) ∧ w' = (w.setCell p (.pointer none)).setCell r (.int .i64 6) := by
  refine callsD_of_wpS Try.func87 rfl fun c₀ cs hu => ?_
  apply wpS_seq
  apply wpS_region
  simp [wpOpsS, go_sem, recoverD, hu, Try.ntmps87, Exit.thenS]
  refine wpS_cond (t := true) (by simp [Act.eval, Array.replicate]) ?_
  simp only [if_true]
  apply wpS_region
  simp [wpOpsS, go_sem, hc, hz, hc2, hz2, bodyPostS, results, Try.results87]
set_option maxRecDepth 100000 in
theorem mmap_idle (p r : Addr) (w : World) :
    CallsD Try.prog 87 #[.pointer (some p), .pointer (some r)] .returning w fun e u' w' => e = .returned (.tuple #[]) ∧ u' = .returning ∧ w' = w := by
  refine callsD_of_wpS Try.func87 rfl fun c₀ cs hu => ?_
  apply wpS_seq
  apply wpS_region
  simp [wpOpsS, go_sem, recoverD, hu, Try.ntmps87, Exit.thenS]
  refine wpS_cond (t := false) (by simp [Act.eval, Array.replicate]) ?_
  simp only [Bool.false_eq_true, if_false]
  refine wpS_of_wp (wp_skip ?_)
  cases c₀
  simp_all [bodyPostS, results, Try.results87]
set_option maxRecDepth 100000 in
theorem mlist_catch (p r : Addr) (u : TypeId) (pv : Value) (older : List PanicEntry) (w : World) (hc : w.cell? p = some (.pointer none)) (hz : w.frozen? p = false) (hc2 : (w.setCell p (.pointer none)).cell? r = some (.int .i64 0)) (hz2 : w.frozen? r = false) :
    CallsD Try.prog 88 #[.pointer (some p), .pointer (some r)] (.panicking ({ v := .iface u pv, recovered := false } :: older)) w fun e u' w' =>
      e = .returned (.tuple #[]) ∧ u' = .panicking ({ v := .iface u pv, recovered := true } :: older) ∧ w' = (w.setCell p (.pointer none)).setCell r (.int .i64 6) := by
  refine callsD_of_wpS Try.func88 rfl fun c₀ cs hu => ?_
  apply wpS_seq
  apply wpS_region
  simp [wpOpsS, go_sem, recoverD, hu, Try.ntmps88, Exit.thenS]
  refine wpS_cond (t := true) (by simp [Act.eval, Array.replicate]) ?_
  simp only [if_true]
  apply wpS_region
  simp [wpOpsS, go_sem, hc, hz, hc2, hz2, bodyPostS, results, Try.results88]
set_option maxRecDepth 100000 in
theorem mlist_idle (p r : Addr) (w : World) :
    CallsD Try.prog 88 #[.pointer (some p), .pointer (some r)] .returning w fun e u' w' => e = .returned (.tuple #[]) ∧ u' = .returning ∧ w' = w := by
  refine callsD_of_wpS Try.func88 rfl fun c₀ cs hu => ?_
  apply wpS_seq
  apply wpS_region
  simp [wpOpsS, go_sem, recoverD, hu, Try.ntmps88, Exit.thenS]
  refine wpS_cond (t := false) (by simp [Act.eval, Array.replicate]) ?_
  simp only [Bool.false_eq_true, if_false]
  refine wpS_of_wp (wp_skip ?_)
  cases c₀
  simp_all [bodyPostS, results, Try.results88]
set_option maxRecDepth 100000 in
set_option maxHeartbeats 800000 in
theorem mmap_yes (A : Option Addr) (w : World) : Calls Try.prog 74 #[.iface 114 (.pointer A)] w fun e w' => e = .returned (.tuple #[.pointer A, .int .i64 0]) ∧ Below w.heap.size w w' := by
  have hmf : ∀ (fn : Fn) (first cap : Array Value) (w : World), (Instr.makeFunc fn first cap).run Try.prog w = .ok (.func fn first cap) w := fun _ _ _ _ => rfl
  have ha := assert_holds 114 _ Try.underlying114 (by simp) 20
  go_enter_defers Try.func74, Try.ntmps74
  go_wp2_with fail
  refine leaves_cons (f := 87) (args := #[.pointer (some ⟨w.heap.size, 0, none⟩), .pointer (some ⟨w.heap.size + 1, 0, none⟩)]) (by simp) (by simp [go_sem]) ?_
  refine (mmap_idle _ _ _).mono ?_
  rintro e u' w'' ⟨rfl, rfl, rfl⟩
  simp [Leaves, settle, results, Try.results74, go_sem]
  exact ((Below.refl _ _).alloc (Nat.le_refl _) _).alloc (by simp) _
set_option maxRecDepth 100000 in
theorem mmap_world (w : World) (cs : Array Value) (E : TypeId) : Below w.heap.size w (((((w.alloc (.cells #[.pointer none] 114)).alloc (.cells #[.int .i64 0] 44)).alloc (.cells cs E)).setCell ⟨w.heap.size, 0, none⟩ (.pointer none)).setCell ⟨w.heap.size + 1, 0, none⟩ (.int .i64 6)) ∧
    (((w.alloc (.cells #[.pointer none] 114)).alloc (.cells #[.int .i64 0] 44)).alloc (.cells cs E)).heap[w.heap.size]? = some (.cells #[.pointer none] 114 (0, 0)) ∧
    (((w.alloc (.cells #[.pointer none] 114)).alloc (.cells #[.int .i64 0] 44)).alloc (.cells cs E)).heap[w.heap.size + 1]? = some (.cells #[.int .i64 0] 44 (0, 0)) := by
  refine ⟨?_, ?_, ?_⟩
  · exact ((((((Below.refl _ _).alloc (Nat.le_refl _) _).alloc (by simp) _).alloc (by simp; omega) _).setCell (by simp) _).setCell (by simp) _)
  · rw [Below.heap_alloc _ _ _ (by simp; omega), Below.heap_alloc _ _ _ (by simp)]; exact heap_alloc_new _ _
  · rw [Below.heap_alloc _ _ _ (by simp)]
    have := heap_alloc_new (w.alloc (.cells #[.pointer none] 114)) (.cells #[.int .i64 0] 44)
    simpa using this
set_option maxRecDepth 100000 in
set_option maxHeartbeats 1600000 in
theorem mmap_no {w0 : World} {ok : Nat → Prop} {h : Value} {v : V} (hr : Rep w0 ok h v) (hk : v.k ≠ 7) (w : World) : Calls Try.prog 74 #[h] w fun e w' => e = .returned (.tuple #[.pointer none, .int .i64 6]) ∧ Below w.heap.size w w' := by
  have hmf : ∀ (fn : Fn) (first cap : Array Value) (w : World), (Instr.makeFunc fn first cap).run Try.prog w = .ok (.func fn first cap) w := fun _ _ _ _ => rfl
  have hf : ∃ u cs E, (Instr.typeAssert h 20 114 false).run Try.prog ((w.alloc (.cells #[.pointer none] 114)).alloc (.cells #[.int .i64 0] 44)) = .halt (.panic (.iface u (.pointer (some ⟨((w.alloc (.cells #[.pointer none] 114)).alloc (.cells #[.int .i64 0] 44)).heap.size, 0, none⟩)))) (((w.alloc (.cells #[.pointer none] 114)).alloc (.cells #[.int .i64 0] 44)).alloc (.cells cs E)) := by
    induction hr using Rep.ind
    case null => exact assert_fails_nil 114 _ Try.underlying114 (by simp) _ _
    case map => exact absurd rfl hk
    all_goals exact assert_fails 114 _ Try.underlying114 (by simp) _ _ _ (by decide) _
  clear hr hk
  obtain ⟨u, cs, E, hf⟩ := hf
  obtain ⟨g1, g2, g3⟩ := mmap_world w cs E
  go_enter_defers Try.func74, Try.ntmps74
  go_wp2_with fail
  generalize ((w.alloc (.cells #[.pointer none] 114)).alloc (.cells #[.int .i64 0] 44)).alloc (.cells cs E) = W at *
  refine leaves_cons (f := 87) (args := #[.pointer (some ⟨w.heap.size, 0, none⟩), .pointer (some ⟨w.heap.size + 1, 0, none⟩)]) (by simp) (by simp [go_sem]) ?_
  refine (mmap_catch ⟨w.heap.size, 0, none⟩ ⟨w.heap.size + 1, 0, none⟩ _ _ [] _ (cell_of_row _ _ _ _ _ _ g2) (frozen_of_row _ _ _ _ _ g2) ?_ (frozen_of_row _ _ _ _ _ g3)).mono ?_
  · exact cell_of_row _ _ _ _ _ _ ((heap_setCell_other _ _ _ _ (by simp)).trans g3)
  rintro e u' w'' ⟨rfl, rfl, rfl⟩
  have k1 := heap_setCell_same W (w.heap.size) 0 _ _ (.pointer none) g2
  have k2 := (heap_setCell_other (W.setCell ⟨w.heap.size, 0, none⟩ (.pointer none)) ⟨w.heap.size + 1, 0, none⟩ w.heap.size (.int .i64 6) (by simp)).trans k1
  have k3 := heap_setCell_same (W.setCell ⟨w.heap.size, 0, none⟩ (.pointer none)) (w.heap.size + 1) 0 _ _ (.int .i64 6) ((heap_setCell_other _ _ _ _ (by simp)).trans g3)
  have r1 := cell_of_row _ _ 0 _ _ _ k2
  have r2 := cell_of_row _ _ 0 _ _ _ k3
  simp at r1 r2
  simp [Leaves, settle, results, Try.results74, go_sem, r1, r2]
  exact g1
set_option maxRecDepth 100000 in
set_option maxHeartbeats 800000 in
theorem mlist_yes (A : Option Addr) (w : World) : Calls Try.prog 76 #[.iface 91 (.pointer A)] w fun e w' => e = .returned (.tuple #[.pointer A, .int .i64 0]) ∧ Below w.heap.size w w' := by
  have hmf : ∀ (fn : Fn) (first cap : Array Value) (w : World), (Instr.makeFunc fn first cap).run Try.prog w = .ok (.func fn first cap) w := fun _ _ _ _ => rfl
  have ha := assert_holds 91 _ Try.underlying91 (by simp) 20
  go_enter_defers Try.func76, Try.ntmps76
  go_wp2_with fail
  refine leaves_cons (f := 88) (args := #[.pointer (some ⟨w.heap.size, 0, none⟩), .pointer (some ⟨w.heap.size + 1, 0, none⟩)]) (by simp) (by simp [go_sem]) ?_
  refine (mlist_idle _ _ _).mono ?_
  rintro e u' w'' ⟨rfl, rfl, rfl⟩
  simp [Leaves, settle, results, Try.results76, go_sem]
  exact ((Below.refl _ _).alloc (Nat.le_refl _) _).alloc (by simp) _
set_option maxRecDepth 100000 in
theorem mlist_world (w : World) (cs : Array Value) (E : TypeId) : Below w.heap.size w (((((w.alloc (.cells #[.pointer none] 91)).alloc (.cells #[.int .i64 0] 44)).alloc (.cells cs E)).setCell ⟨w.heap.size, 0, none⟩ (.pointer none)).setCell ⟨w.heap.size + 1, 0, none⟩ (.int .i64 6)) ∧
    (((w.alloc (.cells #[.pointer none] 91)).alloc (.cells #[.int .i64 0] 44)).alloc (.cells cs E)).heap[w.heap.size]? = some (.cells #[.pointer none] 91 (0, 0)) ∧
    (((w.alloc (.cells #[.pointer none] 91)).alloc (.cells #[.int .i64 0] 44)).alloc (.cells cs E)).heap[w.heap.size + 1]? = some (.cells #[.int .i64 0] 44 (0, 0)) := by
  refine ⟨?_, ?_, ?_⟩
  · exact ((((((Below.refl _ _).alloc (Nat.le_refl _) _).alloc (by simp) _).alloc (by simp; omega) _).setCell (by simp) _).setCell (by simp) _)
  · rw [Below.heap_alloc _ _ _ (by simp; omega), Below.heap_alloc _ _ _ (by simp)]; exact heap_alloc_new _ _
  · rw [Below.heap_alloc _ _ _ (by simp)]
    have := heap_alloc_new (w.alloc (.cells #[.pointer none] 91)) (.cells #[.int .i64 0] 44)
    simpa using this
set_option maxRecDepth 100000 in
set_option maxHeartbeats 1600000 in
theorem mlist_no {w0 : World} {ok : Nat → Prop} {h : Value} {v : V} (hr : Rep w0 ok h v) (hk : v.k ≠ 6) (w : World) : Calls Try.prog 76 #[h] w fun e w' => e = .returned (.tuple #[.pointer none, .int .i64 6]) ∧ Below w.heap.size w w' := by
  have hmf : ∀ (fn : Fn) (first cap : Array Value) (w : World), (Instr.makeFunc fn first cap).run Try.prog w = .ok (.func fn first cap) w := fun _ _ _ _ => rfl
  have hf : ∃ u cs E, (Instr.typeAssert h 20 91 false).run Try.prog ((w.alloc (.cells #[.pointer none] 91)).alloc (.cells #[.int .i64 0] 44)) = .halt (.panic (.iface u (.pointer (some ⟨((w.alloc (.cells #[.pointer none] 91)).alloc (.cells #[.int .i64 0] 44)).heap.size, 0, none⟩)))) (((w.alloc (.cells #[.pointer none] 91)).alloc (.cells #[.int .i64 0] 44)).alloc (.cells cs E)) := by
    induction hr using Rep.ind
    case null => exact assert_fails_nil 91 _ Try.underlying91 (by simp) _ _
    case list => exact absurd rfl hk
    all_goals exact assert_fails 91 _ Try.underlying91 (by simp) _ _ _ (by decide) _
  clear hr hk
  obtain ⟨u, cs, E, hf⟩ := hf
  obtain ⟨g1, g2, g3⟩ := mlist_world w cs E
  go_enter_defers Try.func76, Try.ntmps76
  go_wp2_with fail
  generalize ((w.alloc (.cells #[.pointer none] 91)).alloc (.cells #[.int .i64 0] 44)).alloc (.cells cs E) = W at *
  refine leaves_cons (f := 88) (args := #[.pointer (some ⟨w.heap.size, 0, none⟩), .pointer (some ⟨w.heap.size + 1, 0, none⟩)]) (by simp) (by simp [go_sem]) ?_
  refine (mlist_catch ⟨w.heap.size, 0, none⟩ ⟨w.heap.size + 1, 0, none⟩ _ _ [] _ (cell_of_row _ _ _ _ _ _ g2) (frozen_of_row _ _ _ _ _ g2) ?_ (frozen_of_row _ _ _ _ _ g3)).mono ?_
  · exact cell_of_row _ _ _ _ _ _ ((heap_setCell_other _ _ _ _ (by simp)).trans g3)
  rintro e u' w'' ⟨rfl, rfl, rfl⟩
  have k1 := heap_setCell_same W (w.heap.size) 0 _ _ (.pointer none) g2
  have k2 := (heap_setCell_other (W.setCell ⟨w.heap.size, 0, none⟩ (.pointer none)) ⟨w.heap.size + 1, 0, none⟩ w.heap.size (.int .i64 6) (by simp)).trans k1
  have k3 := heap_setCell_same (W.setCell ⟨w.heap.size, 0, none⟩ (.pointer none)) (w.heap.size + 1) 0 _ _ (.int .i64 6) ((heap_setCell_other _ _ _ _ (by simp)).trans g3)
  have r1 := cell_of_row _ _ 0 _ _ _ k2
  have r2 := cell_of_row _ _ 0 _ _ _ k3
  simp at r1 r2
  simp [Leaves, settle, results, Try.results76, go_sem, r1, r2]
  exact g1
end Go.Proofs.Ytigdcnoggjcddaa

