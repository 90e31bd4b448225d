/- Where steps lead, one after the other: Go. Conditions: values and steps in memory, at most 1048576 steps. -/
import Derived.Test.YtigdcnoggjcddaaVGo
namespace Go.Proofs.Ytigdcnoggjcddaa
open Go.RowKit Go.Maps Go.WideMaps

set_option maxRecDepth 100000 in
theorem Rep.back {w W : World} {ok : Nat → Prop} {u : Value} {x : V} (hx : Rep W (fun b => ok b ∧ b < w.heap.size) u x) (h : Below w.heap.size w W) : Rep w (fun b => ok b ∧ b < w.heap.size) u x := hx.agree (fun b hb _ => (h.block b hb.2).symm)
set_option maxRecDepth 100000 in
theorem Rep.low {w : World} {ok : Nat → Prop} {u : Value} {x : V} (hx : Rep w ok u x) : Rep w (fun b => ok b ∧ b < w.heap.size) u x := hx.mono (fun _ h1 h2 => ⟨h1, h2⟩)
set_option maxRecDepth 100000 in
theorem Rep.high {w : World} {ok : Nat → Prop} {u : Value} {x : V} (hx : Rep w (fun b => ok b ∧ b < w.heap.size) u x) : Rep w ok u x := hx.mono (fun _ h1 _ => h1.1)
/-- Steps in memory. -/
def StRow (w : World) (a : Option Addr) (l : List St) : Prop := (∀ s ∈ l, s.ok) ∧ (l ≠ [] → ∃ b off, a = some ⟨b, off, none⟩ ∧ ∀ j (hj : j < l.length), w.cell? ⟨b, off + j * 2, none⟩ = some (.string l[j].key) ∧ w.cell? ⟨b, off + j * 2 + 1, none⟩ = some (.int .i64 l[j].at_))
/-- Where steps lead; the error's number. -/
def V.goTo (v : V) : List St → V × Int
  | [] => (v, 0)
  | s :: r => if (v.follow s).2 = 0 then (v.follow s).1.goTo r else (V.null, (v.follow s).2)
set_option maxRecDepth 100000 in
theorem follow_err {v : V} {s : St} (h : (v.follow s).2 ≠ 0) : (v.follow s).1 = V.null := by
  unfold V.follow at *
  split at h <;> rename_i h1
  · rw [if_pos h1]
    split at h <;> rename_i h2
    · rw [if_pos h2]
      split at h <;> rename_i h3
      · exact absurd rfl h
      · rw [if_neg h3]
    · rw [if_neg h2]
  · rw [if_neg h1]
    split at h <;> rename_i h2
    · rw [if_pos h2]
      split at h <;> rename_i h3
      · exact absurd rfl h
      · rw [if_neg h3]
    · rw [if_neg h2]
set_option maxRecDepth 100000 in
set_option maxHeartbeats 3200000 in
theorem go_any {w : World} {ok : Nat → Prop} {h : Value} {v : V} (hr : Rep w ok h v) (ao : Option Addr) (l : List St) (c : Nat) (hl : StRow w ao l) (hn : l.length ≤ 1048576) :
    Calls Try.prog 23 #[.agg #[h], .slice ao l.length c] w fun e w' => ∃ u, e = .returned (.tuple #[.agg #[u], .int .i64 (v.goTo l).2]) ∧ Rep w ok u (v.goTo l).1 ∧ Below w.heap.size w w' := by
  have hr0 := hr.low
  have hone := hr.one
  clear hr
  generalize hR : v.goTo l = R
  have CF : Hid (∀ (W : World) (u : Value) (x : V) (s : St), Below w.heap.size w W → Rep w (fun b => ok b ∧ b < w.heap.size) u x → s.ok → Calls Try.prog 49 #[.agg #[u], .agg #[.string s.key, .int .i64 s.at_]] W fun e w' => ∃ u', e = .returned (.tuple #[.agg #[u'], .int .i64 (x.follow s).2]) ∧ u'.oneCell' = true ∧ Rep w (fun b => ok b ∧ b < w.heap.size) u' (x.follow s).1 ∧ Below W.heap.size W w') := fun W u x s hW hx hs => by
    refine (follow_any (hx.stays hW) s hs).mono ?_
    rintro e w' ⟨u', rfl, h1, h2⟩
    exact ⟨u', rfl, h1.one, h1.back hW, h2⟩
  by_cases hz : l = []
  · subst hz
    have hR' : Hid (R = (v, 0)) := hR.symm
    clear hR CF hl
    have st := store_old h .nilIface hone ((w.alloc (.cells #[h] 30)).alloc (.cells #[.nilIface] 30)) ⟨w.heap.size + 1, 0, none⟩ (by
      have := heap_alloc_new (w.alloc (.cells #[h] 30)) (.cells #[.nilIface] 30)
      simp only [World.size_alloc] at this
      exact cell_of_row _ _ _ _ _ _ this) (by
      have := heap_alloc_new (w.alloc (.cells #[h] 30)) (.cells #[.nilIface] 30)
      simp only [World.size_alloc] at this
      exact frozen_of_row _ _ _ _ _ this)
    have hBB : Below w.heap.size w ((w.alloc (.cells #[h] 30)).alloc (.cells #[h] 30)) := ((Below.refl _ _).alloc (Nat.le_refl _) _).alloc (by simp) _
    go_enter Try.func23, Try.ntmps23
    go_wp2_with fail
    refine wp_loop_rounds 1 ?_
    rw [rounds_succ]
    go_wp2_with fail
    exact bodyPost_ret (v := .tuple #[.agg #[h], .int .i64 0]) (by simp [results, Try.results23, go_sem]) rfl ⟨h, by rw [hR'.out], by rw [hR'.out]; exact hr0.high, hBB⟩
  obtain ⟨hok, hl2⟩ := hl
  obtain ⟨bl, off, rfl, hcc⟩ := hl2 hz
  have hbl : bl < w.heap.size := World.block_lt_of_cell? _ _ (hcc 0 (List.length_pos_iff.2 hz)).1
  have HC : Hid (∀ (W : World) (k : Nat), Below w.heap.size w W → ∀ hk : k < l.length, ∃ s : St, l.drop k = s :: l.drop (k + 1) ∧ s.ok ∧ W.cell? ⟨bl, off + k * 2, none⟩ = some (.string s.key) ∧ W.cell? ⟨bl, off + k * 2 + 1, none⟩ = some (.int .i64 s.at_)) := fun W k hW hk =>
    ⟨l[k], List.drop_eq_getElem_cons hk, hok _ (List.getElem_mem hk), (hW.cell (p := ⟨bl, off + k * 2, none⟩) hbl).trans (hcc k hk).1, (hW.cell (p := ⟨bl, off + k * 2 + 1, none⟩) hbl).trans (hcc k hk).2⟩
  have HR : Hid (v.goTo l = R) := hR
  clear hcc hl2 hz hok hR
  have hs0 : ((w.alloc (.cells #[h] 30)).alloc (.cells #[.nilIface] 30)).heap[w.heap.size]? = some (.cells #[h] 30 (0, 0)) := by rw [Below.heap_alloc _ _ _ (by simp)]; exact heap_alloc_new _ _
  have hs1 : ((w.alloc (.cells #[h] 30)).alloc (.cells #[.nilIface] 30)).heap[w.heap.size + 1]? = some (.cells #[.nilIface] 30 (0, 0)) := by simpa using heap_alloc_new (w.alloc (.cells #[h] 30)) (.cells #[.nilIface] 30)
  go_enter Try.func23, Try.ntmps23
  go_wp2_with fail
  go_loopw [12] (fun si wr => ∃ (k : Nat) (u : Value) (x : V), k ≤ l.length ∧ si = .int .i64 k ∧ wr.heap[w.heap.size]? = some (.cells #[u] 30 (0, 0)) ∧ wr.heap[w.heap.size + 1]? = some (.cells #[.nilIface] 30 (0, 0)) ∧ Below w.heap.size w wr ∧ Rep w (fun b => ok b ∧ b < w.heap.size) u x ∧ Hid (x.goTo (l.drop k) = R)) (fun si _ => l.length - (intOf si).toNat)
  case atStart => exact ⟨0, h, v, by omega, rfl, hs0, hs1, ((Below.refl _ _).alloc (Nat.le_refl _) _).alloc (by simp) _, hr0, HR⟩
  case round =>
    obtain ⟨k, u, x, hkl, rfl, h0, h1, hb, hrep, hid⟩ := hrel
    have z0 := cell_of_row _ _ 0 _ _ _ h0
    have z1 := cell_of_row _ _ 0 _ _ _ h1
    have f0 := frozen_of_row _ _ 0 _ _ h0
    have f1 := frozen_of_row _ _ 0 _ _ h1
    have hone' := hrep.one
    clear hs0 hs1 hr0 HR hone
    by_cases hlt : k < l.length
    · obtain ⟨s, hdr, hso, cx, cy⟩ := HC.out _ k hb hlt
      have HD : Hid (l.drop k = s :: l.drop (k + 1)) := hdr
      have C := CF.out
      have l0 := (Array.getElem?_eq_some_iff.1 h0).1
      have l1 := (Array.getElem?_eq_some_iff.1 h1).1
      clear hdr CF HC
      have HG : Hid (x.goTo (s :: l.drop (k + 1)) = R) := by rw [← HD.out]; exact hid.out
      clear HD hid
      go_wp2_with fail
      refine (C _ u x s (by exact hb.alloc hb.size _) hrep hso).mono ?_
      rintro e w2 ⟨u', rfl, hu, hrep2, hb2⟩
      have hs2 := hb2.size
      simp only [World.size_alloc] at hs2
      have h02 := (hb2.block w.heap.size (by simp; omega)).trans ((Below.heap_alloc _ _ _ l0).trans h0)
      have h12 := (hb2.block (w.heap.size + 1) (by simp; omega)).trans ((Below.heap_alloc _ _ _ l1).trans h1)
      have hB2 : Below w.heap.size w w2 := (hb.alloc hb.size _).trans (hb2.mono (by simp; omega))
      have st := store_new 30 u' .nilIface hu w2
      have h03 := (Below.heap_alloc w2 (.cells #[u'] 30) w.heap.size (by omega)).trans h02
      have h13 := (Below.heap_alloc w2 (.cells #[u'] 30) (w.heap.size + 1) (by omega)).trans h12
      have hB3 : Below w.heap.size w (w2.alloc (.cells #[u'] 30)) := hB2.alloc hB2.size _
      have hn3 := cell_of_row _ _ 0 _ _ _ (heap_alloc_new w2 (.cells #[u'] 30))
      clear z0 z1 f0 f1 h0 h1 hb hb2 h02 h12 hB2 C cx cy hrep hone'
      have z0 := cell_of_row _ _ 0 _ _ _ h03
      have z1 := cell_of_row _ _ 0 _ _ _ h13
      have f0 := frozen_of_row _ _ 0 _ _ h03
      have f1 := frozen_of_row _ _ 0 _ _ h13
      have st2 := store_old u' u hu _ _ z0 f0
      have i0 := heap_setCell_same _ _ 0 _ _ u' h03
      have i1 := (heap_setCell_other (w2.alloc (.cells #[u'] 30)) ⟨w.heap.size, 0, none⟩ (w.heap.size + 1) u' (by simp)).trans h13
      have i2 := hB3.setCell (p := ⟨w.heap.size, 0, none⟩) (Nat.le_refl _) u'
      have j0 := cell_of_row _ _ 0 _ _ _ (heap_setCell_same _ _ 0 _ _ .nilIface h13)
      have j2 := hB3.setCell (p := ⟨w.heap.size + 1, 0, none⟩) (by simp) .nilIface
      by_cases hE : (x.follow s).2 = 0
      · have HG2 : Hid ((x.follow s).1.goTo (l.drop (k + 1)) = R) := by
          have := HG.out
          rw [V.goTo, if_pos hE] at this
          exact this
        clear HG j0 j2
        generalize (x.follow s).1 = X at *
        generalize (x.follow s).2 = EE at *
        subst hE
        go_wp2_with fail
        go_roundw
        case rel => exact ⟨k + 1, u', X, by omega, by go_num, i0, i1, i2, hrep2, HG2⟩
        case measure => simp [intOf]; omega
      · have HG2 : Hid (R = (V.null, (x.follow s).2)) := by
          have := HG.out
          rw [V.goTo, if_neg hE] at this
          exact this.symm
        clear HG i0 i1 i2
        generalize (x.follow s).2 = EE at *
        have hE' : (EE == 0) = false := by simpa using hE
        go_wp2_with fail
        exact bodyPost_ret (v := .tuple #[.agg #[.nilIface], .int .i64 EE]) (by simp [results, Try.results23, go_sem, j0]) rfl ⟨_, by rw [HG2.out], by rw [HG2.out]; exact Rep.null, j2⟩
    · obtain rfl : k = l.length := by omega
      have HG2 : Hid (R = (x, 0)) := by
        have := hid.out
        rw [List.drop_length] at this
        exact this.symm
      have st := store_old u .nilIface hone' _ _ z1 f1
      have j0 := cell_of_row _ _ 0 _ _ _ (heap_setCell_same _ _ 0 _ _ u h1)
      have j2 := hb.setCell (p := ⟨w.heap.size + 1, 0, none⟩) (by simp) u
      clear hid HC CF h0 h1 hb
      go_wp2_with fail
      exact bodyPost_ret (v := .tuple #[.agg #[u], .int .i64 0]) (by simp [results, Try.results23, go_sem, j0]) rfl ⟨_, by rw [HG2.out], by rw [HG2.out]; exact hrep.high, j2⟩
end Go.Proofs.Ytigdcnoggjcddaa

