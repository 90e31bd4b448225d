/- slices.Contains of notes. Conditions: the notes lie in memory. -/
import Derived.Test.YtgknefpefeghcaaDgE
namespace Go.Proofs.Ytgknefpefeghcaa
open Go.RowKit

set_option maxRecDepth 100000 in
set_option maxHeartbeats 1600000 in
theorem nidx_any {W : World} {a : Option Addr} {cap : Nat} {l : List (Bool × ByteArray)} (x : Bool × ByteArray) (h : NotesIn W a cap l) (hl : l.length ≤ 100000) :
    Calls Try.prog 57 #[.slice a l.length cap, .agg #[.bool x.1, .string x.2]] W fun e w' => (∃ i : Int, e = .returned (.int .i64 i) ∧ Hid (0 ≤ i ↔ x ∈ l)) ∧ Below W.heap.size W w' := by
  obtain ⟨xb, xs⟩ := x
  have hX := heap_alloc_new W (.cells #[.bool xb, .string xs] 31)
  have hb := (Below.refl W.heap.size W).alloc (Nat.le_refl _) (.cells #[.bool xb, .string xs] 31)
  have hXk : W.heap.size < (W.alloc (.cells #[.bool xb, .string xs] 31)).heap.size := by simp
  go_enter Try.func57, Try.ntmps57
  go_wp2_with fail
  generalize W.alloc (.cells #[.bool xb, .string xs] 31) = w0 at *
  go_loopw [8] (fun s8 wr => ∃ k : Nat, k ≤ l.length ∧ s8 = .int .i64 (k : Int) ∧ Hid ((xb, xs) ∉ l.take k) ∧ wr.heap[W.heap.size]? = some (.cells #[.bool xb, .string xs] 31) ∧ Below W.heap.size W wr) (fun s8 _ => l.length - (intOf s8).toNat)
  case atStart => exact ⟨0, by omega, rfl, (by show _ ∉ _; simp), hX, hb⟩
  case round =>
    clear hX hb hXk
    obtain ⟨k, hk, rfl, hno, hX, hb⟩ := hrel
    have hin := h.below hb
    by_cases hlt : k < l.length
    · obtain ⟨b, off, rfl, c0, c1, hbl⟩ := note_cells hin hlt
      have z0 := cell_of_row _ _ 0 _ _ _ hX
      have z1 := cell_of_row _ _ 1 _ _ _ hX
      have hXl := (Array.getElem?_eq_some_iff.1 hX).1
      go_wp2_with fail
      refine wp_region_held_drew (S := fun wz => wz.heap[W.heap.size]? = some (.cells #[.bool xb, .string xs] 31) ∧ wz.cell? ⟨b, off + k * 2, none⟩ = some (.bool l[k].1) ∧ wz.cell? ⟨b, off + k * 2 + 1, none⟩ = some (.string l[k].2)) (by kernel_rfl) ⟨hX, c0, c1⟩ (fun hSS => ?_)
      refine wpAnyH_take (i := 0) (v := ?_) rfl (by kernel_rfl) (by kernel_rfl) (by kernel_rfl) (fun _ _ _ h => h) (Or.inl ⟨by rfl, ?_⟩) hSS ?_
      rotate_left
      · intro wz hSz
        have y0 := cell_of_row _ _ 0 _ _ _ hSz.1; have y1 := cell_of_row _ _ 1 _ _ _ hSz.1; have u0 := hSz.2.1; have u1 := hSz.2.2
        go_simp
        try with_reducible rfl
      simp only [List.getElem_toArray, List.getElem_cons_zero, Act.put, List.setIfInBounds_toArray, List.set_cons_zero, List.set_cons_succ]
      refine wpAnyH_take (i := 1) (v := ?_) rfl (by kernel_rfl) (by kernel_rfl) (by kernel_rfl) (fun _ _ _ h => h) (Or.inl ⟨by rfl, ?_⟩) hSS ?_
      rotate_left
      · intro wz hSz
        go_simp
        try with_reducible rfl
      simp only [List.getElem_toArray, List.getElem_cons_zero, List.getElem_cons_succ, Act.put, List.setIfInBounds_toArray, List.set_cons_zero, List.set_cons_succ]
      refine wpAnyH_take (i := 2) (v := ?_) rfl (by kernel_rfl) (by kernel_rfl) (by kernel_rfl) (fun _ _ _ h => h) (Or.inl ⟨by rfl, ?_⟩) hSS ?_
      rotate_left
      · intro wz hSz
        go_simp
        try with_reducible rfl
      simp only [List.getElem_toArray, List.getElem_cons_zero, List.getElem_cons_succ, Act.put, List.setIfInBounds_toArray, List.set_cons_zero, List.set_cons_succ]
      refine wpAnyH_take (i := 3) (v := ?_) rfl (by kernel_rfl) (by kernel_rfl) (by kernel_rfl) (fun _ _ _ h => h) (Or.inl ⟨by rfl, ?_⟩) hSS ?_
      rotate_left
      · intro wz hSz
        have y0 := cell_of_row _ _ 0 _ _ _ hSz.1; have y1 := cell_of_row _ _ 1 _ _ _ hSz.1; have u0 := hSz.2.1; have u1 := hSz.2.2
        go_simp
        try with_reducible rfl
      simp only [List.getElem_toArray, List.getElem_cons_zero, List.getElem_cons_succ, Act.put, List.setIfInBounds_toArray, List.set_cons_zero, List.set_cons_succ]
      refine wpAnyH_take (i := 4) (v := ?_) rfl (by kernel_rfl) (by kernel_rfl) (by kernel_rfl) (fun _ _ _ h => h) (Or.inl ⟨by rfl, ?_⟩) hSS ?_
      rotate_left
      · intro wz hSz
        have y0 := cell_of_row _ _ 0 _ _ _ hSz.1; have y1 := cell_of_row _ _ 1 _ _ _ hSz.1; have u0 := hSz.2.1; have u1 := hSz.2.2
        go_simp
        try with_reducible rfl
      simp only [List.getElem_toArray, List.getElem_cons_zero, List.getElem_cons_succ, Act.put, List.setIfInBounds_toArray, List.set_cons_zero, List.set_cons_succ]
      refine wpAnyH_take (i := 5) (v := .bool (sameNt (xb, xs) l[k])) rfl (by kernel_rfl) (by kernel_rfl) (by kernel_rfl) (fun _ _ _ h => h) (Or.inl ⟨by rfl, ?_⟩) hSS ?_
      · intro wz hSz
        go_simp
        exact (same_ite (xb, xs) l[k] _ _).trans (by cases sameNt (xb, xs) l[k] <;> rfl)
      simp only [List.getElem_toArray, List.getElem_cons_zero, List.getElem_cons_succ, Act.put, List.setIfInBounds_toArray, List.set_cons_zero, List.set_cons_succ]
      refine wpAnyH_done (by kernel_rfl) ?_ _
      have hX2 : wr.drew.heap[W.heap.size]? = some (.cells #[.bool xb, .string xs] 31) := hX
      have hb2 := hb.drew
      by_cases hs : sameNt (xb, xs) l[k] = true
      · have hmem : Hid (0 ≤ (k : Int) ↔ (xb, xs) ∈ l) := by
          rw [(sameNt_iff _ _).1 hs]
          exact ⟨fun _ => List.getElem_mem hlt, fun _ => by omega⟩
        rw [hs]
        go_wp2_with fail
        go_ret
        exact ⟨⟨_, rfl, hmem⟩, hb2⟩
      · have hno2 : Hid ((xb, xs) ∉ l.take (k + 1)) := by
          intro hm
          rw [List.take_succ_eq_append_getElem hlt, List.mem_append] at hm
          rcases hm with hm | hm
          · exact hno.out hm
          · simp only [List.mem_singleton] at hm
            exact hs ((sameNt_iff _ _).2 hm)
        have hs2 : sameNt (xb, xs) l[k] = false := by simpa using hs
        rw [hs2]
        go_wp2_with fail
        go_roundw
        case rel => exact ⟨k + 1, by omega, by go_num, hno2, hX2, hb2⟩
        case measure => simp [intOf]; omega
    · have hkn : k = l.length := by omega
      subst hkn
      rw [List.take_length] at hno
      go_wp2_with fail
      go_ret
      exact ⟨⟨_, rfl, ⟨fun h => by omega, fun h => absurd h hno.out⟩⟩, hb⟩
set_option maxRecDepth 100000 in
theorem ncont_any {W : World} {a : Option Addr} {cap : Nat} {l : List (Bool × ByteArray)} (x : Bool × ByteArray) (h : NotesIn W a cap l) (hl : l.length ≤ 100000) :
    Calls Try.prog 31 #[.slice a l.length cap, .agg #[.bool x.1, .string x.2]] W fun e w' => (∃ t : Int, e = .returned (.bool (decide (0 ≤ t))) ∧ Hid (0 ≤ t ↔ x ∈ l)) ∧ Below W.heap.size W w' := by
  obtain ⟨xb, xs⟩ := x
  have hb := (Below.refl W.heap.size W).alloc (Nat.le_refl _) (.cells #[.bool xb, .string xs] 31)
  have hin := h.below hb
  have CI : Hid (Calls Try.prog 57 #[.slice a l.length cap, .agg #[.bool xb, .string xs]] (W.alloc (.cells #[.bool xb, .string xs] 31)) fun e w' => (∃ i : Int, e = .returned (.int .i64 i) ∧ Hid (0 ≤ i ↔ (xb, xs) ∈ l)) ∧ Below W.heap.size W w') := by
    refine (nidx_any (xb, xs) hin hl).mono ?_
    rintro e w' ⟨h1, h2⟩
    exact ⟨h1, hb.trans (h2.mono hb.size)⟩
  clear h hb hin
  go_enter Try.func31, Try.ntmps31
  go_wp2_with fail
  refine CI.out.mono ?_
  rintro e w1 ⟨⟨i, rfl, hi⟩, hb1⟩
  clear CI
  go_wp2_with fail
  go_ret
  exact ⟨⟨i, rfl, hi⟩, hb1⟩
end Go.Proofs.Ytgknefpefeghcaa
