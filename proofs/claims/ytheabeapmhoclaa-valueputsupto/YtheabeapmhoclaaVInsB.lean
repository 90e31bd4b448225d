/- What inside answers, by how a value is held; whether two slices of texts are the same. Conditions: at most 1048576 texts. -/
import Derived.Test.YtheabeapmhoclaaVItems
import Derived.Test.YtheabeapmhoclaaVPairs
import Derived.Test.YtheabeapmhoclaaVFind
import Derived.Test.YtheabeapmhoclaaVCleanQ
import Derived.Deep.RegionHeld
import Derived.BigRegion
namespace Go.Proofs.Ytheabeapmhoclaa
open Go.RowKit Go.Maps Go.WideMaps

set_option maxRecDepth 100000 in
/-- A step of a region that draws its order, behind a guard. -/
theorem step_want {ops : Array Oper} {o : Oper} {a : Act} {w : World} {K : Act → World → Prop} {Q : Exit → Act → World → Prop} {E : Prop} (hw : Region.wanted o (yielded ops a.tmps) = true) (h : Oper.wp Try.prog o a w K Q) :
    if Region.wanted o (yielded ops a.tmps) = true then Oper.wp Try.prog o a w K Q else E := by
  rw [if_pos hw]
  exact h
set_option maxRecDepth 100000 in
set_option maxHeartbeats 1600000 in
theorem inside_leaf {h : Value} {v : V} (hl : Leaf h v) (w : World) : Calls Try.prog 70 #[h] w fun e w' => e = .returned (.tuple #[.pointer none, .slice none 0 0]) ∧ Below w.heap.size w w' := by
  have aG := as_group
  have aT := as_table
  have nG := an_group
  have nT := an_table
  rcases hl with ⟨rfl, rfl⟩ | ⟨rfl, rfl⟩ | ⟨b, rfl, rfl⟩ | ⟨n, rfl, rfl⟩ | ⟨n, m, hn, hm, rfl, rfl⟩ | ⟨s, rfl, rfl⟩
  all_goals
    go_enter Try.func70, Try.ntmps70
    go_wp2_with fail
    go_ret2
    exact ⟨rfl, Below.refl _ _⟩
set_option maxRecDepth 100000 in
set_option maxHeartbeats 1600000 in
theorem inside_list (B : Nat) (w : World) : Calls Try.prog 70 #[.iface 91 (.pointer (some ⟨B, 0, none⟩))] w fun e w' => e = .returned (.tuple #[.pointer (some ⟨B, 0, none⟩), .slice none 0 0]) ∧ Below w.heap.size w w' := by
  have aG := as_group
  have aT := as_table
  go_enter Try.func70, Try.ntmps70
  go_wp2_with fail
  go_ret2
  exact ⟨rfl, Below.refl _ _⟩
set_option maxRecDepth 100000 in
set_option maxHeartbeats 1600000 in
theorem inside_map (B : Nat) (ka : Option Addr) (n kc : Nat) (w : World) (c5 : w.cell? ⟨B, 5, none⟩ = some (.slice ka n kc)) : Calls Try.prog 70 #[.iface 114 (.pointer (some ⟨B, 0, none⟩))] w fun e w' => e = .returned (.tuple #[.pointer (some ⟨B, 0, none⟩), .slice ka n kc]) ∧ Below w.heap.size w w' := by
  have aG := as_group
  have aT := as_table
  go_enter Try.func70, Try.ntmps70
  go_wp2_with fail
  go_region
  go_wp2_with fail
  go_ret2
  exact ⟨rfl, by repeat (first | exact Below.refl _ _ | apply Below.drew)⟩
set_option maxRecDepth 100000 in
theorem take_grow {q r : List ByteArray} {j : Nat} (hq : j < q.length) (hr : j < r.length) (h : q.take j = r.take j) (he : q[j] = r[j]) : q.take (j + 1) = r.take (j + 1) := by
  rw [List.take_succ_eq_append_getElem hq, List.take_succ_eq_append_getElem hr, h, he]
set_option maxRecDepth 100000 in
set_option maxHeartbeats 3200000 in
theorem equal_any {w : World} {ok ok' : Nat → Prop} {q r : List ByteArray} {a b : Option Addr} (hq : SRow w ok a q) (hr : SRow w ok' b r) (c d : Nat) (hl : q.length ≤ 9223372036854775807) :
    Calls Try.prog 80 #[.slice a q.length c, .slice b r.length d] w fun e w' => (∃ x : Bool, e = .returned (.bool x) ∧ (x = true ↔ q = r)) ∧ Below w.heap.size w w' := by
  by_cases hn : q.length = r.length
  · have hn' : ((q.length : Int) == (r.length : Int)) = true := by rw [hn]; simp
    have HN : Hid (q.length = r.length) := hn
    have HQ : Hid (∀ j (hj : j < q.length) (hj' : j < r.length), ∃ kb ko lb lo, a = some ⟨kb, ko, none⟩ ∧ b = some ⟨lb, lo, none⟩ ∧ ∀ W, Below w.heap.size w W → W.cell? ⟨kb, ko + j, none⟩ = some (.string q[j]) ∧ W.cell? ⟨lb, lo + j, none⟩ = some (.string r[j])) := fun j hj hj2 => by
      obtain ⟨kb, ko, e1, -, h1⟩ := hq.2 (by intro e; subst e; simp at hj)
      obtain ⟨lb, lo, e2, -, h2⟩ := hr.2 (by intro e; subst e; simp at hn; subst hn; simp at hj)
      exact ⟨kb, ko, lb, lo, e1, e2, fun W hW => ⟨(hW.cell (p := ⟨kb, ko + j, none⟩) (World.block_lt_of_cell? _ _ (h1 j hj))).trans (h1 j hj), (hW.cell (p := ⟨lb, lo + j, none⟩) (World.block_lt_of_cell? _ _ (h2 j hj2))).trans (h2 j hj2)⟩⟩
    clear hq hr hn
    go_enter Try.func80, Try.ntmps80
    go_wp2_with fail
    go_loopw [13] (fun si wr => ∃ j : Nat, j ≤ q.length ∧ si = .int .i64 j ∧ Hid (q.take j = r.take j) ∧ Below w.heap.size w wr) (fun si _ => q.length - (intOf si).toNat)
    case atStart => exact ⟨0, by omega, rfl, by show List.take _ _ = _; simp, Below.refl _ _⟩
    case round =>
      obtain ⟨j, hj, rfl, ht, hb⟩ := hrel
      by_cases hlt : j < q.length
      · have hltr : j < r.length := by have := HN.out; omega
        obtain ⟨kb, ko, lb, lo, rfl, rfl, hc⟩ := HQ.out j hlt hltr
        have HR1 : Hid (∀ W, Below wr.heap.size wr W → W.cell? ⟨kb, ko + j, none⟩ = some (.string q[j]) ∧ W.cell? ⟨lb, lo + j, none⟩ = some (.string r[j])) := fun W hW => hc W (hb.trans (hW.mono hb.size))
        by_cases he : q[j] = r[j]
        · have hte := toList_eq he
          have ht2 : Hid (q.take (j + 1) = r.take (j + 1)) := take_grow hlt hltr ht.out he
          generalize q[j] = y1 at *
          generalize r[j] = y2 at *
          clear HQ hc ht he
          go_upto_region 6 with fail
          refine wp_region_held_drew (S := fun w' => Below wr.heap.size wr w') (by kernel_rfl) (Below.drew (Below.refl _ _)) (fun hSS => ?_)
          refine wpAnyH_take (i := 0) (v := ?_) rfl (by kernel_rfl) (by kernel_rfl) (by kernel_rfl) (fun _ _ _ h => h) (Or.inl ⟨by rfl, ?_⟩) hSS ?_
          rotate_left
          · intro wz hSz
            go_simp
            try with_reducible rfl
          simp only [List.getElem_toArray, List.getElem_cons_zero, Act.put, List.setIfInBounds_toArray, List.set_cons_zero, List.set_cons_succ]
          refine wpAnyH_take (i := 1) (v := ?_) rfl (by kernel_rfl) (by kernel_rfl) (by kernel_rfl) (fun _ _ _ h => h) (Or.inl ⟨by rfl, ?_⟩) hSS ?_
          rotate_left
          · intro wz hSz
            go_simp
            try with_reducible rfl
          simp only [List.getElem_toArray, List.getElem_cons_zero, List.getElem_cons_succ, Act.put, List.setIfInBounds_toArray, List.set_cons_zero, List.set_cons_succ]
          refine wpAnyH_take (i := 2) (v := ?_) rfl (by kernel_rfl) (by kernel_rfl) (by kernel_rfl) (fun _ _ _ h => h) (Or.inl ⟨by rfl, ?_⟩) hSS ?_
          rotate_left
          · intro wz hSz
            go_simp
            try with_reducible rfl
          simp only [List.getElem_toArray, List.getElem_cons_zero, List.getElem_cons_succ, Act.put, List.setIfInBounds_toArray, List.set_cons_zero, List.set_cons_succ]
          refine wpAnyH_take (i := 3) (v := ?_) rfl (by kernel_rfl) (by kernel_rfl) (by kernel_rfl) (fun _ _ _ h => h) (Or.inl ⟨by rfl, ?_⟩) hSS ?_
          rotate_left
          · intro wz hSz
            obtain ⟨p0, p1⟩ := HR1.out _ hSz
            go_simp
            try with_reducible rfl
          simp only [List.getElem_toArray, List.getElem_cons_zero, List.getElem_cons_succ, Act.put, List.setIfInBounds_toArray, List.set_cons_zero, List.set_cons_succ]
          refine wpAnyH_take (i := 4) (v := ?_) rfl (by kernel_rfl) (by kernel_rfl) (by kernel_rfl) (fun _ _ _ h => h) (Or.inl ⟨by rfl, ?_⟩) hSS ?_
          rotate_left
          · intro wz hSz
            go_simp
            try with_reducible rfl
          simp only [List.getElem_toArray, List.getElem_cons_zero, List.getElem_cons_succ, Act.put, List.setIfInBounds_toArray, List.set_cons_zero, List.set_cons_succ]
          refine wpAnyH_take (i := 5) (v := ?_) rfl (by kernel_rfl) (by kernel_rfl) (by kernel_rfl) (fun _ _ _ h => h) (Or.inl ⟨by rfl, ?_⟩) hSS ?_
          rotate_left
          · intro wz hSz
            go_simp
            try with_reducible rfl
          simp only [List.getElem_toArray, List.getElem_cons_zero, List.getElem_cons_succ, Act.put, List.setIfInBounds_toArray, List.set_cons_zero, List.set_cons_succ]
          refine wpAnyH_take (i := 6) (v := ?_) rfl (by kernel_rfl) (by kernel_rfl) (by kernel_rfl) (fun _ _ _ h => h) (Or.inl ⟨by rfl, ?_⟩) hSS ?_
          rotate_left
          · intro wz hSz
            go_simp
            try with_reducible rfl
          simp only [List.getElem_toArray, List.getElem_cons_zero, List.getElem_cons_succ, Act.put, List.setIfInBounds_toArray, List.set_cons_zero, List.set_cons_succ]
          refine wpAnyH_take (i := 7) (v := ?_) rfl (by kernel_rfl) (by kernel_rfl) (by kernel_rfl) (fun _ _ _ h => h) (Or.inl ⟨by rfl, ?_⟩) hSS ?_
          rotate_left
          · intro wz hSz
            obtain ⟨p0, p1⟩ := HR1.out _ hSz
            go_simp
            try with_reducible rfl
          simp only [List.getElem_toArray, List.getElem_cons_zero, List.getElem_cons_succ, Act.put, List.setIfInBounds_toArray, List.set_cons_zero, List.set_cons_succ]
          refine wpAnyH_take (i := 8) (v := (.bool false)) rfl (by kernel_rfl) (by kernel_rfl) (by kernel_rfl) (fun _ _ _ h => h) (Or.inl ⟨by rfl, ?_⟩) hSS ?_
          · intro wz hSz
            go_simp
          simp only [List.getElem_toArray, List.getElem_cons_zero, List.getElem_cons_succ, Act.put, List.setIfInBounds_toArray, List.set_cons_zero, List.set_cons_succ]
          refine wpAnyH_done (by kernel_rfl) ?_ _
          go_wp2_with fail
          go_roundw
          case rel => exact ⟨j + 1, by omega, by go_num, ht2, hb.trans (hSS.mono hb.size)⟩
          case measure => simp [intOf]; omega
        · have hte := toList_ne he
          have hne : Hid (q ≠ r) := fun e => he (by simp only [e])
          generalize q[j] = y1 at *
          generalize r[j] = y2 at *
          clear HQ hc ht he
          go_upto_region 6 with fail
          refine wp_region_held_drew (S := fun w' => Below wr.heap.size wr w') (by kernel_rfl) (Below.drew (Below.refl _ _)) (fun hSS => ?_)
          refine wpAnyH_take (i := 0) (v := ?_) rfl (by kernel_rfl) (by kernel_rfl) (by kernel_rfl) (fun _ _ _ h => h) (Or.inl ⟨by rfl, ?_⟩) hSS ?_
          rotate_left
          · intro wz hSz
            go_simp
            try with_reducible rfl
          simp only [List.getElem_toArray, List.getElem_cons_zero, Act.put, List.setIfInBounds_toArray, List.set_cons_zero, List.set_cons_succ]
          refine wpAnyH_take (i := 1) (v := ?_) rfl (by kernel_rfl) (by kernel_rfl) (by kernel_rfl) (fun _ _ _ h => h) (Or.inl ⟨by rfl, ?_⟩) hSS ?_
          rotate_left
          · intro wz hSz
            go_simp
            try with_reducible rfl
          simp only [List.getElem_toArray, List.getElem_cons_zero, List.getElem_cons_succ, Act.put, List.setIfInBounds_toArray, List.set_cons_zero, List.set_cons_succ]
          refine wpAnyH_take (i := 2) (v := ?_) rfl (by kernel_rfl) (by kernel_rfl) (by kernel_rfl) (fun _ _ _ h => h) (Or.inl ⟨by rfl, ?_⟩) hSS ?_
          rotate_left
          · intro wz hSz
            go_simp
            try with_reducible rfl
          simp only [List.getElem_toArray, List.getElem_cons_zero, List.getElem_cons_succ, Act.put, List.setIfInBounds_toArray, List.set_cons_zero, List.set_cons_succ]
          refine wpAnyH_take (i := 3) (v := ?_) rfl (by kernel_rfl) (by kernel_rfl) (by kernel_rfl) (fun _ _ _ h => h) (Or.inl ⟨by rfl, ?_⟩) hSS ?_
          rotate_left
          · intro wz hSz
            obtain ⟨p0, p1⟩ := HR1.out _ hSz
            go_simp
            try with_reducible rfl
          simp only [List.getElem_toArray, List.getElem_cons_zero, List.getElem_cons_succ, Act.put, List.setIfInBounds_toArray, List.set_cons_zero, List.set_cons_succ]
          refine wpAnyH_take (i := 4) (v := ?_) rfl (by kernel_rfl) (by kernel_rfl) (by kernel_rfl) (fun _ _ _ h => h) (Or.inl ⟨by rfl, ?_⟩) hSS ?_
          rotate_left
          · intro wz hSz
            go_simp
            try with_reducible rfl
          simp only [List.getElem_toArray, List.getElem_cons_zero, List.getElem_cons_succ, Act.put, List.setIfInBounds_toArray, List.set_cons_zero, List.set_cons_succ]
          refine wpAnyH_take (i := 5) (v := ?_) rfl (by kernel_rfl) (by kernel_rfl) (by kernel_rfl) (fun _ _ _ h => h) (Or.inl ⟨by rfl, ?_⟩) hSS ?_
          rotate_left
          · intro wz hSz
            go_simp
            try with_reducible rfl
          simp only [List.getElem_toArray, List.getElem_cons_zero, List.getElem_cons_succ, Act.put, List.setIfInBounds_toArray, List.set_cons_zero, List.set_cons_succ]
          refine wpAnyH_take (i := 6) (v := ?_) rfl (by kernel_rfl) (by kernel_rfl) (by kernel_rfl) (fun _ _ _ h => h) (Or.inl ⟨by rfl, ?_⟩) hSS ?_
          rotate_left
          · intro wz hSz
            go_simp
            try with_reducible rfl
          simp only [List.getElem_toArray, List.getElem_cons_zero, List.getElem_cons_succ, Act.put, List.setIfInBounds_toArray, List.set_cons_zero, List.set_cons_succ]
          refine wpAnyH_take (i := 7) (v := ?_) rfl (by kernel_rfl) (by kernel_rfl) (by kernel_rfl) (fun _ _ _ h => h) (Or.inl ⟨by rfl, ?_⟩) hSS ?_
          rotate_left
          · intro wz hSz
            obtain ⟨p0, p1⟩ := HR1.out _ hSz
            go_simp
            try with_reducible rfl
          simp only [List.getElem_toArray, List.getElem_cons_zero, List.getElem_cons_succ, Act.put, List.setIfInBounds_toArray, List.set_cons_zero, List.set_cons_succ]
          refine wpAnyH_take (i := 8) (v := (.bool true)) rfl (by kernel_rfl) (by kernel_rfl) (by kernel_rfl) (fun _ _ _ h => h) (Or.inl ⟨by rfl, ?_⟩) hSS ?_
          · intro wz hSz
            go_simp
          simp only [List.getElem_toArray, List.getElem_cons_zero, List.getElem_cons_succ, Act.put, List.setIfInBounds_toArray, List.set_cons_zero, List.set_cons_succ]
          refine wpAnyH_done (by kernel_rfl) ?_ _
          go_wp2_with fail
          go_ret
          exact ⟨⟨false, rfl, by simpa using hne.out⟩, hb.trans (hSS.mono hb.size)⟩
      · have he : Hid (q = r) := by
          have h1 := ht.out
          rwa [List.take_of_length_le (by omega), List.take_of_length_le (by have := HN.out; omega)] at h1
        clear HQ ht
        go_wp2_with fail
        go_ret
        exact ⟨⟨true, rfl, by simpa using he.out⟩, hb⟩
  · have hn' : ((q.length : Int) == (r.length : Int)) = false := by rw [beq_eq_false_iff_ne]; omega
    have hne : Hid (q ≠ r) := fun e => hn (by rw [e])
    clear hq hr
    go_enter Try.func80, Try.ntmps80
    go_wp2_with fail
    go_ret
    exact ⟨⟨false, rfl, by simpa using hne.out⟩, Below.refl _ _⟩
end Go.Proofs.Ytheabeapmhoclaa
