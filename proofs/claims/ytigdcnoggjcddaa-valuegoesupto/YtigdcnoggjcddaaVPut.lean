/- A value with another one where one step leads: put. Conditions: values and a step in memory, the answer's of at most 1048576 values and letters. -/
import Derived.Test.YtigdcnoggjcddaaVTWith
namespace Go.Proofs.Ytigdcnoggjcddaa
open Go.RowKit Go.Maps Go.WideMaps

/-- The blocks of put's own: the value, the one that is put in, the step, the answer. -/
def B4 (w W : World) (h u : Value) (key : ByteArray) (i : Int) : Prop :=
  W.heap[w.heap.size]? = some (.cells #[h] 30 (0, 0)) ∧ W.heap[w.heap.size + 1]? = some (.cells #[u] 30 (0, 0)) ∧ W.heap[w.heap.size + 2]? = some (.cells #[.string key, .int .i64 i] 42 (0, 0)) ∧ W.heap[w.heap.size + 3]? = some (.cells #[.nilIface] 30 (0, 0)) ∧ Below w.heap.size w W
set_option maxRecDepth 100000 in
theorem B4.start (w : World) (h u : Value) (key : ByteArray) (i : Int) : B4 w ((((w.alloc (.cells #[h] 30)).alloc (.cells #[u] 30)).alloc (.cells #[.string key, .int .i64 i] 42)).alloc (.cells #[.nilIface] 30)) h u key i := by
  refine ⟨?_, ?_, ?_, ?_, ((((Below.refl _ _).alloc (Nat.le_refl _) _).alloc (by simp) _).alloc (by simp <;> omega) _).alloc (by simp <;> omega) _⟩
  · rw [Below.heap_alloc _ _ _ (by simp <;> omega), Below.heap_alloc _ _ _ (by simp <;> omega), Below.heap_alloc _ _ _ (by simp)]; exact heap_alloc_new _ _
  · rw [Below.heap_alloc _ _ _ (by simp <;> omega), Below.heap_alloc _ _ _ (by simp)]
    simpa using heap_alloc_new (w.alloc (.cells #[h] 30)) (.cells #[u] 30)
  · rw [Below.heap_alloc _ _ _ (by simp)]
    simpa using heap_alloc_new ((w.alloc (.cells #[h] 30)).alloc (.cells #[u] 30)) (.cells #[.string key, .int .i64 i] 42)
  · simpa using heap_alloc_new (((w.alloc (.cells #[h] 30)).alloc (.cells #[u] 30)).alloc (.cells #[.string key, .int .i64 i] 42)) (.cells #[.nilIface] 30)
set_option maxRecDepth 100000 in
theorem B4.below {w W W' : World} {h u : Value} {key : ByteArray} {i : Int} (hB : B4 w W h u key i) (hb : Below W.heap.size W W') : B4 w W' h u key i := by
  obtain ⟨a, b, c, e, d⟩ := hB
  have l1 := (Array.getElem?_eq_some_iff.1 a).1
  have l2 := (Array.getElem?_eq_some_iff.1 b).1
  have l3 := (Array.getElem?_eq_some_iff.1 c).1
  have l4 := (Array.getElem?_eq_some_iff.1 e).1
  exact ⟨(hb.block _ l1).trans a, (hb.block _ l2).trans b, (hb.block _ l3).trans c, (hb.block _ l4).trans e, d.trans (hb.mono (Nat.le_of_lt l1))⟩
set_option maxRecDepth 100000 in
theorem B4.size {w W : World} {h u : Value} {key : ByteArray} {i : Int} (hB : B4 w W h u key i) : w.heap.size + 3 < W.heap.size := (Array.getElem?_eq_some_iff.1 hB.2.2.2.1).1
set_option maxRecDepth 100000 in
theorem B4.cells {w W : World} {h u : Value} {key : ByteArray} {i : Int} (hB : B4 w W h u key i) : W.cell? ⟨w.heap.size, 0, none⟩ = some h ∧ W.cell? ⟨w.heap.size + 1, 0, none⟩ = some u ∧ W.cell? ⟨w.heap.size + 2, 0, none⟩ = some (.string key) ∧ W.cell? ⟨w.heap.size + 2, 1, none⟩ = some (.int .i64 i) ∧ W.cell? ⟨w.heap.size + 3, 0, none⟩ = some .nilIface ∧ W.frozen? ⟨w.heap.size + 3, 0, none⟩ = false := by
  obtain ⟨a, b, c, e, d⟩ := hB
  exact ⟨cell_of_row _ _ _ _ _ _ a, cell_of_row _ _ _ _ _ _ b, cell_of_row _ _ _ _ _ _ c, cell_of_row _ _ _ _ _ _ c, cell_of_row _ _ _ _ _ _ e, frozen_of_row _ _ _ _ _ e⟩
set_option maxRecDepth 100000 in
theorem B4.done {w W : World} {h u : Value} {key : ByteArray} {i : Int} (hB : B4 w W h u key i) (g : Value) : (W.setCell ⟨w.heap.size + 3, 0, none⟩ g).cell? ⟨w.heap.size + 3, 0, none⟩ = some g ∧ Below w.heap.size w (W.setCell ⟨w.heap.size + 3, 0, none⟩ g) := by
  obtain ⟨a, b, c, e, d⟩ := hB
  exact ⟨cell_of_row _ _ _ _ _ _ (heap_setCell_same _ _ 0 _ _ g e), d.setCell (by simp) _⟩
set_option maxRecDepth 100000 in
theorem Rep.set3 {w W : World} {ok : Nat → Prop} {h : Value} {x : V} (hr : Rep W (fun b => ok b ∧ b ≠ w.heap.size + 3) h x) (u : Value) : Rep (W.setCell ⟨w.heap.size + 3, 0, none⟩ u) ok h x :=
  (hr.agree (fun _ hb _ => Below.heap_setCell _ _ _ _ hb.2)).mono (fun _ h1 _ => h1.1)
set_option maxRecDepth 100000 in
theorem put_no (v x : V) (s : St) (h : (s.byKey = true → v.k ≠ 7) ∧ (s.byKey = false → v.k ≠ 6)) : v.put x s = (V.null, 6) := by
  unfold V.put
  cases hb : s.byKey
  · simp [h.2 hb]
  · simp [h.1 hb]
set_option maxRecDepth 100000 in
set_option maxHeartbeats 3200000 in
theorem put_any {w : World} {ok : Nat → Prop} (hk : ∀ b, w.heap.size ≤ b → ok b) {h u : Value} {v x : V} (hr : Rep w ok h v) (hcl : v.cl) (hu : Rep w ok u x) (s : St) (hs : s.ok) (hn : v.l.length ≤ 1048575) (hbk : V.bulk.go (v.put x s).1.l ≤ 1048576) :
    Calls Try.prog 51 #[.agg #[h], .agg #[u], s.val] w fun e w' => ∃ g, e = .returned (.tuple #[.agg #[g], .int .i64 (v.put x s).2]) ∧ Rep w' ok g (v.put x s).1 ∧ Below w.heap.size w w' := by
  have CB : Hid (∀ W, Calls Try.prog 73 #[s.val] W fun e w' => e = .returned (.bool s.byKey) ∧ Below W.heap.size W w') := fun W => byKey_any s W
  obtain ⟨hs1, hs2⟩ := hs
  have KEY : Hid (∀ (W : World) (bk : Bool), s.byKey = bk → Below w.heap.size w W → w.heap.size + 3 < W.heap.size → (bk = true ∧ v.k = 7 → ∃ A, h = .iface 114 (.pointer (some A)) ∧ ∀ W2, Below W.heap.size W W2 → Calls Try.prog 78 #[.pointer (some A), .string s.key, .agg #[u]] W2 fun e w' => ∃ g, e = .returned (.agg #[g]) ∧ g.oneCell' = true ∧ (v.put x s).2 = 0 ∧ Rep w' (fun b => ok b ∧ b ≠ w.heap.size + 3) g (v.put x s).1 ∧ Below W2.heap.size W2 w') ∧
      (bk = false ∧ v.k = 6 → ∃ A, h = .iface 91 (.pointer (some A)) ∧ ∀ W2, Below W.heap.size W W2 → Calls Try.prog 79 #[.pointer (some A), .int .i64 s.at_, .agg #[u]] W2 fun e w' => ∃ g, e = .returned (.tuple #[.agg #[g], .int .i64 (v.put x s).2]) ∧ g.oneCell' = true ∧ Rep w' (fun b => ok b ∧ b ≠ w.heap.size + 3) g (v.put x s).1 ∧ Below W2.heap.size W2 w') ∧
      ((bk = true → v.k ≠ 7) → bk = true → v.put x s = (V.null, 6)) ∧ ((bk = false → v.k ≠ 6) → bk = false → v.put x s = (V.null, 6))) := by
    intro W bk hbk' hW hsz
    have hup : ∀ W2, Below W.heap.size W W2 → Below w.heap.size w W2 ∧ w.heap.size + 3 < W2.heap.size := fun W2 h2 => ⟨hW.trans (h2.mono hW.size), Nat.lt_of_lt_of_le hsz h2.size⟩
    refine ⟨?_, ?_, ?_, ?_⟩
    · rintro ⟨rfl, hk7⟩
      have hr2 := hr.mono (ok' := fun b => ok b ∧ b < w.heap.size) (fun b h1 h2 => ⟨h1, h2⟩)
      have hu2 := hu.mono (ok' := fun b => ok b ∧ b < w.heap.size) (fun b h1 h2 => ⟨h1, h2⟩)
      have hput : v.put x s = (mapPut v.l v.keys s.key x, 0) := by unfold V.put; rw [if_pos hbk', if_pos hk7]
      obtain ⟨-, -, hrise, -⟩ := cl_map hcl hk7
      rw [hput] at hbk ⊢
      clear hr hu
      induction hr2 using Rep.ind
      case map B M l q a c ka kc H hB hMo ha hka hq c0 c1 c2 c3 c4 c5 c6 hkk hM hrow hin _ =>
        refine ⟨_, rfl, fun W2 hW2 => ?_⟩
        obtain ⟨hb2, hs2⟩ := hup W2 hW2
        have up : ∀ b, ok b ∧ b < w.heap.size → b < W2.heap.size → ok b ∧ b ≠ w.heap.size + 3 := fun b h1 _ => ⟨h1.1, by omega⟩
        have hrow2 : RRow W2 (fun b => ok b ∧ b ≠ w.heap.size + 3) a l := (RRow.agree (w := w) (w' := W2) ⟨H, hrow, hin⟩ (fun b h1 _ => hb2.block b h1.2)).mono up
        have hsr := ((hkk.agree (w' := W2) (fun b h1 _ => hb2.block b h1.2)).mono up)
        have C := twith_any (ok := fun b => ok b ∧ b ≠ w.heap.size + 3) (w := W2) (fun b hb => ⟨hk b (by omega), by omega⟩) B M l q a c ka kc ((hb2.cell (p := ⟨B, 4, none⟩) (World.block_lt_of_cell? _ _ c4)).trans c4) ((hb2.cell (p := ⟨B, 5, none⟩) (World.block_lt_of_cell? _ _ c5)).trans c5) ((hb2.cell (p := ⟨B, 6, none⟩) (World.block_lt_of_cell? _ _ c6)).trans c6) (hM.agree (hb2.block M hM.lt)) hrow2 ha hsr hka hq hrise s.key hs1 ((hu2.agree (w' := W2) (fun b h1 _ => hb2.block b h1.2)).mono up) hn hbk
        refine C.mono ?_
        rintro e w' ⟨g, rfl, h1, h2⟩
        exact ⟨g, rfl, h1.one, rfl, h1, h2⟩
      all_goals exact absurd hk7 (by simp [V.null])
    · rintro ⟨rfl, hk6⟩
      have hr2 := hr.mono (ok' := fun b => ok b ∧ b < w.heap.size) (fun b h1 h2 => ⟨h1, h2⟩)
      have hu2 := hu.mono (ok' := fun b => ok b ∧ b < w.heap.size) (fun b h1 h2 => ⟨h1, h2⟩)
      have hput : v.put x s = if s.at_ ≤ v.l.length then (V.list (putAt v.l s.at_.toNat x), 0) else (V.null, 2) := by unfold V.put; rw [if_neg (by rw [hbk']; simp), if_pos hk6]
      rw [hput] at hbk ⊢
      clear hr hu
      induction hr2 using Rep.ind
      case list B l a c H hB ha c0 c1 c2 c3 c4 hrow hin _ =>
        refine ⟨_, rfl, fun W2 hW2 => ?_⟩
        obtain ⟨hb2, hs2⟩ := hup W2 hW2
        have up : ∀ b, ok b ∧ b < w.heap.size → b < W2.heap.size → ok b ∧ b ≠ w.heap.size + 3 := fun b h1 _ => ⟨h1.1, by omega⟩
        have hrow2 : RRow W2 (fun b => ok b ∧ b ≠ w.heap.size + 3) a l := (RRow.agree (w := w) (w' := W2) ⟨H, hrow, hin⟩ (fun b h1 _ => hb2.block b h1.2)).mono up
        have C := gwith_any (ok := fun b => ok b ∧ b ≠ w.heap.size + 3) (w := W2) (fun b hb => ⟨hk b (by omega), by omega⟩) B l a c ((hb2.cell (p := ⟨B, 4, none⟩) (World.block_lt_of_cell? _ _ c4)).trans c4) hrow2 ha (byKey_at hbk') ((hu2.agree (w' := W2) (fun b h1 _ => hb2.block b h1.2)).mono up) (Nat.le_trans hn (by omega)) (fun h => by
          simp only at hbk
          rw [if_pos h] at hbk
          exact hbk)
        refine C.mono ?_
        rintro e w' ⟨g, rfl, h1, h2⟩
        refine ⟨g, ?_, h1.one, ?_, h2⟩
        · simp only
          split <;> rfl
        · simp only
          split at h1
          · rename_i h; rw [if_pos h]; exact h1
          · rename_i h; rw [if_neg h]; exact h1
      all_goals exact absurd hk6 (by simp [V.null])
    · intro h1 h2
      exact put_no v x s ⟨fun _ => h1 h2, fun h => by rw [hbk', h2] at h; cases h⟩
    · intro h1 h2
      exact put_no v x s ⟨(fun h => by rw [hbk', h2] at h; cases h), fun _ => h1 h2⟩
  have hone := hr.one
  have hone2 := hu.one
  have KN : Hid (∀ W, (v.k ≠ 7 → Calls Try.prog 74 #[h] W fun e w' => e = .returned (.tuple #[.pointer none, .int .i64 6]) ∧ Below W.heap.size W w') ∧ (v.k ≠ 6 → Calls Try.prog 76 #[h] W fun e w' => e = .returned (.tuple #[.pointer none, .int .i64 6]) ∧ Below W.heap.size W w')) := fun W => ⟨fun hk => mmap_no hr hk W, fun hk => mlist_no hr hk W⟩
  clear hr hu hcl hbk hn hk
  obtain ⟨key, i⟩ := s
  unfold St.val at CB
  unfold St.val
  dsimp only at *
  generalize v.put x ⟨key, i⟩ = R at *
  go_enter Try.func51, Try.ntmps51
  go_wp2_with fail
  have hB0 := B4.start w h u key i
  refine (CB.out _).mono ?_
  rintro e w1 ⟨rfl, hb1⟩
  have hB1 := hB0.below hb1
  obtain ⟨x0, x1, x2, x3, x4, x5⟩ := hB1.cells
  clear hB0 hb1 CB
  obtain ⟨K1, K2, K3, K4⟩ := KEY.out w1 _ rfl hB1.2.2.2.2 hB1.size
  clear KEY
  cases hbk : St.byKey ⟨key, i⟩
  · rw [hbk] at K2 K4
    clear K1 K3
    by_cases hk6 : v.k = 6
    · obtain ⟨A, rfl, C⟩ := K2 ⟨rfl, hk6⟩
      have HC : Hid _ := C
      clear C K2 K4 KN hone
      go_wp2_with fail
      refine (mlist_yes _ _).mono ?_
      rintro e w2 ⟨rfl, hb2⟩
      have hB2 := hB1.below hb2
      obtain ⟨y0, y1, y2, y3, y4, y5⟩ := hB2.cells
      clear x0 x1 x2 x3 x4 x5
      go_wp2_with fail
      refine (HC.out _ hb2).mono ?_
      rintro e w3 ⟨g, rfl, hg, hrep, hb3⟩
      have hB3 := hB2.below hb3
      obtain ⟨z0, z1, z2, z3, z4, z5⟩ := hB3.cells
      have st := store_old g .nilIface hg w3 _ z4 z5
      obtain ⟨g1, g2⟩ := hB3.done g
      have hrep2 := hrep.set3 g
      clear y0 y1 y2 y3 y4 y5 HC hrep
      go_wp2_with fail
      exact bodyPost_ret (v := .tuple #[.agg #[g], .int .i64 R.2]) (by simp [results, Try.results51, go_sem, g1]) rfl ⟨g, rfl, hrep2, g2⟩
    · have hR : Hid (R = (V.null, 6)) := K4 (fun _ => hk6) rfl
      have C := (KN.out w1).2 hk6
      clear K2 K4 KN hone
      go_wp2_with fail
      refine C.mono ?_
      rintro e w2 ⟨rfl, hb2⟩
      have hB2 := hB1.below hb2
      obtain ⟨y0, y1, y2, y3, y4, y5⟩ := hB2.cells
      obtain ⟨g1, g2⟩ := hB2.done .nilIface
      clear x0 x1 x2 x3 x4 x5 C
      go_wp2_with fail
      exact bodyPost_ret (v := .tuple #[.agg #[.nilIface], .int .i64 6]) (by simp [results, Try.results51, go_sem, g1]) rfl ⟨_, by rw [hR.out], by rw [hR.out]; exact Rep.null, g2⟩
  · rw [hbk] at K1 K3
    clear K2 K4
    by_cases hk7 : v.k = 7
    · obtain ⟨A, rfl, C⟩ := K1 ⟨rfl, hk7⟩
      have HC : Hid _ := C
      clear C K1 K3 KN hone
      go_wp2_with fail
      refine (mmap_yes _ _).mono ?_
      rintro e w2 ⟨rfl, hb2⟩
      have hB2 := hB1.below hb2
      obtain ⟨y0, y1, y2, y3, y4, y5⟩ := hB2.cells
      clear x0 x1 x2 x3 x4 x5
      go_wp2_with fail
      refine (HC.out _ hb2).mono ?_
      rintro e w3 ⟨g, rfl, hg, hz, hrep, hb3⟩
      have hB3 := hB2.below hb3
      obtain ⟨z0, z1, z2, z3, z4, z5⟩ := hB3.cells
      have st := store_old g .nilIface hg w3 _ z4 z5
      obtain ⟨g1, g2⟩ := hB3.done g
      have hrep2 := hrep.set3 g
      have hZ : Hid (R.2 = 0) := hz
      clear y0 y1 y2 y3 y4 y5 HC hrep hz
      go_wp2_with fail
      exact bodyPost_ret (v := .tuple #[.agg #[g], .int .i64 0]) (by simp [results, Try.results51, go_sem, g1]) rfl ⟨g, by rw [hZ.out], hrep2, g2⟩
    · have hR : Hid (R = (V.null, 6)) := K3 (fun _ => hk7) rfl
      have C := (KN.out w1).1 hk7
      clear K1 K3 KN hone
      go_wp2_with fail
      refine C.mono ?_
      rintro e w2 ⟨rfl, hb2⟩
      have hB2 := hB1.below hb2
      obtain ⟨y0, y1, y2, y3, y4, y5⟩ := hB2.cells
      obtain ⟨g1, g2⟩ := hB2.done .nilIface
      clear x0 x1 x2 x3 x4 x5 C
      go_wp2_with fail
      exact bodyPost_ret (v := .tuple #[.agg #[.nilIface], .int .i64 6]) (by simp [results, Try.results51, go_sem, g1]) rfl ⟨_, by rw [hR.out], by rw [hR.out]; exact Rep.null, g2⟩
end Go.Proofs.Ytigdcnoggjcddaa

