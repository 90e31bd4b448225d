/- A value with another one where steps lead: With. Conditions: clean values and steps in memory, at most 1048575 values and letters together. -/
import Derived.Test.YtigdcnoggjcddaaVWithP
import Derived.Deep.RegionHeld
namespace Go.Proofs.Ytigdcnoggjcddaa
open Go.RowKit Go.Maps Go.WideMaps

set_option maxRecDepth 100000 in
theorem StRow.below {w W : World} {ao : Option Addr} {l : List St} (h : StRow w ao l) (hb : Below w.heap.size w W) : StRow W ao l := by
  refine ⟨h.1, fun hne => ?_⟩
  obtain ⟨b, off, e, hc⟩ := h.2 hne
  have hlt := World.block_lt_of_cell? _ _ (hc 0 (List.length_pos_iff.2 hne)).1
  exact ⟨b, off, e, fun j hj => ⟨(hb.cell (p := ⟨b, off + j * 2, none⟩) hlt).trans (hc j hj).1, (hb.cell (p := ⟨b, off + j * 2 + 1, none⟩) hlt).trans (hc j hj).2⟩⟩
set_option maxRecDepth 100000 in
theorem StRow.init {w : World} {ao : Option Addr} {l : List St} (h : StRow w ao l) : StRow w ao l.dropLast := by
  refine ⟨fun s hs => h.1 s (List.dropLast_subset _ hs), fun hne => ?_⟩
  obtain ⟨b, off, e, hc⟩ := h.2 (by intro e; subst e; exact hne rfl)
  exact ⟨b, off, e, fun j hj => by
    rw [List.length_dropLast] at hj
    rw [List.getElem_dropLast]
    exact hc j (by omega)⟩
/-- The blocks of With's own: the value, the one that is put in, the answer. -/
def WBX (w W : World) (h y : Value) : Prop :=
  W.heap[w.heap.size]? = some (.cells #[h] 30 (0, 0)) ∧ W.heap[w.heap.size + 1]? = some (.cells #[y] 30 (0, 0)) ∧ W.heap[w.heap.size + 2]? = some (.cells #[.nilIface] 30 (0, 0)) ∧ Below w.heap.size w W
set_option maxRecDepth 100000 in
theorem WBX.start (w : World) (h u : Value) : WBX w (((w.alloc (.cells #[h] 30)).alloc (.cells #[u] 30)).alloc (.cells #[.nilIface] 30)) h u := by
  refine ⟨?_, ?_, ?_, (((Below.refl _ _).alloc (Nat.le_refl _) _).alloc (by simp) _).alloc (by simp <;> omega) _⟩
  · rw [Below.heap_alloc _ _ _ (by simp <;> omega), Below.heap_alloc _ _ _ (by simp)]; exact heap_alloc_new _ _
  · rw [Below.heap_alloc _ _ _ (by simp)]
    simpa using heap_alloc_new (w.alloc (.cells #[h] 30)) (.cells #[u] 30)
  · simpa using heap_alloc_new ((w.alloc (.cells #[h] 30)).alloc (.cells #[u] 30)) (.cells #[.nilIface] 30)
set_option maxRecDepth 100000 in
theorem WBX.below {w W W' : World} {h y : Value} (hB : WBX w W h y) (hb : Below W.heap.size W W') : WBX w W' h y := by
  obtain ⟨a, b, c, d⟩ := hB
  have l1 := (Array.getElem?_eq_some_iff.1 a).1
  have l2 := (Array.getElem?_eq_some_iff.1 b).1
  have l3 := (Array.getElem?_eq_some_iff.1 c).1
  exact ⟨(hb.block _ l1).trans a, (hb.block _ l2).trans b, (hb.block _ l3).trans c, d.trans (hb.mono (Nat.le_of_lt l1))⟩
set_option maxRecDepth 100000 in
theorem WBX.drew {w W : World} {h y : Value} (hB : WBX w W h y) : WBX w W.drew h y := ⟨hB.1, hB.2.1, hB.2.2.1, hB.2.2.2.drew⟩
set_option maxRecDepth 100000 in
theorem WBX.size {w W : World} {h y : Value} (hB : WBX w W h y) : w.heap.size + 2 < W.heap.size := (Array.getElem?_eq_some_iff.1 hB.2.2.1).1
set_option maxRecDepth 100000 in
theorem WBX.cells {w W : World} {h y : Value} (hB : WBX w W h y) : W.cell? ⟨w.heap.size, 0, none⟩ = some h ∧ W.cell? ⟨w.heap.size + 1, 0, none⟩ = some y ∧ W.cell? ⟨w.heap.size + 2, 0, none⟩ = some .nilIface ∧ W.frozen? ⟨w.heap.size + 2, 0, none⟩ = false := by
  obtain ⟨a, b, c, d⟩ := hB
  exact ⟨cell_of_row _ _ _ _ _ _ a, cell_of_row _ _ _ _ _ _ b, cell_of_row _ _ _ _ _ _ c, frozen_of_row _ _ _ _ _ c⟩
set_option maxRecDepth 100000 in
theorem WBX.set {w W : World} {h y : Value} (hB : WBX w W h y) (g : Value) : WBX w (W.setCell ⟨w.heap.size + 1, 0, none⟩ g) h g := by
  obtain ⟨a, b, c, d⟩ := hB
  exact ⟨(Below.heap_setCell _ _ _ _ (by simp)).trans a, heap_setCell_same _ _ 0 _ _ g b, (Below.heap_setCell _ _ _ _ (by simp)).trans c, d.setCell (by simp) _⟩
set_option maxRecDepth 100000 in
theorem WBX.done {w W : World} {h y : Value} (hB : WBX w W h y) (g : Value) : (W.setCell ⟨w.heap.size + 2, 0, none⟩ g).cell? ⟨w.heap.size + 2, 0, none⟩ = some g ∧ Below w.heap.size w (W.setCell ⟨w.heap.size + 2, 0, none⟩ g) := by
  obtain ⟨a, b, c, d⟩ := hB
  exact ⟨cell_of_row _ _ _ _ _ _ (heap_setCell_same _ _ 0 _ _ g c), d.setCell (by simp) _⟩
/-- Which blocks values may lie in while With is at work. -/
def okW (ok : Nat → Prop) (w : World) (b : Nat) : Prop := ok b ∧ b ≠ w.heap.size + 1 ∧ b ≠ w.heap.size + 2
set_option maxRecDepth 100000 in
theorem Rep.setW {w W : World} {ok : Nat → Prop} {h : Value} {x : V} (hr : Rep W (okW ok w) h x) (u : Value) : Rep (W.setCell ⟨w.heap.size + 1, 0, none⟩ u) (okW ok w) h x :=
  hr.agree (fun _ hb _ => Below.heap_setCell _ _ _ _ hb.2.1)
set_option maxRecDepth 100000 in
theorem RRow.setW {w W : World} {ok : Nat → Prop} {a : Option Addr} {l : List V} (hr : RRow W (okW ok w) a l) (u : Value) : RRow (W.setCell ⟨w.heap.size + 1, 0, none⟩ u) (okW ok w) a l :=
  hr.agree (fun _ hb _ => Below.heap_setCell _ _ _ _ hb.2.1)
set_option maxRecDepth 100000 in
theorem Rep.setW2 {w W : World} {ok : Nat → Prop} {h : Value} {x : V} (hr : Rep W (okW ok w) h x) (u : Value) : Rep (W.setCell ⟨w.heap.size + 2, 0, none⟩ u) ok h x :=
  (hr.agree (fun _ hb _ => Below.heap_setCell _ _ _ _ hb.2.2)).mono (fun _ h1 _ => h1.1)
set_option maxRecDepth 100000 in
theorem sizeST : ∀ W, (sizeOf (Try.prog.elem 39)).run Try.prog W = .ok 2 W := fun W => by
  have e : Try.prog.elem 39 = 42 := by kernel_rfl
  rw [e]; simp [go_sem]
set_option maxRecDepth 100000 in
theorem cutT_h (bl off n cap j : Nat) (hj : j ≤ cap) (W : World) : (Instr.slice 39 (.slice (some ⟨bl, off, none⟩) n cap) none (some (.int .i64 (j : Int))) none).run Try.prog W = .ok (.slice (some ⟨bl, off, none⟩) j cap) W := by
  rw [run_slice_h W 39 _ n cap Try.underlying39 .i64 (j : Int) (by omega) (by omega), sizeST]
  simp [Result.andThen, sliced, Addr.add]
set_option maxRecDepth 100000 in
set_option maxHeartbeats 3200000 in
theorem with_any {w : World} {ok : Nat → Prop} (hk : ∀ b, w.heap.size ≤ b → ok b) {h u : Value} {v x : V} (hr : Rep w ok h v) (hcl : v.cl) (hu : Rep w ok u x) (ao : Option Addr) (l : List St) (c : Nat) (hl : StRow w ao l) (hso : SliceOk ao l.length c) (hn : l.length ≤ 1048575) {K : Nat} (hK : ∀ s ∈ l, 1 + s.key.size ≤ K) (hbk : v.bulk + (x.bulk + K) ≤ 1048576) :
    Calls Try.prog 24 #[.agg #[h], .agg #[u], .slice ao l.length c] w fun e w' => ∃ g, e = .returned (.tuple #[.agg #[g], .int .i64 (v.withR x l).2]) ∧ Rep w' ok g (v.withR x l).1 ∧ Below w.heap.size w w' := by
  have hone := hr.one
  have hone2 := hu.one
  have hB0 := WBX.start w h u
  have low : ∀ {a : Value} {y : V} {W : World}, Rep w ok a y → Below w.heap.size w W → Rep W (okW ok w) a y := fun {a y W} hy hW => ((hy.mono (ok' := fun b => ok b ∧ b < w.heap.size) (fun b h1 h2 => ⟨h1, h2⟩)).agree (w' := W) (fun b h1 _ => hW.block b h1.2)).mono (fun b h1 _ => ⟨h1.1, by omega, by omega⟩)
  by_cases hz : l = []
  · subst hz
    have hb0 : Below w.heap.size w (((w.alloc (.cells #[h] 30)).alloc (.cells #[u] 30)).alloc (.cells #[u] 30)) := (((Below.refl _ _).alloc (Nat.le_refl _) _).alloc (by simp) _).alloc (by simp <;> omega) _
    have hrep := hu.stays hb0
    obtain ⟨x0, x1, x2, x3⟩ := hB0.cells
    have st := store_old u .nilIface hone2 _ _ x2 x3
    clear hr hu low hcl hl hso hK hbk hk hB0
    go_enter Try.func24, Try.ntmps24
    go_wp2_with fail
    exact bodyPost_ret (v := .tuple #[.agg #[u], .int .i64 0]) (by simp [results, Try.results24, go_sem]) rfl ⟨u, rfl, hrep, hb0⟩
  have hpos : 0 < l.length := List.length_pos_iff.2 hz
  obtain ⟨bl, off, rfl, hcc⟩ := hl.2 hz
  have hbl := World.block_lt_of_cell? _ _ (hcc 0 hpos).1
  have HC : Hid (∀ W j, Below w.heap.size w W → ∀ hj : j < l.length, l[j].ok ∧ W.cell? ⟨bl, off + j * 2, none⟩ = some (.string l[j].key) ∧ W.cell? ⟨bl, off + j * 2 + 1, none⟩ = some (.int .i64 l[j].at_)) := fun W j hW hj => ⟨hl.1 _ (List.getElem_mem hj), (hW.cell (p := ⟨bl, off + j * 2, none⟩) hbl).trans (hcc j hj).1, (hW.cell (p := ⟨bl, off + j * 2 + 1, none⟩) hbl).trans (hcc j hj).2⟩
  have CW : Hid (∀ W, WBX w W h u → Calls Try.prog 50 #[.agg #[h], .slice (some ⟨bl, off, none⟩) (l.length - 1) c] W fun e w' => ∃ a' c', e = .returned (.tuple #[.slice a' (V.wayFrom [] v l.dropLast).1.length c', .int .i64 (V.wayFrom [] v l.dropLast).2]) ∧ RRow w' (okW ok w) a' (V.wayFrom [] v l.dropLast).1 ∧ Below W.heap.size W w') := fun W hW => by
    have hs := hW.size
    have := way_any (ok := okW ok w) (w := W) (fun b hb => ⟨hk b (by omega), by omega, by omega⟩) (low hr hW.2.2.2) (some ⟨bl, off, none⟩) l.dropLast c ((hl.below hW.2.2.2).init) (by rw [List.length_dropLast]; omega)
    rw [List.length_dropLast] at this
    refine this.mono ?_
    rintro e w' ⟨a', c', rfl, h1, -, h2⟩
    exact ⟨a', c', rfl, h1, h2⟩
  have CP : Hid (∀ W q y j (Y : V), ∀ hj : j < l.length, w.heap.size + 2 < W.heap.size → OnWay (V.wayFrom [] v l.dropLast).1 v l → Rep W (okW ok w) q ((V.wayFrom [] v l.dropLast).1[j]?.getD V.null) → Rep W (okW ok w) y Y → Y.bulk ≤ ((V.wayFrom [] v l.dropLast).1[j + 1]?.getD V.null).bulk + (x.bulk + K) → (j + 1 = l.length → Y = x) → Calls Try.prog 51 #[.agg #[q], .agg #[y], .agg #[.string l[j].key, .int .i64 l[j].at_]] W fun e w' => ∃ g, e = .returned (.tuple #[.agg #[g], .int .i64 (((V.wayFrom [] v l.dropLast).1[j]?.getD V.null).put Y l[j]).2]) ∧ g.oneCell' = true ∧ Rep w' (okW ok w) g (((V.wayFrom [] v l.dropLast).1[j]?.getD V.null).put Y l[j]).1 ∧ Below W.heap.size W w') := fun W q y j Y hj hsz hw hq hy hYb hYz => by
    have hjx : j < (V.wayFrom [] v l.dropLast).1.length := by have := hw.1; omega
    have hall := onWay_all hw hcl j _ (List.getElem?_eq_getElem hjx)
    have e1 : (V.wayFrom [] v l.dropLast).1[j]?.getD V.null = (V.wayFrom [] v l.dropLast).1[j] := by rw [List.getElem?_eq_getElem hjx]; rfl
    have hpb := part_bulk hw hcl hK hj hYb hYz
    rw [e1] at hq hpb ⊢
    obtain ⟨hc1, hc2⟩ := hall
    have hgl := bulk_goL (V.wayFrom [] v l.dropLast).1[j]
    have hgl2 := len_le_bulkL (V.wayFrom [] v l.dropLast).1[j].l
    have hgl3 := bulk_goL (((V.wayFrom [] v l.dropLast).1[j]).put Y l[j]).1
    have hxb := x.bulk_pos
    refine (put_any (ok := okW ok w) (w := W) (fun b hb => ⟨hk b (by omega), by omega, by omega⟩) hq hc1 hy l[j] (hl.1 _ (List.getElem_mem hj)) (by omega) (by omega)).mono ?_
    rintro e w' ⟨g, rfl, h1, h2⟩
    exact ⟨g, rfl, h1.one, h1, h2⟩
  have hwr : IntKind.i64.wrap ((l.length : Int) - 1) = ((l.length - 1 : Nat) : Int) := by rw [IntKind.wrap_i64]; omega
  have hsl := cutT_h bl off l.length c (l.length - 1) (by have := hso.2.1; omega)
  have low2 : Hid (∀ {a : Value} {y : V} {W : World}, Rep w ok a y → Below w.heap.size w W → Rep W (okW ok w) a y) := low
  have HE : Hid ((V.wayFrom [] v l.dropLast).2 ≠ 0 → v.withR x l = (V.null, (V.wayFrom [] v l.dropLast).2)) := withR_err l v hz
  have HO : Hid ((V.wayFrom [] v l.dropLast).2 = 0 → OnWay (V.wayFrom [] v l.dropLast).1 v l) := onWay_of hz
  have HZ : Hid (∀ xs, OnWay xs v l → partR xs x l 0 = v.withR x l) := fun xs hw => partR_zero hw hz
  have HP : Hid (∀ xs, OnWay xs v l → ∀ k, k ≤ l.length → (partR xs x l k).2 ≠ 0 → v.withR x l = (V.null, (partR xs x l k).2)) := fun xs hw k hk h => partR_err hw k hk hz h
  have HB : Hid (∀ xs, OnWay xs v l → ∀ k (hk : k < l.length) (Y : V), Y.bulk ≤ (xs[k + 1]?.getD V.null).bulk + (x.bulk + K) → (k + 1 = l.length → Y = x) → ((xs[k]?.getD V.null).put Y l[k]).1.bulk ≤ (xs[k]?.getD V.null).bulk + (x.bulk + K)) := fun xs hw k hk Y h1 h2 => part_bulk hw hcl hK hk h1 h2
  have HU : Hid (Rep w ok u x) := hu
  clear hr hu low hcl hl hso hK hbk hk hcc hz hbl
  generalize v.withR x l = R at *
  generalize V.wayFrom [] v l.dropLast = WF at *
  obtain ⟨xs, ew⟩ := WF
  dsimp only at *
  go_enter Try.func24, Try.ntmps24
  go_wp2_with fail
  refine wp_region_held_drew (S := fun w' => WBX w w' h u) (by kernel_rfl) (WBX.drew hB0) (fun hSS => ?_)
  refine wpAnyH_take (i := 0) (v := ?_) rfl (by kernel_rfl) (by kernel_rfl) (by kernel_rfl) (fun _ _ _ h => h) (Or.inl ⟨by rfl, ?_⟩) hSS ?_
  rotate_left
  · intro wz hSz
    obtain ⟨x0, x1, x2, x3⟩ := hSz.cells
    go_simp
    try with_reducible rfl
  simp only [List.getElem_toArray, List.getElem_cons_zero, Act.put, List.setIfInBounds_toArray, List.set_cons_zero, List.set_cons_succ]
  refine wpAnyH_take (i := 1) (v := ?_) rfl (by kernel_rfl) (by kernel_rfl) (by kernel_rfl) (fun _ _ _ h => h) (Or.inl ⟨by rfl, ?_⟩) hSS ?_
  rotate_left
  · intro wz hSz
    go_simp
    try with_reducible rfl
  simp only [List.getElem_toArray, List.getElem_cons_zero, List.getElem_cons_succ, Act.put, List.setIfInBounds_toArray, List.set_cons_zero, List.set_cons_succ]
  refine wpAnyH_take (i := 2) (v := ?_) rfl (by kernel_rfl) (by kernel_rfl) (by kernel_rfl) (fun _ _ _ h => h) (Or.inl ⟨by rfl, ?_⟩) hSS ?_
  rotate_left
  · intro wz hSz
    go_simp
    try with_reducible rfl
  simp only [List.getElem_toArray, List.getElem_cons_zero, List.getElem_cons_succ, Act.put, List.setIfInBounds_toArray, List.set_cons_zero, List.set_cons_succ]
  refine wpAnyH_take (i := 3) (v := ?_) rfl (by kernel_rfl) (by kernel_rfl) (by kernel_rfl) (fun _ _ _ h => h) (Or.inl ⟨by rfl, ?_⟩) hSS ?_
  rotate_left
  · intro wz hSz
    go_simp
    try with_reducible rfl
  simp only [List.getElem_toArray, List.getElem_cons_zero, List.getElem_cons_succ, Act.put, List.setIfInBounds_toArray, List.set_cons_zero, List.set_cons_succ]
  refine wpAnyH_take (i := 4) (v := ?_) rfl (by kernel_rfl) (by kernel_rfl) (by kernel_rfl) (fun _ _ _ h => h) (Or.inl ⟨by rfl, ?_⟩) hSS ?_
  rotate_left
  · intro wz hSz
    go_simp
    try with_reducible rfl
  simp only [List.getElem_toArray, List.getElem_cons_zero, List.getElem_cons_succ, Act.put, List.setIfInBounds_toArray, List.set_cons_zero, List.set_cons_succ]
  refine wpAnyH_take (i := 5) (v := ?_) rfl (by kernel_rfl) (by kernel_rfl) (by kernel_rfl) (fun _ _ _ h => h) (Or.inl ⟨by rfl, ?_⟩) hSS ?_
  rotate_left
  · intro wz hSz
    go_simp
    try with_reducible rfl
  simp only [List.getElem_toArray, List.getElem_cons_zero, List.getElem_cons_succ, Act.put, List.setIfInBounds_toArray, List.set_cons_zero, List.set_cons_succ]
  refine wpAnyH_ready (rs := [6]) (by kernel_rfl) (by simp) (AllReadyH.cons rfl (fun K1 hK1 => ?_) AllReadyH.nil)
  refine step_plain (by rfl) ?_
  simp only [List.getElem_toArray, List.getElem_cons_zero, List.getElem_cons_succ]
  go_simp
  go_at_call 50
  refine (CW.out _ hSS).mono ?_
  rintro e w1 ⟨a1, c1, rfl, hrow, hb1⟩
  go_simp
  refine hK1.out _ _ (hSS.below hb1) (fun hSS => ?_)
  clear hK1 CW hsl hb1
  refine wpAnyH_take (i := 7) (v := ?_) rfl (by kernel_rfl) (by kernel_rfl) (by kernel_rfl) (fun _ _ _ h => h) (Or.inl ⟨by rfl, ?_⟩) hSS ?_
  rotate_left
  · intro wz hSz
    go_simp
    try with_reducible rfl
  simp only [List.getElem_toArray, List.getElem_cons_zero, List.getElem_cons_succ, Act.put, List.setIfInBounds_toArray, List.set_cons_zero, List.set_cons_succ]
  refine wpAnyH_take (i := 8) (v := ?_) rfl (by kernel_rfl) (by kernel_rfl) (by kernel_rfl) (fun _ _ _ h => h) (Or.inl ⟨by rfl, ?_⟩) hSS ?_
  rotate_left
  · intro wz hSz
    go_simp
    try with_reducible rfl
  simp only [List.getElem_toArray, List.getElem_cons_zero, List.getElem_cons_succ, Act.put, List.setIfInBounds_toArray, List.set_cons_zero, List.set_cons_succ]
  refine wpAnyH_take (i := 9) (v := ?_) rfl (by kernel_rfl) (by kernel_rfl) (by kernel_rfl) (fun _ _ _ h => h) (Or.inl ⟨by rfl, ?_⟩) hSS ?_
  rotate_left
  · intro wz hSz
    go_simp
    try with_reducible rfl
  simp only [List.getElem_toArray, List.getElem_cons_zero, List.getElem_cons_succ, Act.put, List.setIfInBounds_toArray, List.set_cons_zero, List.set_cons_succ]
  refine wpAnyH_take (i := 10) (v := ?_) rfl (by kernel_rfl) (by kernel_rfl) (by kernel_rfl) (fun _ _ _ h => h) (Or.inl ⟨by rfl, ?_⟩) hSS ?_
  rotate_left
  · intro wz hSz
    go_simp
    try with_reducible rfl
  simp only [List.getElem_toArray, List.getElem_cons_zero, List.getElem_cons_succ, Act.put, List.setIfInBounds_toArray, List.set_cons_zero, List.set_cons_succ]
  refine wpAnyH_take (i := 11) (v := ?_) rfl (by kernel_rfl) (by kernel_rfl) (by kernel_rfl) (fun _ _ _ h => h) (Or.inl ⟨by rfl, ?_⟩) hSS ?_
  rotate_left
  · intro wz hSz
    go_simp
    try with_reducible rfl
  simp only [List.getElem_toArray, List.getElem_cons_zero, List.getElem_cons_succ, Act.put, List.setIfInBounds_toArray, List.set_cons_zero, List.set_cons_succ]
  refine wpAnyH_done (by kernel_rfl) ?_ _
  by_cases hE : ew ≠ 0
  · have hR : Hid (R = (V.null, ew)) := HE.out hE
    have hE' : (ew == 0) = false := by simpa using hE
    obtain ⟨x0, x1, x2, x3⟩ := hSS.cells
    obtain ⟨g1, g2⟩ := hSS.done .nilIface
    clear HE HO CP HZ HP HB HU HC
    go_wp2_with fail
    exact bodyPost_ret (v := .tuple #[.agg #[.nilIface], .int .i64 ew]) (by simp [results, Try.results24, go_sem, g1]) rfl ⟨_, by rw [hR.out], by rw [hR.out]; exact Rep.null, g2⟩
  obtain rfl : ew = 0 := by omega
  have hw := HO.out rfl
  have hxl : xs.length = l.length := hw.1
  have HW : Hid (OnWay xs v l) := hw
  obtain ⟨wb, wo, rfl, hwb⟩ : ∃ wb wo, a1 = some ⟨wb, wo, none⟩ ∧ okW ok w wb := by
    obtain ⟨H, hrr, hin⟩ := hrow
    obtain ⟨wb, wo, e, hb, -⟩ := hrr (by omega)
    exact ⟨wb, wo, e, hb⟩
  have HQ : Hid (∀ W, RRow W (okW ok w) (some ⟨wb, wo, none⟩) xs → ∀ j, j < xs.length → ∃ q, W.cell? ⟨wb, wo + j, none⟩ = some q ∧ Rep W (okW ok w) q (xs[j]?.getD V.null)) := fun W hr j hj => by
    obtain ⟨H, hrr, hin⟩ := hr
    obtain ⟨wb', wo', e, -, hcw⟩ := hrr (by omega)
    injection e with e
    injection e with e1 e2
    subst e1; subst e2
    refine ⟨H j, hcw j hj, ?_⟩
    rw [List.getElem?_eq_getElem hj]
    exact hin j hj
  have HN : Hid (xs.length = l.length) := hxl
  have hu0 := low2.out HU.out hSS.2.2.2
  have hp0 : Hid (partR xs x l l.length = (x, 0)) := partR_end xs x l
  have hbk0 : Hid (x.bulk ≤ (xs[l.length]?.getD V.null).bulk + (x.bulk + K)) := by
    show _ ≤ _; omega
  clear HO HE hE hw hxl HU low2 hB0
  go_wp2_with fail
  go_loopw [10] (fun si wr => ∃ (k : Nat) (i : Int) (y : Value) (Y : V), k ≤ l.length ∧ i = (k : Int) - 1 ∧ si = .int .i64 i ∧ WBX w wr h y ∧ RRow wr (okW ok w) (some ⟨wb, wo, none⟩) xs ∧ Rep wr (okW ok w) y Y ∧ Hid (partR xs x l k = (Y, 0)) ∧ Hid (Y.bulk ≤ (xs[k]?.getD V.null).bulk + (x.bulk + K))) (fun si _ => (intOf si + 1).toNat)
  case atStart => exact ⟨l.length, _, u, x, Nat.le_refl _, by omega, rfl, hSS, hrow, hu0, hp0, hbk0⟩
  case round =>
    obtain ⟨k, i, y, Y, hkl, hi, rfl, hB, hrow2, hrep, hpart, hYb⟩ := hrel
    clear hSS hrow hu0 hp0 hbk0 hone hone2
    have hy1 := hrep.one
    by_cases hk0 : 0 < k
    · obtain ⟨j, rfl⟩ : ∃ j, k = j + 1 := ⟨k - 1, by omega⟩
      obtain rfl : i = (j : Int) := by omega
      clear hi
      have hjl : j < l.length := by omega
      have hjx : j < xs.length := by rw [HN.out]; exact hjl
      obtain ⟨q, hq1, hq2⟩ := HQ.out _ hrow2 j (by rw [HN.out]; exact hjl)
      obtain ⟨hso, hs1, hs2⟩ := HC.out _ j hB.2.2.2 hjl
      have hYz : Hid (j + 1 = l.length → Y = x) := fun e => by
        have h1 := hpart.out
        rw [e, partR_end] at h1
        injection h1 with h1 _
        exact h1.symm
      have hst : Hid (partR xs x l j = (xs[j]?.getD V.null).put Y l[j]) := partR_step HW.out hjl hpart.out
      have hb2 := HB.out xs HW.out j hjl Y hYb.out hYz.out
      have CP2 : Hid (∀ W, Below wr.heap.size wr W → Calls Try.prog 51 #[.agg #[q], .agg #[y], .agg #[.string l[j].key, .int .i64 l[j].at_]] W fun e w' => ∃ g, e = .returned (.tuple #[.agg #[g], .int .i64 (partR xs x l j).2]) ∧ g.oneCell' = true ∧ Rep w' (okW ok w) g (partR xs x l j).1 ∧ Below W.heap.size W w') := fun W hW => by
        rw [hst.out]
        exact CP.out W q y j Y hjl (Nat.lt_of_lt_of_le hB.size hW.size) HW.out (hq2.stays hW) (hrep.stays hW) hYb.out hYz.out
      have HSt : Hid (∀ W h' y', WBX w W h' y' → W.cell? ⟨bl, off + j * 2, none⟩ = some (.string l[j].key) ∧ W.cell? ⟨bl, off + j * 2 + 1, none⟩ = some (.int .i64 l[j].at_)) := fun W h' y' hW => (HC.out _ j hW.2.2.2 hjl).2
      rw [← hst.out] at hb2
      have HPe : Hid ((partR xs x l j).2 ≠ 0 → R = (V.null, (partR xs x l j).2)) := HP.out xs HW.out j (by omega)
      have hBb : Hid ((partR xs x l j).1.bulk ≤ (xs[j]?.getD V.null).bulk + (x.bulk + K)) := hb2
      have hSS : (∃ y', WBX w wr h y') ∧ wr.cell? ⟨wb, wo + j, none⟩ = some q := ⟨⟨y, hB⟩, hq1⟩
      obtain ⟨z0, z1, z2, z3⟩ := hB.drew.cells
      have hDB : Below wr.heap.size wr wr.drew := (Below.refl _ _).drew
      clear hs1 hs2 CP HB HQ HC hst hb2 hYz hpart hYb HP hq2 hrep hq1 hy1
      generalize l[j] = s at *
      obtain ⟨PR, hPR⟩ : ∃ PR, partR xs x l j = PR := ⟨_, rfl⟩
      rw [hPR] at CP2 HPe hBb
      have HPR : Hid (partR xs x l j = PR) := hPR
      clear hPR
      obtain ⟨Y2, e2⟩ := PR
      dsimp only at *
      go_wp2_with fail
      refine wp_region_held_drew (S := fun W => (∃ y', WBX w W h y') ∧ W.cell? ⟨wb, wo + j, none⟩ = some q) (by kernel_rfl) ⟨⟨y, hB.drew⟩, hSS.2⟩ (fun hSS => ?_)
      refine wpAnyH_take (i := 0) (v := ?_) rfl (by kernel_rfl) (by kernel_rfl) (by kernel_rfl) (fun _ _ _ h => h) (Or.inl ⟨by rfl, ?_⟩) hSS ?_
      rotate_left
      · intro wz hSz
        go_simp
        try with_reducible rfl
      simp only [List.getElem_toArray, List.getElem_cons_zero, Act.put, List.setIfInBounds_toArray, List.set_cons_zero, List.set_cons_succ]
      refine wpAnyH_take (i := 1) (v := ?_) rfl (by kernel_rfl) (by kernel_rfl) (by kernel_rfl) (fun _ _ _ h => h) (Or.inl ⟨by rfl, ?_⟩) hSS ?_
      rotate_left
      · intro wz hSz
        go_simp
        try with_reducible rfl
      simp only [List.getElem_toArray, List.getElem_cons_zero, List.getElem_cons_succ, Act.put, List.setIfInBounds_toArray, List.set_cons_zero, List.set_cons_succ]
      refine wpAnyH_take (i := 2) (v := ?_) rfl (by kernel_rfl) (by kernel_rfl) (by kernel_rfl) (fun _ _ _ h => h) (Or.inl ⟨by rfl, ?_⟩) hSS ?_
      rotate_left
      · intro wz hSz
        go_simp
        try with_reducible rfl
      simp only [List.getElem_toArray, List.getElem_cons_zero, List.getElem_cons_succ, Act.put, List.setIfInBounds_toArray, List.set_cons_zero, List.set_cons_succ]
      refine wpAnyH_take (i := 3) (v := ?_) rfl (by kernel_rfl) (by kernel_rfl) (by kernel_rfl) (fun _ _ _ h => h) (Or.inl ⟨by rfl, ?_⟩) hSS ?_
      rotate_left
      · intro wz hSz
        obtain ⟨-, p1⟩ := hSz
        go_simp
        try with_reducible rfl
      simp only [List.getElem_toArray, List.getElem_cons_zero, List.getElem_cons_succ, Act.put, List.setIfInBounds_toArray, List.set_cons_zero, List.set_cons_succ]
      refine wpAnyH_take (i := 5) (v := ?_) rfl (by kernel_rfl) (by kernel_rfl) (by kernel_rfl) (fun _ _ _ h => h) (Or.inl ⟨by rfl, ?_⟩) hSS ?_
      rotate_left
      · intro wz hSz
        go_simp
        try with_reducible rfl
      simp only [List.getElem_toArray, List.getElem_cons_zero, List.getElem_cons_succ, Act.put, List.setIfInBounds_toArray, List.set_cons_zero, List.set_cons_succ]
      refine wpAnyH_take (i := 6) (v := ?_) rfl (by kernel_rfl) (by kernel_rfl) (by kernel_rfl) (fun _ _ _ h => h) (Or.inl ⟨by rfl, ?_⟩) hSS ?_
      rotate_left
      · intro wz hSz
        go_simp
        try with_reducible rfl
      simp only [List.getElem_toArray, List.getElem_cons_zero, List.getElem_cons_succ, Act.put, List.setIfInBounds_toArray, List.set_cons_zero, List.set_cons_succ]
      refine wpAnyH_take (i := 7) (v := ?_) rfl (by kernel_rfl) (by kernel_rfl) (by kernel_rfl) (fun _ _ _ h => h) (Or.inl ⟨by rfl, ?_⟩) hSS ?_
      rotate_left
      · intro wz hSz
        go_simp
        try with_reducible rfl
      simp only [List.getElem_toArray, List.getElem_cons_zero, List.getElem_cons_succ, Act.put, List.setIfInBounds_toArray, List.set_cons_zero, List.set_cons_succ]
      refine wpAnyH_take (i := 8) (v := ?_) rfl (by kernel_rfl) (by kernel_rfl) (by kernel_rfl) (fun _ _ _ h => h) (Or.inl ⟨by rfl, ?_⟩) hSS ?_
      rotate_left
      · intro wz hSz
        obtain ⟨⟨y', p0⟩, -⟩ := hSz; obtain ⟨p1, p2⟩ := HSt.out _ _ _ p0
        go_simp
        try with_reducible rfl
      simp only [List.getElem_toArray, List.getElem_cons_zero, List.getElem_cons_succ, Act.put, List.setIfInBounds_toArray, List.set_cons_zero, List.set_cons_succ]
      refine wpAnyH_ready (rs := [4]) (by kernel_rfl) (by simp) (AllReadyH.cons rfl (fun K4 hK4 => ?_) AllReadyH.nil)
      refine step_plain (by rfl) ?_
      simp only [List.getElem_toArray, List.getElem_cons_zero, List.getElem_cons_succ]
      go_simp
      refine hK4.out _ _ hSS (fun hSS => ?_)
      clear hK4
      refine wpAnyH_ready (rs := [9]) (by kernel_rfl) (by simp) (AllReadyH.cons rfl (fun K9 hK9 => ?_) AllReadyH.nil)
      refine step_plain (by rfl) ?_
      simp only [List.getElem_toArray, List.getElem_cons_zero, List.getElem_cons_succ]
      go_simp
      go_at_call 51
      refine (CP2.out _ hDB).mono ?_
      rintro e w4 ⟨g, rfl, hg1, hg, hb4⟩
      have hB4 := hB.drew.below hb4
      have hq4 := (hb4.cell (p := ⟨wb, wo + j, none⟩) (World.block_lt_of_cell? _ _ hSS.2)).trans hSS.2
      have hrow4 := hrow2.agree (w' := w4) (fun b _ h2 => (hDB.trans (hb4.mono (Nat.le_refl _))).block b h2)
      go_simp
      refine hK9.out _ _ ⟨⟨y, hB4⟩, hq4⟩ (fun hSS => ?_)
      clear hK9 CP2 HSt hrow2 hb4 hB z0 z1 z2 z3
      refine wpAnyH_take (i := 10) (v := ?_) rfl (by kernel_rfl) (by kernel_rfl) (by kernel_rfl) (fun _ _ _ h => h) (Or.inl ⟨by rfl, ?_⟩) hSS ?_
      rotate_left
      · intro wz hSz
        go_simp
        try with_reducible rfl
      simp only [List.getElem_toArray, List.getElem_cons_zero, List.getElem_cons_succ, Act.put, List.setIfInBounds_toArray, List.set_cons_zero, List.set_cons_succ]
      refine wpAnyH_take (i := 11) (v := ?_) rfl (by kernel_rfl) (by kernel_rfl) (by kernel_rfl) (fun _ _ _ h => h) (Or.inl ⟨by rfl, ?_⟩) hSS ?_
      rotate_left
      · intro wz hSz
        go_simp
        try with_reducible rfl
      simp only [List.getElem_toArray, List.getElem_cons_zero, List.getElem_cons_succ, Act.put, List.setIfInBounds_toArray, List.set_cons_zero, List.set_cons_succ]
      refine wpAnyH_take (i := 12) (v := ?_) rfl (by kernel_rfl) (by kernel_rfl) (by kernel_rfl) (fun _ _ _ h => h) (Or.inl ⟨by rfl, ?_⟩) hSS ?_
      rotate_left
      · intro wz hSz
        go_simp
        try with_reducible rfl
      simp only [List.getElem_toArray, List.getElem_cons_zero, List.getElem_cons_succ, Act.put, List.setIfInBounds_toArray, List.set_cons_zero, List.set_cons_succ]
      have hy4 := hB4.2.1
      refine wpAnyH_ready (rs := [13]) (by kernel_rfl) (by simp) (AllReadyH.cons rfl (fun K13 hK13 => ?_) AllReadyH.nil)
      refine step_set0 (by rfl) _ _ (by rfl) (by rfl) (B := w.heap.size + 1) (u := g) (by rfl) (by rfl) hg1 hy4 ?_
      have hB5 := hB4.set g
      have hg5 := hg.setW (w := w) g
      have hrow5 := hrow4.setW (w := w) g
      have hq5 : (w4.setCell ⟨w.heap.size + 1, 0, none⟩ g).cell? ⟨wb, wo + j, none⟩ = some q := (World.cell?_setCell_far _ _ _ _ (fun e => hwb.2.1 e.symm)).trans hq4
      refine hK13.out _ _ ⟨⟨g, hB5⟩, hq5⟩ (fun hSS => ?_)
      clear hK13 hB4 hg hrow4 hq4 hy4 hq5
      generalize w4.setCell ⟨w.heap.size + 1, 0, none⟩ g = w5 at *
      refine wpAnyH_take (i := 14) (v := ?_) rfl (by kernel_rfl) (by kernel_rfl) (by kernel_rfl) (fun _ _ _ h => h) (Or.inl ⟨by rfl, ?_⟩) hSS ?_
      rotate_left
      · intro wz hSz
        go_simp
        try with_reducible rfl
      simp only [List.getElem_toArray, List.getElem_cons_zero, List.getElem_cons_succ, Act.put, List.setIfInBounds_toArray, List.set_cons_zero, List.set_cons_succ]
      refine wpAnyH_done (by kernel_rfl) ?_ _
      by_cases hE : e2 = 0
      · subst hE
        clear HPe
        go_wp2_with fail
        go_roundw
        case rel => exact ⟨j, _, g, Y2, by omega, rfl, rfl, hB5, hrow5, hg5, HPR, hBb⟩
        case measure => simp [intOf] <;> omega
      · have hR : Hid (R = (V.null, e2)) := HPe.out hE
        have hE' : (e2 == 0) = false := by simpa using hE
        obtain ⟨x0, x1, x2, x3⟩ := hB5.cells
        obtain ⟨g1, g2⟩ := hB5.done .nilIface
        clear HPe hBb hg5 hrow5
        go_wp2_with fail
        exact bodyPost_ret (v := .tuple #[.agg #[.nilIface], .int .i64 e2]) (by simp [results, Try.results24, go_sem, g1]) rfl ⟨_, by rw [hR.out], by rw [hR.out]; exact Rep.null, g2⟩
    · obtain rfl : k = 0 := by omega
      have hneg : i < 0 := by omega
      clear hi
      have hR : Hid (R = (Y, 0)) := (HZ.out xs HW.out).symm.trans hpart.out
      obtain ⟨x0, x1, x2, x3⟩ := hB.cells
      have st := store_old y .nilIface hy1 _ _ x2 x3
      obtain ⟨g1, g2⟩ := hB.done y
      have hrep2 := hrep.setW2 (w := w) y
      clear HC CP HZ HP HB HQ hpart hYb hrow2 hrep
      go_wp2_with fail
      exact bodyPost_ret (v := .tuple #[.agg #[y], .int .i64 0]) (by simp [results, Try.results24, go_sem, g1]) rfl ⟨y, by rw [hR.out], by rw [hR.out]; exact hrep2, g2⟩
end Go.Proofs.Ytigdcnoggjcddaa

