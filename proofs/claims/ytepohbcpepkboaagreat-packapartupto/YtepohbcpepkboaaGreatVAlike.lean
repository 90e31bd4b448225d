/- What alike answers of two values, and leaves in the comparison. Conditions: values of at most 1048576 values and letters. -/
import Derived.Test.YtepohbcpepkboaaGreatVInsB
import Derived.Test.YtepohbcpepkboaaGreatVSameI
import Derived.Test.YtepohbcpepkboaaGreatPkC
import Derived.Maps.AppendAt
namespace Go.Proofs.YtepohbcpepkboaaGreat
open Go.RowKit Go.Maps Go.WideMaps

def pcellsV (ps : List (Nat × Nat)) : List Value := ps.flatMap (fun p => [.pointer (some ⟨p.1, 0, none⟩), .pointer (some ⟨p.2, 0, none⟩)])
set_option maxRecDepth 100000 in
theorem pcells_snoc (ps : List (Nat × Nat)) (p : Nat × Nat) : pcellsV (ps ++ [p]) = pcellsV ps ++ [.pointer (some ⟨p.1, 0, none⟩), .pointer (some ⟨p.2, 0, none⟩)] := by simp [pcellsV]
set_option maxRecDepth 100000 in
theorem pcells_len : ∀ ps : List (Nat × Nat), (pcellsV ps).length = ps.length * 2
  | [] => rfl
  | p :: r => by have := pcells_len r; simp only [pcellsV, List.flatMap_cons, List.length_append, List.length_cons, List.length_nil] at *; omega
/-- A comparison in memory: what waits, and what was seen. -/
structure Cmp (w W : World) (Cb M : Nat) (WS : Value) (ws S : List (Nat × Nat)) : Prop where
  blk : W.heap[Cb]? = some (.cells #[WS, .map (some M)] 93 (0, 0))
  own : W.ownsRow w.heap.size 96 2 WS ws.length (pcellsV ws)
  seen : SeenM W M S
  bel : Below w.heap.size w W
  hC : w.heap.size ≤ Cb
  hM : w.heap.size ≤ M
  hne : Cb ≠ M
  wc : WS.ownBlock ≠ some Cb
  wm : WS.ownBlock ≠ some M
set_option maxRecDepth 100000 in
theorem Cmp.below {w W W' : World} {Cb M : Nat} {WS : Value} {ws S : List (Nat × Nat)} (h : Cmp w W Cb M WS ws S) (hb : Below W.heap.size W W') : Cmp w W' Cb M WS ws S :=
  ⟨(hb.block Cb (Array.getElem?_eq_some_iff.1 h.blk).1).trans h.blk, own_below7 h.own hb, h.seen.below hb, h.bel.trans (hb.mono h.bel.size), h.hC, h.hM, h.hne, h.wc, h.wm⟩
/-- What alike leaves as it was. -/
structure Kept (W W' : World) (Cb M : Nat) (WS WS' : Value) : Prop where
  size : W.heap.size ≤ W'.heap.size
  block : ∀ k, k < W.heap.size → k ≠ Cb → k ≠ M → WS.ownBlock ≠ some k → W'.heap[k]? = W.heap[k]?
  own : WS'.ownBlock = WS.ownBlock ∨ ∃ k, W.heap.size ≤ k ∧ WS'.ownBlock = some k
set_option maxRecDepth 100000 in
theorem Kept.of_below {W W' : World} (hb : Below W.heap.size W W') (Cb M : Nat) (WS : Value) : Kept W W' Cb M WS WS := ⟨hb.size, fun k hk _ _ _ => hb.block k hk, Or.inl rfl⟩
/-- What alike does. -/
def AlikeDoes (w : World) (Cb M : Nat) (WS : Value) (ws S : List (Nat × Nat)) (x y : V) (W : World) (e : Ending) (w' : World) : Prop :=
  ∃ (r : Bool) (WS' : Value) (ws' S' : List (Nat × Nat)), e = .returned (.bool r) ∧ Cmp w w' Cb M WS' ws' S' ∧ Told w r x y ws S ws' S' ∧ Kept W w' Cb M WS WS'
set_option maxRecDepth 100000 in
theorem AlikeDoes.plain {w : World} {Cb M : Nat} {WS : Value} {ws S : List (Nat × Nat)} {x y : V} {W w' : World} {r : Bool} (h : Cmp w W Cb M WS ws S) (hb : Below W.heap.size W w') (ht : Told w r x y ws S ws S) : AlikeDoes w Cb M WS ws S x y W (.returned (.bool r)) w' :=
  ⟨r, WS, ws, S, rfl, h.below hb, ht, Kept.of_below hb Cb M WS⟩
set_option maxRecDepth 100000 in
theorem guard_iface (t : TypeId) (z b : Value) (x y : Operand) (W : World) : (eqGuard .eql 20 x y (.iface t z) b).run Tryz.prog W = .ok () W := by
  cases b <;> simp [eqGuard]
set_option maxRecDepth 100000 in
theorem meas_neq (W : World) (a b : Int) (c d : Bool) (a' b' : Int) (c' d' : Bool) : (binOp .neq 88 (.agg #[.int .i64 a, .int .i64 b, .bool c, .bool d]) (.agg #[.int .i64 a', .int .i64 b', .bool c', .bool d'])).run Tryz.prog W = .ok (.bool (!((a == a') && ((b == b') && ((c == c') && (d == d')))))) W := by
  simp [go_sem]
  by_cases h1 : a = a' <;> by_cases h2 : b = b' <;> by_cases h3 : c = c' <;> by_cases h4 : d = d' <;> simp [h1, h2, h3, h4]
set_option maxRecDepth 100000 in
theorem meas_guard (W : World) (a b : Int) (c d : Bool) (a' b' : Int) (c' d' : Bool) : (eqGuard .neq 88 (.tmp 58) (.tmp 62) (.agg #[.int .i64 a, .int .i64 b, .bool c, .bool d]) (.agg #[.int .i64 a', .int .i64 b', .bool c', .bool d'])).run Tryz.prog W = .ok () W := run_eqGuard_agg _ _ _ _ _ _ _ (by kernel_rfl)
set_option maxRecDepth 100000 in
theorem infoP : (Tryz.prog.info? 96).map (fun i => (i.zero, i.size, i.bytes)) = some (some (.agg #[.pointer none, .pointer none]), 2, 16) := by kernel_rfl
set_option maxRecDepth 100000 in
theorem cell_setCell_far {W : World} {k j : Nat} (h : k ≠ j) (i o : Nat) {u : Value} : (W.setCell ⟨k, i, none⟩ u).cell? ⟨j, o, none⟩ = W.cell? ⟨j, o, none⟩ := World.cell?_setCell_far W ⟨k, i, none⟩ ⟨j, o, none⟩ u h
set_option maxRecDepth 100000 in
set_option maxHeartbeats 6400000 in
theorem alike_grp {w W : World} {Cb M : Nat} {WS : Value} {ws S : List (Nat × Nat)} (hC : Cmp w W Cb M WS ws S) (hS : ∀ p ∈ S, PlainP w p) {a b : Value} {x y : V} (ra : Rep w (fun _ => True) a x) (rb : Rep w (fun _ => True) b y)
    (heq : ∀ W, Below w.heap.size w W → (binOp .eql 20 a b).run Tryz.prog W = .ok (.bool false) W) (hk : x.k = y.k) {B C : Nat} {ha hb : Nat → Value} {la lb : Option Addr} {lac lbc : Nat} (ga : Grp w B x ha la lac) (gb : Grp w C y hb lb lbc) (pa : GPtr w a B) (pb : GPtr w b C)
    {ka kb : Option Addr} {kac kbc : Nat} (ia : ∀ W, Below w.heap.size w W → Calls Tryz.prog 74 #[a] W fun e w' => e = .returned (.tuple #[.pointer (some ⟨B, 0, none⟩), .slice ka x.keys.length kac]) ∧ Below W.heap.size W w') (ib : ∀ W, Below w.heap.size w W → Calls Tryz.prog 74 #[b] W fun e w' => e = .returned (.tuple #[.pointer (some ⟨C, 0, none⟩), .slice kb y.keys.length kbc]) ∧ Below W.heap.size W w')
    (sa : SRow w (fun _ => True) ka x.keys) (sb : SRow w (fun _ => True) kb y.keys) (hsh : x.l = y.l → x.keys = y.keys → x = y) (hkx : x.keys.length ≤ 9223372036854775807) (hws : ws.length ≤ 1048576) :
    Calls Tryz.prog 48 #[.pointer (some ⟨Cb, 0, none⟩), .agg #[a], .agg #[b]] W (AlikeDoes w Cb M WS ws S x y W) := by
  have hone1 := ra.one
  have hone2 := rb.one
  have HPAR : Hid (Par w (B, C) x y) := ⟨⟨a, ra, pa⟩, b, rb, pb⟩
  have HPP : Hid (PlainP w (B, C)) := ⟨ga.plain, gb.plain⟩
  have CK1 : Hid (∀ W, Calls Tryz.prog 16 #[.agg #[a]] W fun e w' => e = .returned (.int .i64 x.k) ∧ Below W.heap.size W w') := fun W => kind_any ra W
  have CK2 : Hid (∀ W, Calls Tryz.prog 16 #[.agg #[b]] W fun e w' => e = .returned (.int .i64 x.k) ∧ Below W.heap.size W w') := fun W => by rw [hk]; exact kind_any rb W
  have CI1 : Hid (∀ W, Below w.heap.size w W → Calls Tryz.prog 74 #[a] W fun e w' => e = .returned (.tuple #[.pointer (some ⟨B, 0, none⟩), .slice ka x.keys.length kac]) ∧ Below W.heap.size W w') := ia
  have CI2 : Hid (∀ W, Below w.heap.size w W → Calls Tryz.prog 74 #[b] W fun e w' => e = .returned (.tuple #[.pointer (some ⟨C, 0, none⟩), .slice kb y.keys.length kbc]) ∧ Below W.heap.size W w') := ib
  have hbel := hC.bel
  have hszw := hbel.size
  have hA1 : Below W.heap.size W (W.alloc (.cells #[a] 34)) := (Below.refl _ _).alloc (Nat.le_refl _) _
  have hA2 : Below W.heap.size W ((W.alloc (.cells #[a] 34)).alloc (.cells #[b] 34)) := hA1.alloc (by simp) _
  have X1 : ((W.alloc (.cells #[a] 34)).alloc (.cells #[b] 34)).heap[W.heap.size]? = some (.cells #[a] 34 (0, 0)) := (Below.heap_alloc _ _ _ (by simp)).trans (heap_alloc_new W _)
  have X2 : ((W.alloc (.cells #[a] 34)).alloc (.cells #[b] 34)).heap[W.heap.size + 1]? = some (.cells #[b] 34 (0, 0)) := by simpa using heap_alloc_new (W.alloc (.cells #[a] 34)) (.cells #[b] 34)
  have HEQ := heq _ (hbel.trans (hA2.mono hszw))
  clear heq ia ib hk
  have HG : ∀ W, (eqGuard .eql 20 (.tmp 15) (.tmp 17) a b).run Tryz.prog W = .ok () W := by
    rcases pa with ⟨rfl, _⟩ | ⟨rfl, _⟩ <;> exact fun W => guard_iface _ _ _ _ _ W
  have xc := cell_of_row _ _ 0 _ _ _ X1
  have yc := cell_of_row _ _ 0 _ _ _ X2
  simp only [List.getElem?_cons_zero, List.getElem?_toArray] at xc yc
  have hl1 := (Array.getElem?_eq_some_iff.1 X1).1
  have hl2 := (Array.getElem?_eq_some_iff.1 X2).1
  go_enter Tryz.func48, Tryz.ntmps48
  go_upto_region 3 with fail
  generalize hW1 : (W.alloc (.cells #[a] 34)).alloc (.cells #[b] 34) = W1 at *
  have HXY : Hid (∀ W', Below W1.heap.size W1 W' → W'.cell? ⟨W.heap.size, 0, none⟩ = some a ∧ W'.cell? ⟨W.heap.size + 1, 0, none⟩ = some b) := fun W' hW => ⟨(hW.cell (p := ⟨W.heap.size, 0, none⟩) hl1).trans xc, (hW.cell (p := ⟨W.heap.size + 1, 0, none⟩) hl2).trans yc⟩
  have hw1 := hbel.trans (hA2.mono hszw)
  refine wp_region_held_drew (S := fun w' => Below W1.heap.size W1 w') (by kernel_rfl) (Below.drew (Below.refl _ _)) (fun hSS => ?_)
  refine wpAnyH_take (i := 0) (v := ?_) rfl (by kernel_rfl) (by kernel_rfl) (by kernel_rfl) (fun _ _ _ h => h) (Or.inl ⟨by rfl, ?_⟩) hSS ?_
  rotate_left
  · intro wz hSz
    obtain ⟨p0, p1⟩ := HXY.out _ hSz
    go_simp
    try with_reducible rfl
  simp only [List.getElem_toArray, List.getElem_cons_zero, Act.put, List.setIfInBounds_toArray, List.set_cons_zero, List.set_cons_succ]
  refine wpAnyH_take (i := 2) (v := ?_) rfl (by kernel_rfl) (by kernel_rfl) (by kernel_rfl) (fun _ _ _ h => h) (Or.inl ⟨by rfl, ?_⟩) hSS ?_
  rotate_left
  · intro wz hSz
    obtain ⟨p0, p1⟩ := HXY.out _ hSz
    go_simp
    try with_reducible rfl
  simp only [List.getElem_toArray, List.getElem_cons_zero, List.getElem_cons_succ, Act.put, List.setIfInBounds_toArray, List.set_cons_zero, List.set_cons_succ]
  refine wpAnyH_ready (rs := [1]) (by kernel_rfl) (by simp) (AllReadyH.cons rfl (fun K1 hK1 => ?_) AllReadyH.nil)
  refine step_want (by rfl) ?_
  simp only [List.getElem_toArray, List.getElem_cons_zero, List.getElem_cons_succ]
  go_simp
  go_at_call 16
  refine (CK1.out _).mono ?_
  rintro e wk1 ⟨rfl, hbk⟩
  go_simp
  refine hK1.out _ _ (hSS.trans (hbk.mono hSS.size)) (fun hSS => ?_)
  clear hbk hK1
  refine wpAnyH_ready (rs := [3]) (by kernel_rfl) (by simp) (AllReadyH.cons rfl (fun K2 hK2 => ?_) AllReadyH.nil)
  refine step_want (by rfl) ?_
  simp only [List.getElem_toArray, List.getElem_cons_zero, List.getElem_cons_succ]
  go_simp
  go_at_call 16
  refine (CK2.out _).mono ?_
  rintro e wk2 ⟨rfl, hbk⟩
  go_simp
  refine hK2.out _ _ (hSS.trans (hbk.mono hSS.size)) (fun hSS => ?_)
  clear hbk hK2
  refine wpAnyH_take (i := 4) (v := (.bool false)) rfl (by kernel_rfl) (by kernel_rfl) (by kernel_rfl) (fun _ _ _ h => h) (Or.inl ⟨by rfl, ?_⟩) hSS ?_
  · intro wz hSz
    go_simp
  simp only [List.getElem_toArray, List.getElem_cons_zero, List.getElem_cons_succ, Act.put, List.setIfInBounds_toArray, List.set_cons_zero, List.set_cons_succ]
  refine wpAnyH_done (by kernel_rfl) ?_ _
  have hw3 := hw1.trans (hSS.mono hw1.size)
  obtain ⟨c1, c2⟩ := HXY.out _ hSS
  go_wp2_with fail
  refine (CI1.out _ hw3).mono ?_
  rintro e w4 ⟨rfl, hb4⟩
  replace hSS := hSS.trans (hb4.mono hSS.size)
  replace hw3 := hw1.trans (hSS.mono hw1.size)
  clear c1 c2 hb4
  obtain ⟨c1, c2⟩ := HXY.out _ hSS
  go_wp2_with fail
  refine (CI2.out _ hw3).mono ?_
  rintro e w5 ⟨rfl, hb5⟩
  replace hSS := hSS.trans (hb5.mono hSS.size)
  replace hw3 := hw1.trans (hSS.mono hw1.size)
  have hWW := hA2.trans (hSS.mono hA2.size)
  clear c1 c2 hb5 HEQ HG CI1 CI2 CK1 CK2 xc yc hl1 hl2 HXY X1 X2 hw1 hSS hA1 hA2 hone1 hone2 hW1
  have ha5 : Below w5.heap.size w5 (w5.alloc (.cells #[.pointer (some ⟨B, 0, none⟩), .pointer (some ⟨C, 0, none⟩)] 96)) := (Below.refl _ _).alloc (Nat.le_refl _) _
  have XP := heap_alloc_new w5 (.cells #[.pointer (some ⟨B, 0, none⟩), .pointer (some ⟨C, 0, none⟩)] 96)
  have hW6 := hWW.trans (ha5.mono hWW.size)
  have hC6 := hC.below hW6
  have hw6 := hw3.trans (ha5.mono hw3.size)
  have hle5 := hWW.size
  clear ha5 hw3
  go_upto_region 10 with fail
  generalize w5.alloc (.cells #[.pointer (some ⟨B, 0, none⟩), .pointer (some ⟨C, 0, none⟩)] 96) = W6 at *
  have HL : Hid (∀ W', Below W6.heap.size W6 W' → W'.cell? ⟨w5.heap.size, 0, none⟩ = some (.pointer (some ⟨B, 0, none⟩)) ∧ W'.cell? ⟨w5.heap.size, 1, none⟩ = some (.pointer (some ⟨C, 0, none⟩)) ∧ W'.cell? ⟨Cb, 1, none⟩ = some (.map (some M)) ∧ (Instr.lookup 90 (.map (some M)) (.agg #[.pointer (some ⟨B, 0, none⟩), .pointer (some ⟨C, 0, none⟩)]) true).run Tryz.prog W' = .ok (.tuple #[.agg #[], .bool (decide ((B, C) ∈ S))]) W') := fun W' hW => by
    have h1 := (hW.block _ (Array.getElem?_eq_some_iff.1 XP).1).trans XP
    have hC7 := hC6.below hW
    have hw7 := hw6.trans (hW.mono hw6.size)
    exact ⟨cell_of_row _ _ 0 _ _ _ h1, cell_of_row _ _ 1 _ _ _ h1, cell_of_row _ _ 1 _ _ _ hC7.blk, look_pair hC7.seen ⟨HPP.out.1.below hw7, HPP.out.2.below hw7⟩ (fun q hq => ⟨(hS q hq).1.below hw7, (hS q hq).2.below hw7⟩)⟩
  obtain ⟨RS, hRS⟩ : ∃ RS, RS = decide ((B, C) ∈ S) := ⟨_, rfl⟩
  rw [← hRS] at HL
  have HRS : Hid (RS = decide ((B, C) ∈ S)) := hRS
  clear hRS
  refine wp_region_held_drew (S := fun w' => Below W6.heap.size W6 w') (by kernel_rfl) (Below.drew (Below.refl _ _)) (fun hSS => ?_)
  refine wpAnyH_take (i := 0) (v := ?_) rfl (by kernel_rfl) (by kernel_rfl) (by kernel_rfl) (fun _ _ _ h => h) (Or.inl ⟨by rfl, ?_⟩) hSS ?_
  rotate_left
  · intro wz hSz
    go_simp
    try with_reducible rfl
  simp only [List.getElem_toArray, List.getElem_cons_zero, Act.put, List.setIfInBounds_toArray, List.set_cons_zero, List.set_cons_succ]
  refine wpAnyH_take (i := 1) (v := ?_) rfl (by kernel_rfl) (by kernel_rfl) (by kernel_rfl) (fun _ _ _ h => h) (Or.inl ⟨by rfl, ?_⟩) hSS ?_
  rotate_left
  · intro wz hSz
    go_simp
    try with_reducible rfl
  simp only [List.getElem_toArray, List.getElem_cons_zero, List.getElem_cons_succ, Act.put, List.setIfInBounds_toArray, List.set_cons_zero, List.set_cons_succ]
  refine wpAnyH_take (i := 2) (v := ?_) rfl (by kernel_rfl) (by kernel_rfl) (by kernel_rfl) (fun _ _ _ h => h) (Or.inl ⟨by rfl, ?_⟩) hSS ?_
  rotate_left
  · intro wz hSz
    go_simp
    try with_reducible rfl
  simp only [List.getElem_toArray, List.getElem_cons_zero, List.getElem_cons_succ, Act.put, List.setIfInBounds_toArray, List.set_cons_zero, List.set_cons_succ]
  refine wpAnyH_take (i := 3) (v := ?_) rfl (by kernel_rfl) (by kernel_rfl) (by kernel_rfl) (fun _ _ _ h => h) (Or.inl ⟨by rfl, ?_⟩) hSS ?_
  rotate_left
  · intro wz hSz
    obtain ⟨p0, p1, p2, p3⟩ := HL.out _ hSz
    go_simp
    try with_reducible rfl
  simp only [List.getElem_toArray, List.getElem_cons_zero, List.getElem_cons_succ, Act.put, List.setIfInBounds_toArray, List.set_cons_zero, List.set_cons_succ]
  refine wpAnyH_take (i := 4) (v := ?_) rfl (by kernel_rfl) (by kernel_rfl) (by kernel_rfl) (fun _ _ _ h => h) (Or.inl ⟨by rfl, ?_⟩) hSS ?_
  rotate_left
  · intro wz hSz
    obtain ⟨p0, p1, p2, p3⟩ := HL.out _ hSz
    go_simp
    try with_reducible rfl
  simp only [List.getElem_toArray, List.getElem_cons_zero, List.getElem_cons_succ, Act.put, List.setIfInBounds_toArray, List.set_cons_zero, List.set_cons_succ]
  refine wpAnyH_take (i := 5) (v := .tuple #[.agg #[], .bool RS]) rfl (by kernel_rfl) (by kernel_rfl) (by kernel_rfl) (fun _ _ _ h => h) (Or.inl ⟨by rfl, ?_⟩) hSS ?_
  · intro wz hSz
    obtain ⟨p0, p1, p2, p3⟩ := HL.out _ hSz
    go_simp
  simp only [List.getElem_toArray, List.getElem_cons_zero, List.getElem_cons_succ, Act.put, List.setIfInBounds_toArray, List.set_cons_zero, List.set_cons_succ]
  refine wpAnyH_take (i := 6) (v := ?_) rfl (by kernel_rfl) (by kernel_rfl) (by kernel_rfl) (fun _ _ _ h => h) (Or.inl ⟨by rfl, ?_⟩) hSS ?_
  rotate_left
  · intro wz hSz
    go_simp
    try with_reducible rfl
  simp only [List.getElem_toArray, List.getElem_cons_zero, List.getElem_cons_succ, Act.put, List.setIfInBounds_toArray, List.set_cons_zero, List.set_cons_succ]
  refine wpAnyH_take (i := 7) (v := ?_) rfl (by kernel_rfl) (by kernel_rfl) (by kernel_rfl) (fun _ _ _ h => h) (Or.inl ⟨by rfl, ?_⟩) hSS ?_
  rotate_left
  · intro wz hSz
    go_simp
    try with_reducible rfl
  simp only [List.getElem_toArray, List.getElem_cons_zero, List.getElem_cons_succ, Act.put, List.setIfInBounds_toArray, List.set_cons_zero, List.set_cons_succ]
  refine wpAnyH_take (i := 8) (v := ?_) rfl (by kernel_rfl) (by kernel_rfl) (by kernel_rfl) (fun _ _ _ h => h) (Or.inl ⟨by rfl, ?_⟩) hSS ?_
  rotate_left
  · intro wz hSz
    go_simp
    try with_reducible rfl
  simp only [List.getElem_toArray, List.getElem_cons_zero, List.getElem_cons_succ, Act.put, List.setIfInBounds_toArray, List.set_cons_zero, List.set_cons_succ]
  refine wpAnyH_ready (rs := [9]) (by kernel_rfl) (by simp) (AllReadyH.cons rfl (fun K1 hK1 => ?_) AllReadyH.nil)
  refine step_want (by rfl) ?_
  simp only [List.getElem_toArray, List.getElem_cons_zero, List.getElem_cons_succ]
  go_simp
  refine hK1.out _ _ (hSS.alloc hSS.size _) (fun hSS => ?_)
  refine wpAnyH_ready (rs := [10]) (by kernel_rfl) (by simp) (AllReadyH.cons rfl (fun K2 hK2 => ?_) AllReadyH.nil)
  refine step_want (by rfl) ?_
  simp only [List.getElem_toArray, List.getElem_cons_zero, List.getElem_cons_succ]
  go_simp
  refine hK2.out _ _ hSS (fun hSS => ?_)
  clear hK1 hK2
  refine wpAnyH_take (i := 11) (v := (.bool RS)) rfl (by kernel_rfl) (by kernel_rfl) (by kernel_rfl) (fun _ _ _ h => h) (Or.inl ⟨by rfl, ?_⟩) hSS ?_
  · intro wz hSz
    go_simp
  simp only [List.getElem_toArray, List.getElem_cons_zero, List.getElem_cons_succ, Act.put, List.setIfInBounds_toArray, List.set_cons_zero, List.set_cons_succ]
  refine wpAnyH_done (by kernel_rfl) ?_ _
  have hBW7 := hW6.trans (hSS.mono hW6.size)
  have XP7 := (hSS.block _ (Array.getElem?_eq_some_iff.1 XP).1).trans XP
  have hw7 := hw6.trans (hSS.mono hw6.size)
  cases RS
  · have hnS : (B, C) ∉ S := by
      have := HRS.out
      intro e
      rw [decide_eq_true e] at this
      cases this
    clear HL HRS
    go_upto_region 13 with fail
    generalize hW7 : (W6.alloc (.cells #[] 106)).drew = W7 at *
    have HM : Hid (∀ W', Below W7.heap.size W7 W' → (W'.cell? ⟨B, 0, none⟩ = some (.int .i64 (x.deep : Nat)) ∧ W'.cell? ⟨B, 1, none⟩ = some (.int .i64 (x.size : Nat)) ∧ W'.cell? ⟨B, 2, none⟩ = some (.bool x.known) ∧ W'.cell? ⟨B, 3, none⟩ = some (.bool x.right) ∧ W'.cell? ⟨B, 4, none⟩ = some (.slice la x.l.length lac)) ∧ W'.cell? ⟨C, 0, none⟩ = some (.int .i64 (y.deep : Nat)) ∧ W'.cell? ⟨C, 1, none⟩ = some (.int .i64 (y.size : Nat)) ∧ W'.cell? ⟨C, 2, none⟩ = some (.bool y.known) ∧ W'.cell? ⟨C, 3, none⟩ = some (.bool y.right) ∧ W'.cell? ⟨C, 4, none⟩ = some (.slice lb y.l.length lbc)) := fun W' hW => by
      have hw8 := hw7.trans (hW.mono hw7.size)
      have cc : ∀ {p : Addr} {u : Value}, w.cell? p = some u → W'.cell? p = some u := fun h => (hw8.cell (World.block_lt_of_cell? _ _ h)).trans h
      exact ⟨⟨cc ga.c0, cc ga.c1, cc ga.c2, cc ga.c3, cc ga.c4⟩, cc gb.c0, cc gb.c1, cc gb.c2, cc gb.c3, cc gb.c4⟩
    obtain ⟨MQ, hMQ⟩ : ∃ MQ : Bool, MQ = ((((x.deep : Nat) : Int) == ((y.deep : Nat) : Int)) && ((((x.size : Nat) : Int) == ((y.size : Nat) : Int)) && ((x.known == y.known) && (x.right == y.right)))) := ⟨_, rfl⟩
    have HMQ : Hid (MQ = ((((x.deep : Nat) : Int) == ((y.deep : Nat) : Int)) && ((((x.size : Nat) : Int) == ((y.size : Nat) : Int)) && ((x.known == y.known) && (x.right == y.right))))) := hMQ
    have HMN := fun W => meas_neq W ((x.deep : Nat) : Int) ((x.size : Nat) : Int) x.known x.right ((y.deep : Nat) : Int) ((y.size : Nat) : Int) y.known y.right
    rw [← hMQ] at HMN
    have HMG := fun W => meas_guard W ((x.deep : Nat) : Int) ((x.size : Nat) : Int) x.known x.right ((y.deep : Nat) : Int) ((y.size : Nat) : Int) y.known y.right
    have HNE : Hid (MQ = false → x ≠ y) := fun h e => by
      rw [hMQ, e] at h
      simp at h
    clear hMQ HMQ
    generalize ((x.deep : Nat) : Int) = XD at *
    generalize ((x.size : Nat) : Int) = XS at *
    generalize x.known = XK at *
    generalize x.right = XR at *
    generalize ((y.deep : Nat) : Int) = YD at *
    generalize ((y.size : Nat) : Int) = YS at *
    generalize y.known = YK at *
    generalize y.right = YR at *
    refine wp_region_held_drew (S := fun w' => Below W7.heap.size W7 w') (by kernel_rfl) (Below.drew (Below.refl _ _)) (fun hSS => ?_)
    refine wpAnyH_take (i := 0) (v := ?_) rfl (by kernel_rfl) (by kernel_rfl) (by kernel_rfl) (fun _ _ _ h => h) (Or.inl ⟨by rfl, ?_⟩) hSS ?_
    rotate_left
    · intro wz hSz
      go_simp
      try with_reducible rfl
    simp only [List.getElem_toArray, List.getElem_cons_zero, Act.put, List.setIfInBounds_toArray, List.set_cons_zero, List.set_cons_succ]
    refine wpAnyH_take (i := 1) (v := ?_) rfl (by kernel_rfl) (by kernel_rfl) (by kernel_rfl) (fun _ _ _ h => h) (Or.inl ⟨by rfl, ?_⟩) hSS ?_
    rotate_left
    · intro wz hSz
      go_simp
      try with_reducible rfl
    simp only [List.getElem_toArray, List.getElem_cons_zero, List.getElem_cons_succ, Act.put, List.setIfInBounds_toArray, List.set_cons_zero, List.set_cons_succ]
    refine wpAnyH_take (i := 2) (v := ?_) rfl (by kernel_rfl) (by kernel_rfl) (by kernel_rfl) (fun _ _ _ h => h) (Or.inl ⟨by rfl, ?_⟩) hSS ?_
    rotate_left
    · intro wz hSz
      go_simp
      try with_reducible rfl
    simp only [List.getElem_toArray, List.getElem_cons_zero, List.getElem_cons_succ, Act.put, List.setIfInBounds_toArray, List.set_cons_zero, List.set_cons_succ]
    refine wpAnyH_take (i := 3) (v := ?_) rfl (by kernel_rfl) (by kernel_rfl) (by kernel_rfl) (fun _ _ _ h => h) (Or.inl ⟨by rfl, ?_⟩) hSS ?_
    rotate_left
    · intro wz hSz
      obtain ⟨⟨p0, p1, p2, p3, p4⟩, p5, p6, p7, p8, p9⟩ := HM.out _ hSz
      go_simp
      try with_reducible rfl
    simp only [List.getElem_toArray, List.getElem_cons_zero, List.getElem_cons_succ, Act.put, List.setIfInBounds_toArray, List.set_cons_zero, List.set_cons_succ]
    refine wpAnyH_take (i := 4) (v := ?_) rfl (by kernel_rfl) (by kernel_rfl) (by kernel_rfl) (fun _ _ _ h => h) (Or.inl ⟨by rfl, ?_⟩) hSS ?_
    rotate_left
    · intro wz hSz
      go_simp
      try with_reducible rfl
    simp only [List.getElem_toArray, List.getElem_cons_zero, List.getElem_cons_succ, Act.put, List.setIfInBounds_toArray, List.set_cons_zero, List.set_cons_succ]
    refine wpAnyH_take (i := 5) (v := ?_) rfl (by kernel_rfl) (by kernel_rfl) (by kernel_rfl) (fun _ _ _ h => h) (Or.inl ⟨by rfl, ?_⟩) hSS ?_
    rotate_left
    · intro wz hSz
      go_simp
      try with_reducible rfl
    simp only [List.getElem_toArray, List.getElem_cons_zero, List.getElem_cons_succ, Act.put, List.setIfInBounds_toArray, List.set_cons_zero, List.set_cons_succ]
    refine wpAnyH_take (i := 6) (v := ?_) rfl (by kernel_rfl) (by kernel_rfl) (by kernel_rfl) (fun _ _ _ h => h) (Or.inl ⟨by rfl, ?_⟩) hSS ?_
    rotate_left
    · intro wz hSz
      go_simp
      try with_reducible rfl
    simp only [List.getElem_toArray, List.getElem_cons_zero, List.getElem_cons_succ, Act.put, List.setIfInBounds_toArray, List.set_cons_zero, List.set_cons_succ]
    refine wpAnyH_take (i := 7) (v := ?_) rfl (by kernel_rfl) (by kernel_rfl) (by kernel_rfl) (fun _ _ _ h => h) (Or.inl ⟨by rfl, ?_⟩) hSS ?_
    rotate_left
    · intro wz hSz
      obtain ⟨⟨p0, p1, p2, p3, p4⟩, p5, p6, p7, p8, p9⟩ := HM.out _ hSz
      go_simp
      try with_reducible rfl
    simp only [List.getElem_toArray, List.getElem_cons_zero, List.getElem_cons_succ, Act.put, List.setIfInBounds_toArray, List.set_cons_zero, List.set_cons_succ]
    refine wpAnyH_take (i := 8) (v := (.bool (!MQ))) rfl (by kernel_rfl) (by kernel_rfl) (by kernel_rfl) (fun _ _ _ h => h) (Or.inl ⟨by rfl, ?_⟩) hSS ?_
    · intro wz hSz
      go_simp
    simp only [List.getElem_toArray, List.getElem_cons_zero, List.getElem_cons_succ, Act.put, List.setIfInBounds_toArray, List.set_cons_zero, List.set_cons_succ]
    cases MQ
    · have hne := HNE.out rfl
      refine wpAnyH_take (i := 9) (v := (.bool true)) rfl (by kernel_rfl) (by kernel_rfl) (by kernel_rfl) (fun _ _ _ h => h) (Or.inl ⟨by rfl, ?_⟩) hSS ?_
      · intro wz hSz
        go_simp
      simp only [List.getElem_toArray, List.getElem_cons_zero, List.getElem_cons_succ, Act.put, List.setIfInBounds_toArray, List.set_cons_zero, List.set_cons_succ]
      refine wpAnyH_take (i := 10) (v := undef) rfl (by kernel_rfl) (by kernel_rfl) (by kernel_rfl) (fun _ _ _ h => h) (Or.inr ⟨by rfl, rfl⟩) hSS ?_
      simp only [List.getElem_toArray, List.getElem_cons_zero, List.getElem_cons_succ, Act.put, List.setIfInBounds_toArray, List.set_cons_zero, List.set_cons_succ]
      refine wpAnyH_take (i := 11) (v := undef) rfl (by kernel_rfl) (by kernel_rfl) (by kernel_rfl) (fun _ _ _ h => h) (Or.inr ⟨by rfl, rfl⟩) hSS ?_
      simp only [List.getElem_toArray, List.getElem_cons_zero, List.getElem_cons_succ, Act.put, List.setIfInBounds_toArray, List.set_cons_zero, List.set_cons_succ]
      refine wpAnyH_take (i := 12) (v := undef) rfl (by kernel_rfl) (by kernel_rfl) (by kernel_rfl) (fun _ _ _ h => h) (Or.inr ⟨by rfl, rfl⟩) hSS ?_
      simp only [List.getElem_toArray, List.getElem_cons_zero, List.getElem_cons_succ, Act.put, List.setIfInBounds_toArray, List.set_cons_zero, List.set_cons_succ]
      refine wpAnyH_take (i := 13) (v := undef) rfl (by kernel_rfl) (by kernel_rfl) (by kernel_rfl) (fun _ _ _ h => h) (Or.inr ⟨by rfl, rfl⟩) hSS ?_
      simp only [List.getElem_toArray, List.getElem_cons_zero, List.getElem_cons_succ, Act.put, List.setIfInBounds_toArray, List.set_cons_zero, List.set_cons_succ]
      refine wpAnyH_take (i := 14) (v := undef) rfl (by kernel_rfl) (by kernel_rfl) (by kernel_rfl) (fun _ _ _ h => h) (Or.inr ⟨by rfl, rfl⟩) hSS ?_
      simp only [List.getElem_toArray, List.getElem_cons_zero, List.getElem_cons_succ, Act.put, List.setIfInBounds_toArray, List.set_cons_zero, List.set_cons_succ]
      refine wpAnyH_take (i := 15) (v := undef) rfl (by kernel_rfl) (by kernel_rfl) (by kernel_rfl) (fun _ _ _ h => h) (Or.inr ⟨by rfl, rfl⟩) hSS ?_
      simp only [List.getElem_toArray, List.getElem_cons_zero, List.getElem_cons_succ, Act.put, List.setIfInBounds_toArray, List.set_cons_zero, List.set_cons_succ]
      refine wpAnyH_take (i := 16) (v := undef) rfl (by kernel_rfl) (by kernel_rfl) (by kernel_rfl) (fun _ _ _ h => h) (Or.inr ⟨by rfl, rfl⟩) hSS ?_
      simp only [List.getElem_toArray, List.getElem_cons_zero, List.getElem_cons_succ, Act.put, List.setIfInBounds_toArray, List.set_cons_zero, List.set_cons_succ]
      refine wpAnyH_take (i := 17) (v := undef) rfl (by kernel_rfl) (by kernel_rfl) (by kernel_rfl) (fun _ _ _ h => h) (Or.inr ⟨by rfl, rfl⟩) hSS ?_
      simp only [List.getElem_toArray, List.getElem_cons_zero, List.getElem_cons_succ, Act.put, List.setIfInBounds_toArray, List.set_cons_zero, List.set_cons_succ]
      refine wpAnyH_take (i := 18) (v := undef) rfl (by kernel_rfl) (by kernel_rfl) (by kernel_rfl) (fun _ _ _ h => h) (Or.inr ⟨by rfl, rfl⟩) hSS ?_
      simp only [List.getElem_toArray, List.getElem_cons_zero, List.getElem_cons_succ, Act.put, List.setIfInBounds_toArray, List.set_cons_zero, List.set_cons_succ]
      refine wpAnyH_take (i := 19) (v := undef) rfl (by kernel_rfl) (by kernel_rfl) (by kernel_rfl) (fun _ _ _ h => h) (Or.inr ⟨by rfl, rfl⟩) hSS ?_
      simp only [List.getElem_toArray, List.getElem_cons_zero, List.getElem_cons_succ, Act.put, List.setIfInBounds_toArray, List.set_cons_zero, List.set_cons_succ]
      refine wpAnyH_take (i := 20) (v := undef) rfl (by kernel_rfl) (by kernel_rfl) (by kernel_rfl) (fun _ _ _ h => h) (Or.inr ⟨by rfl, rfl⟩) hSS ?_
      simp only [List.getElem_toArray, List.getElem_cons_zero, List.getElem_cons_succ, Act.put, List.setIfInBounds_toArray, List.set_cons_zero, List.set_cons_succ]
      refine wpAnyH_take (i := 21) (v := (.bool true)) rfl (by kernel_rfl) (by kernel_rfl) (by kernel_rfl) (fun _ _ _ h => h) (Or.inl ⟨by rfl, ?_⟩) hSS ?_
      · intro wz hSz
        go_simp
      simp only [List.getElem_toArray, List.getElem_cons_zero, List.getElem_cons_succ, Act.put, List.setIfInBounds_toArray, List.set_cons_zero, List.set_cons_succ]
      refine wpAnyH_take (i := 22) (v := (.bool true)) rfl (by kernel_rfl) (by kernel_rfl) (by kernel_rfl) (fun _ _ _ h => h) (Or.inl ⟨by rfl, ?_⟩) hSS ?_
      · intro wz hSz
        go_simp
      simp only [List.getElem_toArray, List.getElem_cons_zero, List.getElem_cons_succ, Act.put, List.setIfInBounds_toArray, List.set_cons_zero, List.set_cons_succ]
      refine wpAnyH_take (i := 23) (v := undef) rfl (by kernel_rfl) (by kernel_rfl) (by kernel_rfl) (fun _ _ _ h => h) (Or.inr ⟨by rfl, rfl⟩) hSS ?_
      simp only [List.getElem_toArray, List.getElem_cons_zero, List.getElem_cons_succ, Act.put, List.setIfInBounds_toArray, List.set_cons_zero, List.set_cons_succ]
      refine wpAnyH_take (i := 24) (v := undef) rfl (by kernel_rfl) (by kernel_rfl) (by kernel_rfl) (fun _ _ _ h => h) (Or.inr ⟨by rfl, rfl⟩) hSS ?_
      simp only [List.getElem_toArray, List.getElem_cons_zero, List.getElem_cons_succ, Act.put, List.setIfInBounds_toArray, List.set_cons_zero, List.set_cons_succ]
      refine wpAnyH_take (i := 25) (v := undef) rfl (by kernel_rfl) (by kernel_rfl) (by kernel_rfl) (fun _ _ _ h => h) (Or.inr ⟨by rfl, rfl⟩) hSS ?_
      simp only [List.getElem_toArray, List.getElem_cons_zero, List.getElem_cons_succ, Act.put, List.setIfInBounds_toArray, List.set_cons_zero, List.set_cons_succ]
      refine wpAnyH_take (i := 26) (v := undef) rfl (by kernel_rfl) (by kernel_rfl) (by kernel_rfl) (fun _ _ _ h => h) (Or.inr ⟨by rfl, rfl⟩) hSS ?_
      simp only [List.getElem_toArray, List.getElem_cons_zero, List.getElem_cons_succ, Act.put, List.setIfInBounds_toArray, List.set_cons_zero, List.set_cons_succ]
      refine wpAnyH_take (i := 27) (v := (.bool true)) rfl (by kernel_rfl) (by kernel_rfl) (by kernel_rfl) (fun _ _ _ h => h) (Or.inl ⟨by rfl, ?_⟩) hSS ?_
      · intro wz hSz
        go_simp
      simp only [List.getElem_toArray, List.getElem_cons_zero, List.getElem_cons_succ, Act.put, List.setIfInBounds_toArray, List.set_cons_zero, List.set_cons_succ]
      refine wpAnyH_done (by kernel_rfl) ?_ _
      go_wp2_with fail
      go_ret
      exact AlikeDoes.plain hC (hBW7.trans (hSS.mono hBW7.size)) ⟨fun _ => hne, fun e => by cases e⟩
    · by_cases hlen : x.l.length = y.l.length
      · have HLEN : Hid (x.l.length = y.l.length) := hlen
        have CE : Hid (∀ W', Below w.heap.size w W' → Calls Tryz.prog 78 #[.slice ka x.keys.length kac, .slice kb y.keys.length kbc] W' fun e w' => (∃ z : Bool, e = .returned (.bool z) ∧ (z = true ↔ x.keys = y.keys)) ∧ Below W'.heap.size W' w') := fun W' hW => equal_any (sa.below hW) (sb.below hW) kac kbc hkx
        clear hlen
        refine wpAnyH_take (i := 9) (v := (.bool false)) rfl (by kernel_rfl) (by kernel_rfl) (by kernel_rfl) (fun _ _ _ h => h) (Or.inl ⟨by rfl, ?_⟩) hSS ?_
        · intro wz hSz
          go_simp
        simp only [List.getElem_toArray, List.getElem_cons_zero, List.getElem_cons_succ, Act.put, List.setIfInBounds_toArray, List.set_cons_zero, List.set_cons_succ]
        refine wpAnyH_take (i := 10) (v := ?_) rfl (by kernel_rfl) (by kernel_rfl) (by kernel_rfl) (fun _ _ _ h => h) (Or.inl ⟨by rfl, ?_⟩) hSS ?_
        rotate_left
        · intro wz hSz
          go_simp
          try with_reducible rfl
        simp only [List.getElem_toArray, List.getElem_cons_zero, List.getElem_cons_succ, Act.put, List.setIfInBounds_toArray, List.set_cons_zero, List.set_cons_succ]
        refine wpAnyH_take (i := 11) (v := ?_) rfl (by kernel_rfl) (by kernel_rfl) (by kernel_rfl) (fun _ _ _ h => h) (Or.inl ⟨by rfl, ?_⟩) hSS ?_
        rotate_left
        · intro wz hSz
          go_simp
          try with_reducible rfl
        simp only [List.getElem_toArray, List.getElem_cons_zero, List.getElem_cons_succ, Act.put, List.setIfInBounds_toArray, List.set_cons_zero, List.set_cons_succ]
        refine wpAnyH_take (i := 12) (v := ?_) rfl (by kernel_rfl) (by kernel_rfl) (by kernel_rfl) (fun _ _ _ h => h) (Or.inl ⟨by rfl, ?_⟩) hSS ?_
        rotate_left
        · intro wz hSz
          go_simp
          try with_reducible rfl
        simp only [List.getElem_toArray, List.getElem_cons_zero, List.getElem_cons_succ, Act.put, List.setIfInBounds_toArray, List.set_cons_zero, List.set_cons_succ]
        refine wpAnyH_take (i := 13) (v := ?_) rfl (by kernel_rfl) (by kernel_rfl) (by kernel_rfl) (fun _ _ _ h => h) (Or.inl ⟨by rfl, ?_⟩) hSS ?_
        rotate_left
        · intro wz hSz
          obtain ⟨⟨p0, p1, p2, p3, p4⟩, p5, p6, p7, p8, p9⟩ := HM.out _ hSz
          go_simp
          try with_reducible rfl
        simp only [List.getElem_toArray, List.getElem_cons_zero, List.getElem_cons_succ, Act.put, List.setIfInBounds_toArray, List.set_cons_zero, List.set_cons_succ]
        refine wpAnyH_take (i := 14) (v := ?_) rfl (by kernel_rfl) (by kernel_rfl) (by kernel_rfl) (fun _ _ _ h => h) (Or.inl ⟨by rfl, ?_⟩) hSS ?_
        rotate_left
        · intro wz hSz
          go_simp
          try with_reducible rfl
        simp only [List.getElem_toArray, List.getElem_cons_zero, List.getElem_cons_succ, Act.put, List.setIfInBounds_toArray, List.set_cons_zero, List.set_cons_succ]
        refine wpAnyH_take (i := 15) (v := ?_) rfl (by kernel_rfl) (by kernel_rfl) (by kernel_rfl) (fun _ _ _ h => h) (Or.inl ⟨by rfl, ?_⟩) hSS ?_
        rotate_left
        · intro wz hSz
          go_simp
          try with_reducible rfl
        simp only [List.getElem_toArray, List.getElem_cons_zero, List.getElem_cons_succ, Act.put, List.setIfInBounds_toArray, List.set_cons_zero, List.set_cons_succ]
        refine wpAnyH_take (i := 16) (v := ?_) rfl (by kernel_rfl) (by kernel_rfl) (by kernel_rfl) (fun _ _ _ h => h) (Or.inl ⟨by rfl, ?_⟩) hSS ?_
        rotate_left
        · intro wz hSz
          go_simp
          try with_reducible rfl
        simp only [List.getElem_toArray, List.getElem_cons_zero, List.getElem_cons_succ, Act.put, List.setIfInBounds_toArray, List.set_cons_zero, List.set_cons_succ]
        refine wpAnyH_take (i := 17) (v := ?_) rfl (by kernel_rfl) (by kernel_rfl) (by kernel_rfl) (fun _ _ _ h => h) (Or.inl ⟨by rfl, ?_⟩) hSS ?_
        rotate_left
        · intro wz hSz
          go_simp
          try with_reducible rfl
        simp only [List.getElem_toArray, List.getElem_cons_zero, List.getElem_cons_succ, Act.put, List.setIfInBounds_toArray, List.set_cons_zero, List.set_cons_succ]
        refine wpAnyH_take (i := 18) (v := ?_) rfl (by kernel_rfl) (by kernel_rfl) (by kernel_rfl) (fun _ _ _ h => h) (Or.inl ⟨by rfl, ?_⟩) hSS ?_
        rotate_left
        · intro wz hSz
          obtain ⟨⟨p0, p1, p2, p3, p4⟩, p5, p6, p7, p8, p9⟩ := HM.out _ hSz
          go_simp
          try with_reducible rfl
        simp only [List.getElem_toArray, List.getElem_cons_zero, List.getElem_cons_succ, Act.put, List.setIfInBounds_toArray, List.set_cons_zero, List.set_cons_succ]
        refine wpAnyH_take (i := 19) (v := ?_) rfl (by kernel_rfl) (by kernel_rfl) (by kernel_rfl) (fun _ _ _ h => h) (Or.inl ⟨by rfl, ?_⟩) hSS ?_
        rotate_left
        · intro wz hSz
          go_simp
          try with_reducible rfl
        simp only [List.getElem_toArray, List.getElem_cons_zero, List.getElem_cons_succ, Act.put, List.setIfInBounds_toArray, List.set_cons_zero, List.set_cons_succ]
        refine wpAnyH_take (i := 20) (v := (.bool false)) rfl (by kernel_rfl) (by kernel_rfl) (by kernel_rfl) (fun _ _ _ h => h) (Or.inl ⟨by rfl, ?_⟩) hSS ?_
        · intro wz hSz
          have hl3 : ((x.l.length : Nat) : Int) = ((y.l.length : Nat) : Int) := by have := HLEN.out; omega
          go_simp
        simp only [List.getElem_toArray, List.getElem_cons_zero, List.getElem_cons_succ, Act.put, List.setIfInBounds_toArray, List.set_cons_zero, List.set_cons_succ]
        refine wpAnyH_take (i := 21) (v := (.bool false)) rfl (by kernel_rfl) (by kernel_rfl) (by kernel_rfl) (fun _ _ _ h => h) (Or.inl ⟨by rfl, ?_⟩) hSS ?_
        · intro wz hSz
          go_simp
        simp only [List.getElem_toArray, List.getElem_cons_zero, List.getElem_cons_succ, Act.put, List.setIfInBounds_toArray, List.set_cons_zero, List.set_cons_succ]
        refine wpAnyH_take (i := 22) (v := (.bool false)) rfl (by kernel_rfl) (by kernel_rfl) (by kernel_rfl) (fun _ _ _ h => h) (Or.inl ⟨by rfl, ?_⟩) hSS ?_
        · intro wz hSz
          go_simp
        simp only [List.getElem_toArray, List.getElem_cons_zero, List.getElem_cons_succ, Act.put, List.setIfInBounds_toArray, List.set_cons_zero, List.set_cons_succ]
        refine wpAnyH_take (i := 23) (v := ?_) rfl (by kernel_rfl) (by kernel_rfl) (by kernel_rfl) (fun _ _ _ h => h) (Or.inl ⟨by rfl, ?_⟩) hSS ?_
        rotate_left
        · intro wz hSz
          go_simp
          try with_reducible rfl
        simp only [List.getElem_toArray, List.getElem_cons_zero, List.getElem_cons_succ, Act.put, List.setIfInBounds_toArray, List.set_cons_zero, List.set_cons_succ]
        refine wpAnyH_take (i := 24) (v := ?_) rfl (by kernel_rfl) (by kernel_rfl) (by kernel_rfl) (fun _ _ _ h => h) (Or.inl ⟨by rfl, ?_⟩) hSS ?_
        rotate_left
        · intro wz hSz
          go_simp
          try with_reducible rfl
        simp only [List.getElem_toArray, List.getElem_cons_zero, List.getElem_cons_succ, Act.put, List.setIfInBounds_toArray, List.set_cons_zero, List.set_cons_succ]
        refine wpAnyH_ready (rs := [25]) (by kernel_rfl) (by simp) (AllReadyH.cons rfl (fun K1 hK1 => ?_) AllReadyH.nil)
        refine step_want (by rfl) ?_
        simp only [List.getElem_toArray, List.getElem_cons_zero, List.getElem_cons_succ]
        go_simp
        go_at_call 78
        refine (CE.out _ (hw7.trans (hSS.mono hw7.size))).mono ?_
        rintro e we ⟨⟨z, rfl, hz⟩, hbk⟩
        go_simp
        refine hK1.out _ _ (hSS.trans (hbk.mono hSS.size)) (fun hSS => ?_)
        clear hbk hK1
        cases z
        · have hne : x ≠ y := fun e => by
            have := hz.2 (by rw [e])
            cases this
          refine wpAnyH_take (i := 26) (v := (.bool true)) rfl (by kernel_rfl) (by kernel_rfl) (by kernel_rfl) (fun _ _ _ h => h) (Or.inl ⟨by rfl, ?_⟩) hSS ?_
          · intro wz hSz
            go_simp
          simp only [List.getElem_toArray, List.getElem_cons_zero, List.getElem_cons_succ, Act.put, List.setIfInBounds_toArray, List.set_cons_zero, List.set_cons_succ]
          refine wpAnyH_take (i := 27) (v := (.bool true)) rfl (by kernel_rfl) (by kernel_rfl) (by kernel_rfl) (fun _ _ _ h => h) (Or.inl ⟨by rfl, ?_⟩) hSS ?_
          · intro wz hSz
            go_simp
          simp only [List.getElem_toArray, List.getElem_cons_zero, List.getElem_cons_succ, Act.put, List.setIfInBounds_toArray, List.set_cons_zero, List.set_cons_succ]
          refine wpAnyH_done (by kernel_rfl) ?_ _
          go_wp2_with fail
          go_ret
          exact AlikeDoes.plain hC (hBW7.trans (hSS.mono hBW7.size)) ⟨fun _ => hne, fun e => by cases e⟩
        · have hkeys := hz.1 rfl
          have hsx : Hid (Shal x y) := ⟨HLEN.out, fun e => hsh e hkeys⟩
          refine wpAnyH_take (i := 26) (v := (.bool false)) rfl (by kernel_rfl) (by kernel_rfl) (by kernel_rfl) (fun _ _ _ h => h) (Or.inl ⟨by rfl, ?_⟩) hSS ?_
          · intro wz hSz
            go_simp
          simp only [List.getElem_toArray, List.getElem_cons_zero, List.getElem_cons_succ, Act.put, List.setIfInBounds_toArray, List.set_cons_zero, List.set_cons_succ]
          refine wpAnyH_take (i := 27) (v := (.bool false)) rfl (by kernel_rfl) (by kernel_rfl) (by kernel_rfl) (fun _ _ _ h => h) (Or.inl ⟨by rfl, ?_⟩) hSS ?_
          · intro wz hSz
            go_simp
          simp only [List.getElem_toArray, List.getElem_cons_zero, List.getElem_cons_succ, Act.put, List.setIfInBounds_toArray, List.set_cons_zero, List.set_cons_succ]
          refine wpAnyH_done (by kernel_rfl) ?_ _
          have hWe := hBW7.trans (hSS.mono hBW7.size)
          have XP8 := (hSS.block _ (Array.getElem?_eq_some_iff.1 XP7).1).trans XP7
          have hwe := hw7.trans (hSS.mono hw7.size)
          clear hSS HM HMN HMG HNE CE hz XP XP7 hC6 hBW7 hw7 hw6 hW6 hbel
          have hMlt := hC.seen.lt
          have hClt := (Array.getElem?_eq_some_iff.1 hC.blk).1
          have hdr : Below we.heap.size we we.drew := Below.drew (Below.refl _ _)
          have hWd := hWe.trans (hdr.mono hWe.size)
          have hwd := hwe.trans (hdr.mono hwe.size)
          have XP9 := (hdr.block _ (Array.getElem?_eq_some_iff.1 XP8).1).trans XP8
          have hC9 := hC.below hWd
          go_upto_region 15 with fail
          generalize hW9 : we.drew = W9 at *
          obtain ⟨W10, hput, hseen10, hg10⟩ := put_pair hC9.seen (p := (B, C)) ⟨HPP.out.1.below hwd, HPP.out.2.below hwd⟩ (fun q hq => ⟨(hS q hq).1.below hwd, (hS q hq).2.below hwd⟩) hnS
          unfold pkey at hput
          have hle9 : W.heap.size ≤ W9.heap.size := hWd.size
          have hlw5 := (Array.getElem?_eq_some_iff.1 XP9).1
          have XP10 := (hg10.block w5.heap.size hlw5 (fun e => by injection e with e; omega)).trans XP9
          have hblk10 := (hg10.block Cb (by omega) (fun e => by injection e with e; exact hC.hne e)).trans hC9.blk
          have hown10 := own_grown hC9.own hg10 (fun k hk e => by injection hk with hk; subst hk; exact hC.wm e)
          have hbel10 := hC9.bel.grown hg10 hC9.bel.size (fun k hk => by injection hk with hk; subst hk; exact hC.hM)
          refine wp_region_held_drew (S := fun w' => w'.cell? ⟨Cb, 1, none⟩ = some (.map (some M)) ∧ w'.cell? ⟨w5.heap.size, 0, none⟩ = some (.pointer (some ⟨B, 0, none⟩)) ∧ w'.cell? ⟨w5.heap.size, 1, none⟩ = some (.pointer (some ⟨C, 0, none⟩))) (by kernel_rfl) (by rw [hW9]; exact ⟨cell_of_row _ _ 1 _ _ _ hC9.blk, cell_of_row _ _ 0 _ _ _ XP9, cell_of_row _ _ 1 _ _ _ XP9⟩) (fun hSS => ?_)
          rw [hW9]
          rw [hW9] at hSS
          refine wpAnyH_take (i := 0) (v := ?_) rfl (by kernel_rfl) (by kernel_rfl) (by kernel_rfl) (fun _ _ _ h => h) (Or.inl ⟨by rfl, ?_⟩) hSS ?_
          rotate_left
          · intro wz hSz
            go_simp
            try with_reducible rfl
          simp only [List.getElem_toArray, List.getElem_cons_zero, Act.put, List.setIfInBounds_toArray, List.set_cons_zero, List.set_cons_succ]
          refine wpAnyH_take (i := 1) (v := ?_) rfl (by kernel_rfl) (by kernel_rfl) (by kernel_rfl) (fun _ _ _ h => h) (Or.inl ⟨by rfl, ?_⟩) hSS ?_
          rotate_left
          · intro wz hSz
            go_simp
            try with_reducible rfl
          simp only [List.getElem_toArray, List.getElem_cons_zero, List.getElem_cons_succ, Act.put, List.setIfInBounds_toArray, List.set_cons_zero, List.set_cons_succ]
          refine wpAnyH_take (i := 2) (v := ?_) rfl (by kernel_rfl) (by kernel_rfl) (by kernel_rfl) (fun _ _ _ h => h) (Or.inl ⟨by rfl, ?_⟩) hSS ?_
          rotate_left
          · intro wz hSz
            go_simp
            try with_reducible rfl
          simp only [List.getElem_toArray, List.getElem_cons_zero, List.getElem_cons_succ, Act.put, List.setIfInBounds_toArray, List.set_cons_zero, List.set_cons_succ]
          refine wpAnyH_take (i := 3) (v := ?_) rfl (by kernel_rfl) (by kernel_rfl) (by kernel_rfl) (fun _ _ _ h => h) (Or.inl ⟨by rfl, ?_⟩) hSS ?_
          rotate_left
          · intro wz hSz
            obtain ⟨p0, p1, p2⟩ := hSz
            go_simp
            try with_reducible rfl
          simp only [List.getElem_toArray, List.getElem_cons_zero, List.getElem_cons_succ, Act.put, List.setIfInBounds_toArray, List.set_cons_zero, List.set_cons_succ]
          refine wpAnyH_take (i := 4) (v := ?_) rfl (by kernel_rfl) (by kernel_rfl) (by kernel_rfl) (fun _ _ _ h => h) (Or.inl ⟨by rfl, ?_⟩) hSS ?_
          rotate_left
          · intro wz hSz
            obtain ⟨p0, p1, p2⟩ := hSz
            go_simp
            try with_reducible rfl
          simp only [List.getElem_toArray, List.getElem_cons_zero, List.getElem_cons_succ, Act.put, List.setIfInBounds_toArray, List.set_cons_zero, List.set_cons_succ]
          refine wpAnyH_take (i := 5) (v := ?_) rfl (by kernel_rfl) (by kernel_rfl) (by kernel_rfl) (fun _ _ _ h => h) (Or.inl ⟨by rfl, ?_⟩) hSS ?_
          rotate_left
          · intro wz hSz
            go_simp
            try with_reducible rfl
          simp only [List.getElem_toArray, List.getElem_cons_zero, List.getElem_cons_succ, Act.put, List.setIfInBounds_toArray, List.set_cons_zero, List.set_cons_succ]
          refine wpAnyH_ready (rs := [6]) (by kernel_rfl) (by simp) (AllReadyH.cons rfl (fun K1 hK1 => ?_) AllReadyH.nil)
          refine step_want (by rfl) ?_
          simp only [List.getElem_toArray, List.getElem_cons_zero, List.getElem_cons_succ]
          go_simp
          refine hK1.out _ _ ⟨cell_of_row _ _ 1 _ _ _ hblk10, cell_of_row _ _ 0 _ _ _ XP10, cell_of_row _ _ 1 _ _ _ XP10⟩ (fun hSS => ?_)
          clear hK1
          refine wpAnyH_done (by kernel_rfl) ?_ _
          clear hput hSS XP9 XP8 hdr hwe
          have hd10 : Below W10.heap.size W10 W10.drew := Below.drew (Below.refl _ _)
          have XP11 := (hd10.block _ (Array.getElem?_eq_some_iff.1 XP10).1).trans XP10
          have hblk11 := (hd10.block _ (Array.getElem?_eq_some_iff.1 hblk10).1).trans hblk10
          have hown11 := own_below7 hown10 hd10
          have hseen11 := hseen10.below hd10
          have hbel11 := hbel10.trans (hd10.mono hbel10.size)
          have hs10 := hg10.size
          have hs11 := hd10.size
          go_upto_region 16 with fail
          refine wp_region_held_drew (S := fun w' => w'.cell? ⟨w5.heap.size, 0, none⟩ = some (.pointer (some ⟨B, 0, none⟩)) ∧ w'.cell? ⟨w5.heap.size, 1, none⟩ = some (.pointer (some ⟨C, 0, none⟩))) (by kernel_rfl) ⟨cell_of_row _ _ 0 _ _ _ XP11, cell_of_row _ _ 1 _ _ _ XP11⟩ (fun hSS => ?_)
          generalize hW11 : W10.drew = W11 at *
          have cC0 := cell_of_row _ _ 0 _ _ _ hblk11
          have hlw := (Array.getElem?_eq_some_iff.1 XP11).1
          have hA12 : Below W11.heap.size W11 (W11.alloc (.cells #[.pointer (some ⟨B, 0, none⟩), .pointer (some ⟨C, 0, none⟩)] 96)) := (Below.refl _ _).alloc (Nat.le_refl _) _
          have XN := heap_alloc_new W11 (.cells #[.pointer (some ⟨B, 0, none⟩), .pointer (some ⟨C, 0, none⟩)] 96)
          have XP12 := (hA12.block _ hlw).trans XP11
          have hblk12 := (hA12.block Cb (by omega)).trans hblk11
          have hown12 := own_below7 hown11 hA12
          have hseen12 := hseen11.below hA12
          have hbel12 := hbel11.trans (hA12.mono hbel11.size)
          have cC12 := cell_of_row _ _ 0 _ _ _ hblk12
          simp only [List.getElem?_cons_zero, List.getElem?_toArray] at cC0 cC12
          have hl11 : W.heap.size ≤ W11.heap.size := by omega
          obtain ⟨i0, hi, hz0, hz1, hz2⟩ := info_parts7 infoP
          obtain ⟨g, cp, W13, hr13, hown13, hg13, hat13, hgl⟩ := run_append_lies (P := Tryz.prog) (W11.alloc (.cells #[.pointer (some ⟨B, 0, none⟩), .pointer (some ⟨C, 0, none⟩)] 96)) 91 91 w.heap.size 96 i0 _ 2 16 Tryz.underlying91 hi hz0 hz1 hz2 rfl (by omega) WS ws.length (pcellsV ws) hown12 ⟨W11.heap.size, 0, none⟩ 1 1 [.pointer (some ⟨B, 0, none⟩), .pointer (some ⟨C, 0, none⟩)] rfl (World.news_of_block XN) (by simp [Value.oneCell']) (by omega) (by unfold maxLen; omega) (by omega) (by simp; omega) _ rfl
          simp only [World.size_alloc] at hat13
          have hsz13 := hg13.size
          simp only [World.size_alloc] at hsz13
          have hgC : g ≠ Cb := fun e => by
            rcases hat13 with h | h
            · exact hC.wc (by rw [h, e])
            · omega
          have hgM : g ≠ M := fun e => by
            rcases hat13 with h | h
            · exact hC.wm (by rw [h, e])
            · omega
          have hwsx : ∀ k, WS.ownBlock = some k → k < W.heap.size := fun k hk => (hC.own.lt k hk).2
          have XP13 := (hg13.block w5.heap.size (by simp; omega) (fun e => by have := hwsx _ e.symm; omega)).trans XP12
          have hblk13 := (hg13.block Cb (by simp; omega) (fun e => hC.wc e.symm)).trans hblk12
          have hseen13 := hseen12.grown hg13 (fun e => hC.wm e.symm)
          have hbel13 := hbel12.grown hg13 (by simp; omega) (fun k hk => (hown12.lt k hk).1)
          have cC13 := cell_of_row _ _ 0 _ _ _ hblk13
          have fC13 := frozen_of_row _ _ 0 _ _ hblk13
          simp only [List.getElem?_cons_zero, List.getElem?_toArray] at cC13
          have FIN : Hid (AlikeDoes w Cb M WS ws S x y W (.returned (.bool true)) (W13.setCell ⟨Cb, 0, none⟩ (.slice (some ⟨g, 0, none⟩) (ws.length + 1) cp))) := by
            have hgS : W13.grownBy (W13.setCell ⟨Cb, 0, none⟩ (.slice (some ⟨g, 0, none⟩) (ws.length + 1) cp)) (some Cb) := ⟨rfl, rfl, rfl, by simp, fun k hk hne => heap_setCell_other _ _ _ _ (fun e => hne (congrArg some (by first | exact e | exact e.symm)))⟩
            refine ⟨true, .slice (some ⟨g, 0, none⟩) (ws.length + 1) cp, ws ++ [(B, C)], S ++ [(B, C)], rfl, ⟨heap_setCell_same _ _ 0 _ _ _ hblk13, ?_, hseen13.grown hgS (fun e => by injection e with e; exact hC.hne e.symm), hbel13.grown hgS hbel13.size (fun k hk => by injection hk with hk; subst hk; exact hC.hC), hC.hC, hC.hM, hC.hne, (fun e => by injection e with e; exact hgC e), (fun e => by injection e with e; exact hgM e)⟩, ⟨(fun e => by cases e), fun _ => Or.inr ⟨(B, C), hnS, rfl, rfl, HPAR.out, hsx.out⟩⟩, ⟨by simp; omega, fun k hk h1 h2 h3 => ?_, ?_⟩⟩
            · have := own_grown hown13 hgS (fun k hk e => by injection hk with hk; have e2 : some g = some k := e; injection e2 with e2; exact hgC (e2.trans hk.symm))
              rw [List.length_append, pcells_snoc]
              exact this
            · rw [hgS.block k (by omega) (fun e => h1 (by injection e)), hg13.block k (by simp; omega) (fun e => h3 e.symm), hA12.block k (by omega), hd10.block k (by omega), hg10.block k (by omega) (fun e => h2 (by injection e)), hWd.block k hk]
            · rcases hat13 with h | h
              · exact Or.inl (by rw [h]; rfl)
              · exact Or.inr ⟨g, by omega, rfl⟩
          clear hown10 hown11 hown12 hown13 hseen10 hseen11 hseen12 hseen13 hbel10 hbel11 hbel12 hbel13 hg10 hg13 hblk10 hblk11 hblk12 hblk13 XN XP10 XP11 HPAR HPP hsx ga gb sa sb hS hC hC9 hWd hwd hd10 hA12 hat13 hsz13
          refine wpAnyH_take (i := 0) (v := ?_) rfl (by kernel_rfl) (by kernel_rfl) (by kernel_rfl) (fun _ _ _ h => h) (Or.inl ⟨by rfl, ?_⟩) hSS ?_
          rotate_left
          · intro wz hSz
            go_simp
            try with_reducible rfl
          simp only [List.getElem_toArray, List.getElem_cons_zero, Act.put, List.setIfInBounds_toArray, List.set_cons_zero, List.set_cons_succ]
          refine wpAnyH_take (i := 1) (v := ?_) rfl (by kernel_rfl) (by kernel_rfl) (by kernel_rfl) (fun _ _ _ h => h) (Or.inl ⟨by rfl, ?_⟩) hSS ?_
          rotate_left
          · intro wz hSz
            go_simp
            try with_reducible rfl
          simp only [List.getElem_toArray, List.getElem_cons_zero, List.getElem_cons_succ, Act.put, List.setIfInBounds_toArray, List.set_cons_zero, List.set_cons_succ]
          refine wpAnyH_take (i := 2) (v := ?_) rfl (by kernel_rfl) (by kernel_rfl) (by kernel_rfl) (fun _ _ _ h => h) (Or.inl ⟨by rfl, ?_⟩) hSS ?_
          rotate_left
          · intro wz hSz
            go_simp
            try with_reducible rfl
          simp only [List.getElem_toArray, List.getElem_cons_zero, List.getElem_cons_succ, Act.put, List.setIfInBounds_toArray, List.set_cons_zero, List.set_cons_succ]
          refine wpAnyH_take (i := 3) (v := ?_) rfl (by kernel_rfl) (by kernel_rfl) (by kernel_rfl) (fun _ _ _ h => h) (Or.inl ⟨by rfl, ?_⟩) hSS ?_
          rotate_left
          · intro wz hSz
            go_simp
            try with_reducible rfl
          simp only [List.getElem_toArray, List.getElem_cons_zero, List.getElem_cons_succ, Act.put, List.setIfInBounds_toArray, List.set_cons_zero, List.set_cons_succ]
          refine wpAnyH_take (i := 5) (v := ?_) rfl (by kernel_rfl) (by kernel_rfl) (by kernel_rfl) (fun _ _ _ h => h) (Or.inl ⟨by rfl, ?_⟩) hSS ?_
          rotate_left
          · intro wz hSz
            obtain ⟨p0, p1⟩ := hSz
            go_simp
            try with_reducible rfl
          simp only [List.getElem_toArray, List.getElem_cons_zero, List.getElem_cons_succ, Act.put, List.setIfInBounds_toArray, List.set_cons_zero, List.set_cons_succ]
          have hne5 : Cb ≠ w5.heap.size := by omega
          refine wpAnyH_ready (rs := [4, 6]) (by kernel_rfl) (by simp) (AllReadyH.cons rfl (fun K1 hK1 => ?_) (AllReadyH.cons rfl (fun K1 hK1 => ?_) AllReadyH.nil))
          · refine step_want (by rfl) ?_
            simp only [List.getElem_toArray, List.getElem_cons_zero, List.getElem_cons_succ]
            have hcc := cC0
            go_simp
            clear hcc
            refine hK1.out _ _ hSS (fun hSS => ?_)
            refine wpAnyH_ready (rs := [6]) (by kernel_rfl) (by simp) (AllReadyH.cons rfl (fun K2 hK2 => ?_) AllReadyH.nil)
            refine step_want (by rfl) ?_
            simp only [List.getElem_toArray, List.getElem_cons_zero, List.getElem_cons_succ]
            go_simp
            refine hK2.out _ _ ⟨cell_of_row _ _ 0 _ _ _ XP12, cell_of_row _ _ 1 _ _ _ XP12⟩ (fun hSS => ?_)
            refine wpAnyH_ready (rs := [7]) (by kernel_rfl) (by simp) (AllReadyH.cons rfl (fun K3 hK3 => ?_) AllReadyH.nil)
            refine step_append_any (by rfl) _ _ _ (by rfl) _ _ (by rfl) (by rfl) hr13 ?_
            refine hK3.out _ _ ⟨cell_of_row _ _ 0 _ _ _ XP13, cell_of_row _ _ 1 _ _ _ XP13⟩ (fun hSS => ?_)
            refine wpAnyH_take (i := 8) (v := ?_) rfl (by kernel_rfl) (by kernel_rfl) (by kernel_rfl) (fun _ _ _ h => h) (Or.inl ⟨by rfl, ?_⟩) hSS ?_
            rotate_left
            · intro wz hSz
              go_simp
              try with_reducible rfl
            simp only [List.getElem_toArray, List.getElem_cons_zero, List.getElem_cons_succ, Act.put, List.setIfInBounds_toArray, List.set_cons_zero, List.set_cons_succ]
            refine wpAnyH_take (i := 9) (v := ?_) rfl (by kernel_rfl) (by kernel_rfl) (by kernel_rfl) (fun _ _ _ h => h) (Or.inl ⟨by rfl, ?_⟩) hSS ?_
            rotate_left
            · intro wz hSz
              go_simp
              try with_reducible rfl
            simp only [List.getElem_toArray, List.getElem_cons_zero, List.getElem_cons_succ, Act.put, List.setIfInBounds_toArray, List.set_cons_zero, List.set_cons_succ]
            refine wpAnyH_ready (rs := [10]) (by kernel_rfl) (by simp) (AllReadyH.cons rfl (fun K4 hK4 => ?_) AllReadyH.nil)
            refine step_want (by rfl) ?_
            simp only [List.getElem_toArray, List.getElem_cons_zero, List.getElem_cons_succ]
            go_simp
            refine hK4.out _ _ ?_ (fun hSS => ?_)
            · exact ⟨(cell_setCell_far hne5 _ _).trans (cell_of_row _ _ 0 _ _ _ XP13), (cell_setCell_far hne5 _ _).trans (cell_of_row _ _ 1 _ _ _ XP13)⟩
            refine wpAnyH_done (by kernel_rfl) ?_ _
            go_wp2_with fail
            go_ret
            exact FIN.out
          · refine step_want (by rfl) ?_
            simp only [List.getElem_toArray, List.getElem_cons_zero, List.getElem_cons_succ]
            go_simp
            refine hK1.out _ _ ⟨cell_of_row _ _ 0 _ _ _ XP12, cell_of_row _ _ 1 _ _ _ XP12⟩ (fun hSS => ?_)
            refine wpAnyH_ready (rs := [4]) (by kernel_rfl) (by simp) (AllReadyH.cons rfl (fun K2 hK2 => ?_) AllReadyH.nil)
            refine step_want (by rfl) ?_
            simp only [List.getElem_toArray, List.getElem_cons_zero, List.getElem_cons_succ]
            have hcc := cC12
            go_simp
            clear hcc
            refine hK2.out _ _ hSS (fun hSS => ?_)
            refine wpAnyH_ready (rs := [7]) (by kernel_rfl) (by simp) (AllReadyH.cons rfl (fun K3 hK3 => ?_) AllReadyH.nil)
            refine step_append_any (by rfl) _ _ _ (by rfl) _ _ (by rfl) (by rfl) hr13 ?_
            refine hK3.out _ _ ⟨cell_of_row _ _ 0 _ _ _ XP13, cell_of_row _ _ 1 _ _ _ XP13⟩ (fun hSS => ?_)
            refine wpAnyH_take (i := 8) (v := ?_) rfl (by kernel_rfl) (by kernel_rfl) (by kernel_rfl) (fun _ _ _ h => h) (Or.inl ⟨by rfl, ?_⟩) hSS ?_
            rotate_left
            · intro wz hSz
              go_simp
              try with_reducible rfl
            simp only [List.getElem_toArray, List.getElem_cons_zero, List.getElem_cons_succ, Act.put, List.setIfInBounds_toArray, List.set_cons_zero, List.set_cons_succ]
            refine wpAnyH_take (i := 9) (v := ?_) rfl (by kernel_rfl) (by kernel_rfl) (by kernel_rfl) (fun _ _ _ h => h) (Or.inl ⟨by rfl, ?_⟩) hSS ?_
            rotate_left
            · intro wz hSz
              go_simp
              try with_reducible rfl
            simp only [List.getElem_toArray, List.getElem_cons_zero, List.getElem_cons_succ, Act.put, List.setIfInBounds_toArray, List.set_cons_zero, List.set_cons_succ]
            refine wpAnyH_ready (rs := [10]) (by kernel_rfl) (by simp) (AllReadyH.cons rfl (fun K4 hK4 => ?_) AllReadyH.nil)
            refine step_want (by rfl) ?_
            simp only [List.getElem_toArray, List.getElem_cons_zero, List.getElem_cons_succ]
            go_simp
            refine hK4.out _ _ ?_ (fun hSS => ?_)
            · exact ⟨(cell_setCell_far hne5 _ _).trans (cell_of_row _ _ 0 _ _ _ XP13), (cell_setCell_far hne5 _ _).trans (cell_of_row _ _ 1 _ _ _ XP13)⟩
            refine wpAnyH_done (by kernel_rfl) ?_ _
            go_wp2_with fail
            go_ret
            exact FIN.out
      · have hne : x ≠ y := fun e => hlen (by rw [e])
        refine wpAnyH_take (i := 9) (v := (.bool false)) rfl (by kernel_rfl) (by kernel_rfl) (by kernel_rfl) (fun _ _ _ h => h) (Or.inl ⟨by rfl, ?_⟩) hSS ?_
        · intro wz hSz
          go_simp
        simp only [List.getElem_toArray, List.getElem_cons_zero, List.getElem_cons_succ, Act.put, List.setIfInBounds_toArray, List.set_cons_zero, List.set_cons_succ]
        refine wpAnyH_take (i := 10) (v := ?_) rfl (by kernel_rfl) (by kernel_rfl) (by kernel_rfl) (fun _ _ _ h => h) (Or.inl ⟨by rfl, ?_⟩) hSS ?_
        rotate_left
        · intro wz hSz
          go_simp
          try with_reducible rfl
        simp only [List.getElem_toArray, List.getElem_cons_zero, List.getElem_cons_succ, Act.put, List.setIfInBounds_toArray, List.set_cons_zero, List.set_cons_succ]
        refine wpAnyH_take (i := 11) (v := ?_) rfl (by kernel_rfl) (by kernel_rfl) (by kernel_rfl) (fun _ _ _ h => h) (Or.inl ⟨by rfl, ?_⟩) hSS ?_
        rotate_left
        · intro wz hSz
          go_simp
          try with_reducible rfl
        simp only [List.getElem_toArray, List.getElem_cons_zero, List.getElem_cons_succ, Act.put, List.setIfInBounds_toArray, List.set_cons_zero, List.set_cons_succ]
        refine wpAnyH_take (i := 12) (v := ?_) rfl (by kernel_rfl) (by kernel_rfl) (by kernel_rfl) (fun _ _ _ h => h) (Or.inl ⟨by rfl, ?_⟩) hSS ?_
        rotate_left
        · intro wz hSz
          go_simp
          try with_reducible rfl
        simp only [List.getElem_toArray, List.getElem_cons_zero, List.getElem_cons_succ, Act.put, List.setIfInBounds_toArray, List.set_cons_zero, List.set_cons_succ]
        refine wpAnyH_take (i := 13) (v := ?_) rfl (by kernel_rfl) (by kernel_rfl) (by kernel_rfl) (fun _ _ _ h => h) (Or.inl ⟨by rfl, ?_⟩) hSS ?_
        rotate_left
        · intro wz hSz
          obtain ⟨⟨p0, p1, p2, p3, p4⟩, p5, p6, p7, p8, p9⟩ := HM.out _ hSz
          go_simp
          try with_reducible rfl
        simp only [List.getElem_toArray, List.getElem_cons_zero, List.getElem_cons_succ, Act.put, List.setIfInBounds_toArray, List.set_cons_zero, List.set_cons_succ]
        refine wpAnyH_take (i := 14) (v := ?_) rfl (by kernel_rfl) (by kernel_rfl) (by kernel_rfl) (fun _ _ _ h => h) (Or.inl ⟨by rfl, ?_⟩) hSS ?_
        rotate_left
        · intro wz hSz
          go_simp
          try with_reducible rfl
        simp only [List.getElem_toArray, List.getElem_cons_zero, List.getElem_cons_succ, Act.put, List.setIfInBounds_toArray, List.set_cons_zero, List.set_cons_succ]
        refine wpAnyH_take (i := 15) (v := ?_) rfl (by kernel_rfl) (by kernel_rfl) (by kernel_rfl) (fun _ _ _ h => h) (Or.inl ⟨by rfl, ?_⟩) hSS ?_
        rotate_left
        · intro wz hSz
          go_simp
          try with_reducible rfl
        simp only [List.getElem_toArray, List.getElem_cons_zero, List.getElem_cons_succ, Act.put, List.setIfInBounds_toArray, List.set_cons_zero, List.set_cons_succ]
        refine wpAnyH_take (i := 16) (v := ?_) rfl (by kernel_rfl) (by kernel_rfl) (by kernel_rfl) (fun _ _ _ h => h) (Or.inl ⟨by rfl, ?_⟩) hSS ?_
        rotate_left
        · intro wz hSz
          go_simp
          try with_reducible rfl
        simp only [List.getElem_toArray, List.getElem_cons_zero, List.getElem_cons_succ, Act.put, List.setIfInBounds_toArray, List.set_cons_zero, List.set_cons_succ]
        refine wpAnyH_take (i := 17) (v := ?_) rfl (by kernel_rfl) (by kernel_rfl) (by kernel_rfl) (fun _ _ _ h => h) (Or.inl ⟨by rfl, ?_⟩) hSS ?_
        rotate_left
        · intro wz hSz
          go_simp
          try with_reducible rfl
        simp only [List.getElem_toArray, List.getElem_cons_zero, List.getElem_cons_succ, Act.put, List.setIfInBounds_toArray, List.set_cons_zero, List.set_cons_succ]
        refine wpAnyH_take (i := 18) (v := ?_) rfl (by kernel_rfl) (by kernel_rfl) (by kernel_rfl) (fun _ _ _ h => h) (Or.inl ⟨by rfl, ?_⟩) hSS ?_
        rotate_left
        · intro wz hSz
          obtain ⟨⟨p0, p1, p2, p3, p4⟩, p5, p6, p7, p8, p9⟩ := HM.out _ hSz
          go_simp
          try with_reducible rfl
        simp only [List.getElem_toArray, List.getElem_cons_zero, List.getElem_cons_succ, Act.put, List.setIfInBounds_toArray, List.set_cons_zero, List.set_cons_succ]
        refine wpAnyH_take (i := 19) (v := ?_) rfl (by kernel_rfl) (by kernel_rfl) (by kernel_rfl) (fun _ _ _ h => h) (Or.inl ⟨by rfl, ?_⟩) hSS ?_
        rotate_left
        · intro wz hSz
          go_simp
          try with_reducible rfl
        simp only [List.getElem_toArray, List.getElem_cons_zero, List.getElem_cons_succ, Act.put, List.setIfInBounds_toArray, List.set_cons_zero, List.set_cons_succ]
        refine wpAnyH_take (i := 20) (v := (.bool true)) rfl (by kernel_rfl) (by kernel_rfl) (by kernel_rfl) (fun _ _ _ h => h) (Or.inl ⟨by rfl, ?_⟩) hSS ?_
        · intro wz hSz
          have hl3 : ¬ ((x.l.length : Nat) : Int) = ((y.l.length : Nat) : Int) := by omega
          go_simp
        simp only [List.getElem_toArray, List.getElem_cons_zero, List.getElem_cons_succ, Act.put, List.setIfInBounds_toArray, List.set_cons_zero, List.set_cons_succ]
        refine wpAnyH_take (i := 21) (v := (.bool true)) rfl (by kernel_rfl) (by kernel_rfl) (by kernel_rfl) (fun _ _ _ h => h) (Or.inl ⟨by rfl, ?_⟩) hSS ?_
        · intro wz hSz
          go_simp
        simp only [List.getElem_toArray, List.getElem_cons_zero, List.getElem_cons_succ, Act.put, List.setIfInBounds_toArray, List.set_cons_zero, List.set_cons_succ]
        refine wpAnyH_take (i := 22) (v := (.bool true)) rfl (by kernel_rfl) (by kernel_rfl) (by kernel_rfl) (fun _ _ _ h => h) (Or.inl ⟨by rfl, ?_⟩) hSS ?_
        · intro wz hSz
          go_simp
        simp only [List.getElem_toArray, List.getElem_cons_zero, List.getElem_cons_succ, Act.put, List.setIfInBounds_toArray, List.set_cons_zero, List.set_cons_succ]
        refine wpAnyH_take (i := 23) (v := undef) rfl (by kernel_rfl) (by kernel_rfl) (by kernel_rfl) (fun _ _ _ h => h) (Or.inr ⟨by rfl, rfl⟩) hSS ?_
        simp only [List.getElem_toArray, List.getElem_cons_zero, List.getElem_cons_succ, Act.put, List.setIfInBounds_toArray, List.set_cons_zero, List.set_cons_succ]
        refine wpAnyH_take (i := 24) (v := undef) rfl (by kernel_rfl) (by kernel_rfl) (by kernel_rfl) (fun _ _ _ h => h) (Or.inr ⟨by rfl, rfl⟩) hSS ?_
        simp only [List.getElem_toArray, List.getElem_cons_zero, List.getElem_cons_succ, Act.put, List.setIfInBounds_toArray, List.set_cons_zero, List.set_cons_succ]
        refine wpAnyH_take (i := 25) (v := undef) rfl (by kernel_rfl) (by kernel_rfl) (by kernel_rfl) (fun _ _ _ h => h) (Or.inr ⟨by rfl, rfl⟩) hSS ?_
        simp only [List.getElem_toArray, List.getElem_cons_zero, List.getElem_cons_succ, Act.put, List.setIfInBounds_toArray, List.set_cons_zero, List.set_cons_succ]
        refine wpAnyH_take (i := 26) (v := undef) rfl (by kernel_rfl) (by kernel_rfl) (by kernel_rfl) (fun _ _ _ h => h) (Or.inr ⟨by rfl, rfl⟩) hSS ?_
        simp only [List.getElem_toArray, List.getElem_cons_zero, List.getElem_cons_succ, Act.put, List.setIfInBounds_toArray, List.set_cons_zero, List.set_cons_succ]
        refine wpAnyH_take (i := 27) (v := (.bool true)) rfl (by kernel_rfl) (by kernel_rfl) (by kernel_rfl) (fun _ _ _ h => h) (Or.inl ⟨by rfl, ?_⟩) hSS ?_
        · intro wz hSz
          go_simp
        simp only [List.getElem_toArray, List.getElem_cons_zero, List.getElem_cons_succ, Act.put, List.setIfInBounds_toArray, List.set_cons_zero, List.set_cons_succ]
        refine wpAnyH_done (by kernel_rfl) ?_ _
        go_wp2_with fail
        go_ret
        exact AlikeDoes.plain hC (hBW7.trans (hSS.mono hBW7.size)) ⟨fun _ => hne, fun e => by cases e⟩
  · have hin : (B, C) ∈ S := of_decide_eq_true HRS.out.symm
    clear HL HRS
    go_wp2_with fail
    go_ret
    exact AlikeDoes.plain hC hBW7 ⟨(fun e => by cases e), fun _ => Or.inl ⟨rfl, rfl, Or.inr ⟨(B, C), hin, HPAR.out⟩⟩⟩
end Go.Proofs.YtepohbcpepkboaaGreat

