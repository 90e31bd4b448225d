/- What Split answers. Conditions: the slice shows bytes, fewer than 2^45. -/
import Derived.Test.YtkcnpdcgonengaaFrC
import Derived.Test.YtkcnpdcgonengaaTurn
namespace Go.Proofs.Ytkcnpdcgonengaa
open Go.RowKit Go.Shelf

attribute [local go_sem] Oper.semAt_some

/-- What Split's loop holds between two rounds. -/
structure SpI (w : World) (B : Nat) (pre : List Piece) (W : World) : Prop where
  r0 : Boxed W B 32 (.slice none 0 0)
  r1 : Boxed W (B + 1) 3 (.int .i64 0)
  r2 : Boxed W (B + 1 + 1) 39 (.int .i64 0)
  l : ∃ v ps, Boxed W (B + 1 + 1 + 1) 32 v ∧ BTag W (B + 6) v ps ∧ ps.map (·.1) = pre.map (·.b)
  e0 : ∀ x ∈ pre, x.e = 0
  bl : Below B w W
  sz : B + 6 ≤ W.heap.size
set_option maxRecDepth 100000 in
theorem SpI.turn {w W W' : World} {B : Nat} {pre : List Piece} {row : Option Nat} (h : SpI w B pre W) (hg : W.grownBy W' row) (hr : ∀ r, row = some r → B + 6 ≤ r ∧ ∃ o : Obj, W.heap[r]? = some o ∧ o.isCells = false) : SpI w B pre W' := by
  have hr' := fun r e => (hr r e).2
  obtain ⟨v, ps, h1, h2, h3⟩ := h.l
  exact ⟨boxed_turn h.r0 hg hr', boxed_turn h.r1 hg hr', boxed_turn h.r2 hg hr', ⟨v, ps, boxed_turn h1 hg hr', h2.turned hg hr', h3⟩, h.e0, below_turn h.bl hg (by have := h.sz; omega) hr (by omega), Nat.le_trans h.sz hg.size⟩
/-- .. and behind a round that has left it. -/
structure SpX (w : World) (B : Nat) (pre : List Piece) (W : World) : Prop where
  x : ∃ ini last, pre = ini ++ [last] ∧ (∀ x ∈ ini, x.e = 0) ∧ last.e ≠ 0 ∧ Boxed W (B + 1) 3 (.int .i64 last.k) ∧ Boxed W (B + 1 + 1) 39 (.int .i64 last.e)
  r0 : Boxed W B 32 (.slice none 0 0)
  bl : Below B w W
  sz : B + 6 ≤ W.heap.size
set_option maxRecDepth 100000 in
theorem SpX.turn {w W W' : World} {B : Nat} {pre : List Piece} {row : Option Nat} (h : SpX w B pre W) (hg : W.grownBy W' row) (hr : ∀ r, row = some r → B + 6 ≤ r ∧ ∃ o : Obj, W.heap[r]? = some o ∧ o.isCells = false) : SpX w B pre W' := by
  have hr' := fun r e => (hr r e).2
  obtain ⟨ini, last, h1, h2, h3, h4, h5⟩ := h.x
  exact ⟨⟨ini, last, h1, h2, h3, boxed_turn h4 hg hr', boxed_turn h5 hg hr'⟩, boxed_turn h.r0 hg hr', below_turn h.bl hg (by have := h.sz; omega) hr (by omega), Nat.le_trans h.sz hg.size⟩


set_option maxRecDepth 100000 in
theorem ext_mayL (n : Nat) (L : Int) (w : World) : CallsIn Fence.wide n Try.prog 67 #[.int .i64 L] w fun e w' => e = .returned (.bool (mayL L)) ∧ w = w' := callsIn_wide.2 (mayL_any L w)

/-- What Split answers: all frames, and how many; or where the first one begins that is none. -/
def SplitPost (L : Int) (zs : List Int) (w : World) (e : Ending) (w' : World) : Prop :=
  ((cut L zs).2.2 = 0 ∧ ∃ va vc, e = .returned (.tuple #[.slice va (cut L zs).1.length vc, .int .i64 ((cut L zs).1.length : Nat), .int .i64 0]) ∧ BRow w' va (cut L zs).1 ∧ Below w.heap.size w w') ∨
  ((cut L zs).2.2 ≠ 0 ∧ e = .returned (.tuple #[.slice none 0 0, .int .i64 ((cut L zs).2.1 : Nat), .int .i64 (cut L zs).2.2]) ∧ Below w.heap.size w w')

set_option maxHeartbeats 3200000 in
set_option maxRecDepth 100000 in
theorem split_yes (a : Option Addr) (zs : List Int) (cap : Nat) (L : Int) (w : World) (hr : Row w a zs) (hnil : a = none → zs.length = 0 ∧ cap = 0) (hlc : zs.length ≤ cap) (hlen : zs.length ≤ 1000000) (hL0 : 0 ≤ L) (hL1 : L ≤ 4096) :
    Calls Try.prog 28 #[.slice a zs.length cap, .int .i64 L] w (SplitPost L zs w) := by
  have hml : mayL L = true := by simp [mayL, hL0, hL1]
  obtain ⟨i0, hi0, hz0, hz1, hz2⟩ := info_parts infoB
  have CM : Hid (∀ W, CallsIn Fence.wide 2 Try.prog 67 #[.int .i64 L] W fun e w' => e = .returned (.bool true) ∧ W = w') := fun W => by have := ext_mayL 2 L W; rw [hml] at this; exact this
  clear hml
  refine (callsIn_wide (n := 3)).1 ?_
  refine callsIn_of_wp_marks Try.func28 rfl trivial ?_ rfl
  simp only [Try.ntmps28, List.size_toArray, List.length_cons, List.length_nil, Nat.reduceAdd, Nat.reduceSub, Array.replicate_succ, Array.replicate_zero, List.push_toArray, List.append_toArray, List.nil_append, List.cons_append]
  gi_wp2_with fail
  refine ⟨trivial, (CM.out _).mono ?_⟩
  rintro e w1 ⟨rfl, rfl⟩
  gi_wp2_with fail
  refine ⟨trivial, (callsIn_wide.2 (pieces_any a zs.length cap L _)).mono ?_⟩
  rintro e w1 ⟨rfl, rfl⟩
  gi_wp2_with fail
  obtain ⟨W0, hW0⟩ : ∃ W0, (((((w.alloc (.cells #[.slice none 0 0] 32)).alloc (.cells #[.int .i64 0] 3)).alloc (.cells #[.int .i64 0] 39)).alloc (.cells #[.slice none 0 0] 32)).alloc (.cells #[.slice a zs.length cap] 29)).alloc (.cells #[.int .i64 L] 3) = W0 := ⟨_, rfl⟩
  rw [hW0]
  have hsz : W0.heap.size = w.heap.size + 6 := by rw [← hW0]; simp
  have hB0 : Below w.heap.size w W0 := by rw [← hW0]; exact ((((((Below.refl _ w).alloc (Nat.le_refl _) _).alloc (by simp) _).alloc (by simp; omega) _).alloc (by simp; omega) _).alloc (by simp; omega) _).alloc (by simp; omega) _
  have hS0 : SpI w w.heap.size [] W0 := by
    refine ⟨?_, ?_, ?_, ⟨.slice none 0 0, [], ?_, BTag.nil _ _, rfl⟩, by simp, hB0, by omega⟩
    · rw [← hW0]; exact (((((Boxed.new w _ _).alloc _).alloc _).alloc _).alloc _).alloc _
    · have := ((((Boxed.new (w.alloc (.cells #[.slice none 0 0] 32)) 3 (.int .i64 0)).alloc (.cells #[.int .i64 0] 39)).alloc (.cells #[.slice none 0 0] 32)).alloc (.cells #[.slice a zs.length cap] 29)).alloc (.cells #[.int .i64 L] 3)
      rw [World.size_alloc, hW0] at this; exact this
    · have := (((Boxed.new ((w.alloc (.cells #[.slice none 0 0] 32)).alloc (.cells #[.int .i64 0] 3)) 39 (.int .i64 0)).alloc (.cells #[.slice none 0 0] 32)).alloc (.cells #[.slice a zs.length cap] 29)).alloc (.cells #[.int .i64 L] 3)
      rw [World.size_alloc, World.size_alloc, hW0] at this; exact this
    · have := ((Boxed.new (((w.alloc (.cells #[.slice none 0 0] 32)).alloc (.cells #[.int .i64 0] 3)).alloc (.cells #[.int .i64 0] 39)) 32 (.slice none 0 0)).alloc (.cells #[.slice a zs.length cap] 29)).alloc (.cells #[.int .i64 L] 3)
      rw [World.size_alloc, World.size_alloc, World.size_alloc, hW0] at this; exact this
  have c4 : W0.cell? ⟨w.heap.size + 1 + 1 + 1 + 1, 0, none⟩ = some (.slice a zs.length cap) := by
    have := (Boxed.new ((((w.alloc (.cells #[.slice none 0 0] 32)).alloc (.cells #[.int .i64 0] 3)).alloc (.cells #[.int .i64 0] 39)).alloc (.cells #[.slice none 0 0] 32)) 29 (.slice a zs.length cap)).alloc (.cells #[.int .i64 L] 3)
    rw [World.size_alloc, World.size_alloc, World.size_alloc, World.size_alloc, hW0] at this; exact this.cell
  have c5 : W0.cell? ⟨w.heap.size + 1 + 1 + 1 + 1 + 1, 0, none⟩ = some (.int .i64 L) := by
    have := Boxed.new (((((w.alloc (.cells #[.slice none 0 0] 32)).alloc (.cells #[.int .i64 0] 3)).alloc (.cells #[.int .i64 0] 39)).alloc (.cells #[.slice none 0 0] 32)).alloc (.cells #[.slice a zs.length cap] 29)) 3 (.int .i64 L)
    rw [World.size_alloc, World.size_alloc, World.size_alloc, World.size_alloc, World.size_alloc, hW0] at this; exact this.cell
  clear hW0
  have hrow0 := hr.below hB0
  have hE : zs ≠ [] → ∀ x, a = some x → x.block < w.heap.size + 6 ∧ ¬ (w.heap.size ≤ x.block ∧ x.block < w.heap.size + 4) := fun hz x hx => by
    obtain ⟨b, off, rfl, -⟩ := hr.at hz
    obtain rfl := Option.some.inj hx
    have := Row.lt hr hz
    exact ⟨by simp only; omega, by simp only; omega⟩
  have hseq := pieces1_told 2 (w.heap.size + 6) (fun k => w.heap.size ≤ k ∧ k < w.heap.size + 4) a zs cap L (w.heap.size + 1 + 1 + 1 + 1) (w.heap.size + 1 + 1 + 1 + 1 + 1) W0 (by omega) hrow0 hnil hlc (by omega) hL0 hL1 hE c4 c5 ⟨by omega, by omega⟩ ⟨by omega, by omega⟩
  refine wpIn_rangeFunc_told (F := Fence.wide) rfl (by omega) (gf := 112) (lb := #[.pointer (some ⟨w.heap.size + 1 + 1 + 1 + 1, 0, none⟩), .pointer (some ⟨w.heap.size + 1 + 1 + 1 + 1 + 1, 0, none⟩)]) rfl trivial (enters_of Try.func112 (by kernel_rfl) rfl) hseq KpE.trans (fun W l o hl _ => KpE.put W l o (by omega)) (fun _ => rfl)
    (fun pre W => SpI w w.heap.size pre W) (fun c pre W => c = .ret ∧ SpX w w.heap.size pre W) (fun s A B row hs hg hr => hs.turn hg (fun r e => ⟨by have := (hr r e).1; omega, (hr r e).2⟩)) (fun c s A B row hs hg hr => ⟨hs.1, hs.2.turn hg (fun r e => ⟨by have := (hr r e).1; omega, (hr r e).2⟩)⟩) hS0
    (fun x a' W => ∃ Bx, w.heap.size + 6 ≤ Bx ∧ W.heap[Bx]? = some (.cells #[.int .i64 x.k, .slice x.a x.b.length x.c] 116 (0, 0)) ∧ x.told (w.heap.size + 6) W ∧ a' = { tmps := #[.slice a zs.length cap, .int .i64 L, undef, undef, .pointer (some ⟨w.heap.size, 0, none⟩), .pointer (some ⟨w.heap.size + 1, 0, none⟩), .pointer (some ⟨w.heap.size + 1 + 1, 0, none⟩), .pointer (some ⟨w.heap.size + 1 + 1 + 1, 0, none⟩), .pointer (some ⟨Bx, 0, none⟩), .int .i64 x.e, .int .i64 L, .bool true, .bool false, .slice a zs.length cap, .int .i64 L, .func (.func 112) #[] #[.pointer (some ⟨w.heap.size + 1 + 1 + 1 + 1, 0, none⟩), .pointer (some ⟨w.heap.size + 1 + 1 + 1 + 1 + 1, 0, none⟩)], .agg #[.int .i64 x.k, .slice x.a x.b.length x.c], .int .i64 x.e, undef, undef, undef, undef, undef, undef, undef, undef, undef, undef, undef, undef, undef], defers := [] }) ?ax ?assign ?body ?done ?stop
  case ax =>
    intro x a' _ A B row hs hg hr
    obtain ⟨Bx, h1, h2, h3, h4⟩ := hs
    have hr' := fun r e => (hr r e).2
    exact ⟨Bx, h1, cells_turn h2 hg hr', told_turn h3 hg hr', h4⟩
  case assign =>
    intro l pre x W K hi hG hK
    simp only [Piece.enc]
    gi_wp2
    have hb : Below W.heap.size W (W.alloc (.cells #[.int .i64 x.k, .slice x.a x.b.length x.c] 116)) := (Below.refl _ _).alloc (Nat.le_refl _) _
    refine hK _ _ ((KeepsOthers.alloc _ _).from _) (KpE.below hb hi.sz) (hi.turn (World.grownBy_alloc W _ none) (fun r e => by cases e)) ⟨W.heap.size, hi.sz, World.alloc_heap_new W _, told_below hG hb, rfl⟩
  case body =>
    rintro l pre x a' W hi ⟨Bx, hBx, hbx, hG, rfl⟩ hpl
    have hx0 := cell_of_row W Bx 0 _ _ _ hbx
    have hx1 := cell_of_row W Bx 1 _ _ _ hbx
    simp only [List.getElem?_toArray, List.getElem?_cons_zero, List.getElem?_cons_succ] at hx0 hx1
    have hBl : Bx < W.heap.size := (Array.getElem?_eq_some_iff.1 hbx).1
    by_cases he : x.e = 0
    · have he' : (x.e != 0) = false := by simp [he]
      obtain ⟨v, ps, hv, hbt, hps⟩ := hi.l
      have hvc := hv.cell
      have hvf := hv.frozen
      have hpl2 : ps.length = pre.length := by have := congrArg List.length hps; simpa using this
      have hsz1 := hi.sz
      gi_wp2_with (gi_at_builtin; refine wpListIn_append_own _ rfl (.tmp 23) (.tmp 26) 32 rfl (w.heap.size + 6) 29 i0 (.slice none 0 0) 1 24 Try.underlying32 hi0 hz0 hz1 hz2 rfl (by decide) v _ _ rfl (hbt.own.alloc _) ⟨W.heap.size, 0, none⟩ 1 1 [.slice x.a x.b.length x.c] rfl rfl (cell_one_new _ _ _) (by simp [Value.oneCell']) (by unfold maxLen; omega) (by omega) (by simp; omega) ?_; intro v' w1 hown' hgrow _; obtain ⟨g', cap', rfl⟩ := ownsRow_succ hown'; have hv1 : Boxed w1 (w.heap.size + 1 + 1 + 1) 32 v := (hv.alloc _).kept hgrow (hv.not_row (by decide) hbt.own); have hc1 := hv1.cell; have hf1 := hv1.frozen)
      have hba : Below W.heap.size W (W.alloc (.cells #[.slice x.a x.b.length x.c] 29)) := (Below.refl _ _).alloc (Nat.le_refl _) _
      have hGa := told_below hG hba
      have hbt1 := (hbt.below hba).append (p := (x.b, x.a, x.c)) hown' hgrow hGa.1 hGa.2.2
      have hbt2 := hbt1.set hv1 (by decide) (by decide) (.slice (some ⟨g', 0, none⟩) (ps.length + 1) cap')
      have hapd := hv.appended (tmp := .cells #[.slice x.a x.b.length x.c] 29) (by decide) (own_mono hbt.own (Nat.le_add_right w.heap.size 6)) (by omega) (by omega) (own_mono hown' (Nat.le_add_right w.heap.size 6)) hgrow
      have bx : ∀ (b : Nat) (t : TypeId) (u : Value), Boxed W b t u → t ≠ 29 → b ≠ w.heap.size + 1 + 1 + 1 → Boxed (w1.setCell ⟨w.heap.size + 1 + 1 + 1, 0, none⟩ (.slice (some ⟨g', 0, none⟩) (ps.length + 1) cap')) b t u := fun b t u hb ht hne =>
        ((hb.alloc _).kept hgrow (hb.not_row ht hbt.own)).kept (grownBy_setCell' _ _ _) (fun e => hne (by simpa using e))
      have hKp : KpE (w.heap.size + 6) (fun k => w.heap.size ≤ k ∧ k < w.heap.size + 4) W (w1.setCell ⟨w.heap.size + 1 + 1 + 1, 0, none⟩ (.slice (some ⟨g', 0, none⟩) (ps.length + 1) cap')) :=
        ((KpE.below hba hsz1).trans (KpE.grown hgrow (fun k hk => Or.inl (hbt.own.lt k hk).1) (by simp; omega))).trans (KpE.set _ _ _ (Or.inr ⟨by simp only; omega, by simp only; omega⟩))
      refine ⟨?_, ?_, ?_⟩
      · rw [← hpl2]; exact hapd.2.2.2.1.from _
      · rw [← hpl2]; exact hKp
      · rw [← hpl2]
        refine ⟨bx _ _ _ hi.r0 (by decide) (by omega), bx _ _ _ hi.r1 (by decide) (by omega), bx _ _ _ hi.r2 (by decide) (by omega), ⟨_, _, hv1.set _, hbt2, by rw [List.map_append, List.map_append, hps]; rfl⟩, ?_, hi.bl.trans hapd.2.2.2.2, Nat.le_trans hsz1 hKp.size⟩
        intro y hy
        rcases List.mem_append.1 hy with hy | hy
        · exact hi.e0 y hy
        · simp at hy; rw [hy]; exact he
    · have he' : (x.e != 0) = true := by simpa using he
      have f0 := hi.r0.cell
      have f1 := hi.r1.cell
      have f2 := hi.r2.cell
      have g0 := hi.r0.frozen
      have g1 := hi.r1.frozen
      have g2 := hi.r2.frozen
      gi_wp2
      have hsz1 := hi.sz
      gi_region
      all_goals gi_wp2
      all_goals
        refine ⟨((((KeepsOthers.setCell _ _ _).trans (KeepsOthers.setCell _ _ _)).trans (KeepsOthers.setCell _ _ _)).trans (KeepsOthers.drew _)).from _, rfl, ⟨pre, x, rfl, hi.e0, he, ?_, ?_⟩, ?_, ?_, ?_⟩
        · exact ((hi.r1.other (by omega) _).set _).other (by omega) _
        · exact ((hi.r2.other (by omega) _).other (by omega) _).set _
        · exact ((hi.r0.set _).other (by omega) _).other (by omega) _
        · exact (((hi.bl.setCell (p := ⟨w.heap.size, 0, none⟩) (Nat.le_refl _) _).setCell (p := ⟨w.heap.size + 1, 0, none⟩) (by simp) _).setCell (p := ⟨w.heap.size + 1 + 1, 0, none⟩) (by simp only; omega) _).drew
        · simpa [World.setCell] using hsz1
  case done =>
    rintro D ys W hD hS hi hK
    have hcut : Hid ((cut L zs).2.2 = 0 ∧ (cut L zs).1 = ys.map (·.b)) := by
      have h0 : ∀ p ∈ pcs L zs, p.2.2 = 0 := by
        rw [← hS]
        intro p hp
        obtain ⟨x, hx, rfl⟩ := List.mem_map.1 hp
        exact hi.e0 x hx
      refine ⟨pcsF_all0 _ L 0 zs h0, ?_⟩
      rw [← pcs_frs]
      unfold frs
      rw [List.filter_eq_self.2 (fun p hp => by simp [h0 p hp]), ← hS, List.map_map]; rfl
    obtain ⟨v, ps, hv, hbt, hps⟩ := hi.l
    have hpl : Hid (ps.length = (cut L zs).1.length) := by show ps.length = _; rw [hcut.out.2, ← hps]; simp
    have hps' : Hid (ps.map (·.1) = (cut L zs).1) := by show List.map _ _ = _; rw [hcut.out.2, hps]
    clear hps
    have f0 := hi.r0.cell
    have f1 := hi.r1.cell
    have f2 := hi.r2.cell
    have g0 := hi.r0.frozen
    have g1 := hi.r1.frozen
    have g2 := hi.r2.frozen
    have f3 := hv.cell
    have hsz1 := hi.sz
    obtain ⟨va, vc, hva, -⟩ := hbt.view
    subst hva
    gi_wp2
    gi_region
    all_goals gi_wp2
    all_goals
      have hK' := ((((KeepsOthers.setCell W ⟨w.heap.size, 0, none⟩ (.slice va ps.length vc)).trans (KeepsOthers.setCell _ ⟨w.heap.size + 1, 0, none⟩ (.int .i64 ps.length))).trans (KeepsOthers.setCell _ ⟨w.heap.size + 1 + 1, 0, none⟩ (.int .i64 0))).trans (KeepsOthers.drew _)).same D _ hK rfl
      have b0 := ((hi.r0.set (.slice va ps.length vc)).other (show w.heap.size ≠ w.heap.size + 1 by omega) (.int .i64 ps.length)).other (show w.heap.size ≠ w.heap.size + 1 + 1 by omega) (.int .i64 0)
      have b1 := ((hi.r1.other (show w.heap.size + 1 ≠ w.heap.size by omega) (.slice va ps.length vc)).set (.int .i64 ps.length)).other (show w.heap.size + 1 ≠ w.heap.size + 1 + 1 by omega) (.int .i64 0)
      have b2 := ((hi.r2.other (show w.heap.size + 1 + 1 ≠ w.heap.size by omega) (.slice va ps.length vc)).other (show w.heap.size + 1 + 1 ≠ w.heap.size + 1 by omega) (.int .i64 ps.length)).set (.int .i64 0)
      have t0 := ((hbt.set hi.r0 (by decide) (by decide) (.slice va ps.length vc)).set (hi.r1.other (show w.heap.size + 1 ≠ w.heap.size by omega) (.slice va ps.length vc)) (by decide) (by decide) (.int .i64 ps.length)).set ((hi.r2.other (show w.heap.size + 1 + 1 ≠ w.heap.size by omega) (.slice va ps.length vc)).other (show w.heap.size + 1 + 1 ≠ w.heap.size + 1 by omega) (.int .i64 ps.length)) (by decide) (by decide) (.int .i64 0)
      have hBl := (((hi.bl.setCell (p := ⟨w.heap.size, 0, none⟩) (Nat.le_refl _) (.slice va ps.length vc)).setCell (p := ⟨w.heap.size + 1, 0, none⟩) (by simp) (.int .i64 ps.length)).setCell (p := ⟨w.heap.size + 1 + 1, 0, none⟩) (by simp only; omega) (.int .i64 0)).drew
      generalize ((((W.setCell ⟨w.heap.size, 0, none⟩ (.slice va ps.length vc)).setCell ⟨w.heap.size + 1, 0, none⟩ (.int .i64 ps.length)).setCell ⟨w.heap.size + 1 + 1, 0, none⟩ (.int .i64 0))) = V at *
      have t1 := bt_putObj (t0.below (Below.drew (Below.refl _ V))) (.deferred none) hK' rfl
      refine ⟨by simp, .inl ⟨_, _, rfl, run_takeDeferred hK', ?_⟩⟩
      have hr' : ∀ r, some D = some r → ∃ o : Obj, V.drew.heap[r]? = some o ∧ o.isCells = false := fun r e => by cases e; exact ⟨_, hK', rfl⟩
      have c0 := (boxed_turn (show Boxed V.drew _ _ _ from b0) (grownBy_putObj' _ D (.deferred none)) hr').cell
      have c1 := (boxed_turn (show Boxed V.drew _ _ _ from b1) (grownBy_putObj' _ D (.deferred none)) hr').cell
      have c2 := (boxed_turn (show Boxed V.drew _ _ _ from b2) (grownBy_putObj' _ D (.deferred none)) hr').cell
      obtain ⟨va', vc', hva', hbr⟩ := t1.view
      rw [hps'.out] at hbr
      simp only [Value.slice.injEq] at hva'
      obtain ⟨rfl, -, rfl⟩ := hva'
      refine ⟨.tuple #[.slice va ps.length vc, .int .i64 ps.length, .int .i64 0], ?_, Or.inl ⟨hcut.out.1, va, vc, by rw [hpl.out], hbr, hBl.trans (belowK_b (w := W0) (by omega) _ D _ _ hD hK' rfl rfl)⟩⟩
      simp [results, Try.f28, go_sem, c0, c1, c2]
  case stop =>
    rintro D c pre W hD hS ⟨rfl, hx⟩ hK
    obtain ⟨ini, last, rfl, hini, hle, b1, b2⟩ := hx.x
    have hcut : Hid ((cut L zs).2.2 = last.e ∧ last.k = (cut L zs).2.1) := by
      rw [List.map_append] at hS
      have := pcsF_stop _ L 0 zs _ last.strip hS hle
      exact ⟨this.1, by have := this.2; rw [Nat.zero_add] at this; exact this⟩
    gi_wp2
    refine ⟨by simp, .inl ⟨_, _, rfl, run_takeDeferred hK, ?_⟩⟩
    have hr' : ∀ r, some D = some r → ∃ o : Obj, W.heap[r]? = some o ∧ o.isCells = false := fun r e => by cases e; exact ⟨_, hK, rfl⟩
    have c0 := (boxed_turn hx.r0 (grownBy_putObj' _ D (.deferred none)) hr').cell
    have c1 := (boxed_turn b1 (grownBy_putObj' _ D (.deferred none)) hr').cell
    have c2 := (boxed_turn b2 (grownBy_putObj' _ D (.deferred none)) hr').cell
    refine ⟨.tuple #[.slice none 0 0, .int .i64 last.k, .int .i64 last.e], ?_, Or.inr ⟨by rw [hcut.out.1]; exact hle, by rw [hcut.out.1, hcut.out.2], hx.bl.trans (belowK_b (w := W0) (by omega) _ D _ _ hD hK rfl rfl)⟩⟩
    simp [results, Try.f28, go_sem, c0, c1, c2]
end Go.Proofs.Ytkcnpdcgonengaa
