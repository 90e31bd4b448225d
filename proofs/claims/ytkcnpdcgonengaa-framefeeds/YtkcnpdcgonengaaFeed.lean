/- What Feed makes of an assembler that isn't broken: the frames that are whole now; what is left is held. Conditions: what is held and the chunk are at most 1,000,000 bytes; the sum told so far is below 10^12. -/
import Derived.Test.YtkcnpdcgonengaaFrF
import Derived.Test.YtkcnpdcgonengaaPureH
import Derived.Deep.RegionHeld3
namespace Go.Proofs.Ytkcnpdcgonengaa
open Go.RowKit Go.Shelf

attribute [local go_sem] Oper.semAt_some

/-- What Feed makes: the frames that are whole now, in blocks of their own; what is left is held. -/
def FeedPost (A base : Nat) (v : Value) (zs : List Int) (L t : Int) (w : World) (e : Ending) (w' : World) : Prop :=
  ∃ v' la lc ps, e = .returned (.tuple #[.slice la ps.length lc, .int .i64 (flt (cut L zs).2.2)]) ∧ BTag w' w.heap.size (.slice la ps.length lc) ps ∧ ps.map (·.1) = (cut L zs).1 ∧
    Asm w' A base v' (left L zs) L (flt (cut L zs).2.2) (t + (lens (cut L zs).1 : Nat)) ∧ Fed w w' A v.ownBlock ∧ Moved w.heap.size v v' ∧ (∀ p ∈ ps, ∀ x, p.2.1 = some x → some x.block ≠ v'.ownBlock)

set_option maxHeartbeats 6400000 in
set_option maxRecDepth 100000 in
theorem feed_at (A base : Nat) (v : Value) (H zs : List Int) (L t : Int) (ca : Option Addr) (cs : List Int) (cc : Nat) (w : World) (hzs : Hid (H ++ cs = zs)) (h : Asm w A base v H L 0 t) (hc : Shown w ca cs cc) (hL0 : 0 ≤ L) (hL1 : L ≤ 4096)
    (hlen : H.length + cs.length ≤ 1000000) (ht0 : 0 ≤ t) (ht1 : t ≤ 1000000000000) : Calls Try.prog 21 #[.pointer (some ⟨A, 0, none⟩), .slice ca cs.length cc] w (FeedPost A base v zs L t w) := by
  obtain ⟨i0, hi0, hz0, hz1, hz2⟩ := info_parts infoB
  have hmf : ∀ (o : Obj), Below w.heap.size w (w.alloc o) := fun o => (Below.refl _ _).alloc (Nat.le_refl _) o
  have CA : Hid (∀ o, CallsIn Fence.wide 3 Try.prog 68 #[.pointer (some ⟨A, 0, none⟩), .slice ca cs.length cc] (w.alloc o) fun e w' => e = .returned (.tuple #[]) ∧ ∃ v', Asm w' A base v' (H ++ cs) L 0 t ∧ Fed (w.alloc o) w' A v.ownBlock ∧ Moved (w.alloc o).heap.size v v') :=
    fun o => callsIn_wide.2 (add_any A base v H L 0 t ca cs cc (w.alloc o) (h.below (hmf o)) (hc.below (hmf o)) (by omega))
  obtain ⟨c0, c1, c2, c3⟩ := h.cells
  have hlt := h.lt
  refine (callsIn_wide (n := 4)).1 ?_
  refine callsIn_of_wp_marks Try.func21 rfl trivial ?_ rfl
  simp only [Try.ntmps21, List.size_toArray, List.length_cons, List.length_nil, Nat.reduceAdd, Nat.reduceSub, Array.replicate_succ, Array.replicate_zero, List.push_toArray, List.append_toArray, List.nil_append, List.cons_append]
  gi_wp2_with fail
  refine ⟨trivial, (CA.out _).mono ?_⟩
  rintro e w1 ⟨rfl, v1, hA1, hF1, hM1⟩
  have hbp : Boxed w1 w.heap.size 38 (.pointer (some ⟨A, 0, none⟩)) := by
    refine (hF1.block w.heap.size (by simp) (by omega) (fun e => ?_)).trans (Boxed.new w _ _)
    have := (h.own.lt _ e.symm).2
    omega
  have hF : Fed w w1 A v.ownBlock := (Fed.below A v.ownBlock (hmf _)).trans hF1 (Or.inl rfl)
  have hM : Moved w.heap.size v v1 := hM1.elim Or.inl (fun h => Or.inr (fun k hk => by have := h k hk; simp at this; omega))
  rw [hzs.out] at hA1
  have hzl : zs.length ≤ 1000000 := by rw [← hzs.out, List.length_append]; omega
  obtain ⟨va, vc, hv1, -, hrow, hnil, hvc, hvm⟩ := own_view hA1.own hA1.byt
  subst hv1
  have hw1 : w.heap.size + 1 ≤ w1.heap.size := by have := hF1.size; simp at this; omega
  clear CA c0 c1 c2 c3 hF1 hM1 hzs hc h
  obtain ⟨c0, c1, c2, c3⟩ := hA1.cells
  have hlt1 := hA1.lt
  have hcp := hbp.cell
  have hwl : w.heap.size < w1.heap.size := by omega
  have hbd : Below w1.heap.size w1 (((w1.alloc (.cells #[.slice none 0 0] 32)).alloc (.cells #[.int .i64 zs.length] 3)).drew) := (((Below.refl _ w1).alloc (Nat.le_refl _) _).alloc (by simp) _).drew
  gi_wp2_with fail
  refine wpIn_wide.2 ?_
  go_region_held3 (fun w' => w'.cell? ⟨w.heap.size, 0, none⟩ = some (.pointer (some ⟨A, 0, none⟩)) ∧ w'.cell? ⟨A, 0, none⟩ = some (.slice va zs.length vc) ∧ w'.cell? ⟨A, 1, none⟩ = some (.int .i64 L)) (first | go_keep | exact ⟨(hb4.cell (p := ⟨w.heap.size, 0, none⟩) hwl).trans hcp, (hb4.cell (p := ⟨A, 0, none⟩) hlt1).trans c0, (hb4.cell (p := ⟨A, 1, none⟩) hlt1).trans c1⟩ | fail)
    ((go_at_call 69; refine (pieces_any va zs.length vc L _).mono ?_; rintro e w2 ⟨rfl, hw2⟩; have hb4 : Below w1.heap.size w1 w2 := by rw [← hw2]; exact hbd.trans (((Below.refl _ _).alloc (by simp; omega) _).alloc (by simp; omega) _)))
  gi_wp2_with fail
  have hsz : w2.heap.size = w1.heap.size + 4 := by rw [← hw2]; simp
  have k2 : w2.cell? ⟨w1.heap.size + 1 + 1, 0, none⟩ = some (.slice va zs.length vc) := by
    have := (Boxed.new ((w1.alloc (.cells #[.slice none 0 0] 32)).alloc (.cells #[.int .i64 zs.length] 3)) 29 (.slice va zs.length vc)).alloc (.cells #[.int .i64 L] 3)
    rw [World.size_alloc, World.size_alloc] at this
    have h2 := this.cell
    rw [← hw2]; exact h2
  have k3 : w2.cell? ⟨w1.heap.size + 1 + 1 + 1, 0, none⟩ = some (.int .i64 L) := by
    have := Boxed.new (((w1.alloc (.cells #[.slice none 0 0] 32)).alloc (.cells #[.int .i64 zs.length] 3)).alloc (.cells #[.slice va zs.length vc] 29)) 3 (.int .i64 L)
    rw [World.size_alloc, World.size_alloc, World.size_alloc] at this
    have h2 := this.cell
    rw [← hw2]; exact h2
  have hbl : Boxed w2 w1.heap.size 32 (.slice none 0 0) := by
    have := (((Boxed.new w1 32 (.slice none 0 0)).alloc (.cells #[.int .i64 zs.length] 3)).alloc (.cells #[.slice va zs.length vc] 29)).alloc (.cells #[.int .i64 L] 3)
    rw [← hw2]; exact this
  have hbd2 : Boxed w2 (w1.heap.size + 1) 3 (.int .i64 zs.length) := by
    have := ((Boxed.new (w1.alloc (.cells #[.slice none 0 0] 32)) 3 (.int .i64 zs.length)).alloc (.cells #[.slice va zs.length vc] 29)).alloc (.cells #[.int .i64 L] 3)
    rw [World.size_alloc] at this
    rw [← hw2]; exact this
  clear hw2 hbd
  have hI0 : FdI A base (.slice va zs.length vc) zs L t w.heap.size w1.heap.size (w1.heap.size + 1) (w1.heap.size + 4) w v.ownBlock [] w2 :=
    ⟨(hb4.block _ hbp.lt).trans hbp, by have := hA1.below hb4; simpa [faultP, frs, lens] using this, ⟨.slice none 0 0, [], hbl, BTag.nil _ _, rfl⟩, hbd2, hF.trans (Fed.below A none hb4) (Or.inr (fun j e => by cases e)), by omega, by simp [frs, lens], by simp [frs]⟩
  have hvlt : ∀ k, (Value.slice va zs.length vc).ownBlock = some k → base ≤ k ∧ k < w1.heap.size := fun k hk => hA1.own.lt k hk
  have hE : zs ≠ [] → ∀ x, va = some x → x.block < w1.heap.size + 4 ∧ ¬ (x.block = A ∨ x.block = w1.heap.size ∨ x.block = w1.heap.size + 1) := fun hz x hx => by
    have := hvlt x.block (by rw [hx]; rfl)
    have := hA1.lo
    omega
  have hlo := hA1.lo
  have hhi := hA1.hi
  have hseq := pieces1_told 3 (w1.heap.size + 4) (fun k => k = A ∨ k = w1.heap.size ∨ k = w1.heap.size + 1) va zs vc L (w1.heap.size + 1 + 1) (w1.heap.size + 1 + 1 + 1) w2 (by omega) (hrow.below hb4) hnil hvc (by omega) hL0 hL1 hE k2 k3 ⟨by omega, by omega⟩ ⟨by omega, by omega⟩
  clear hE k2 k3 hbl hbd2 hcp c0 c1 c2 c3 hrow hnil hvm
  refine wpIn_rangeFunc_told (F := Fence.wide) rfl (by omega) (gf := 112) (lb := #[.pointer (some ⟨w1.heap.size + 1 + 1, 0, none⟩), .pointer (some ⟨w1.heap.size + 1 + 1 + 1, 0, none⟩)]) rfl trivial (enters_of Try.func112 (by kernel_rfl) rfl) hseq KpE.trans (fun W l o hl _ => KpE.put W l o (by omega)) (fun _ => rfl)
    (fun pre W => FdI A base (.slice va zs.length vc) zs L t w.heap.size w1.heap.size (w1.heap.size + 1) (w1.heap.size + 4) w v.ownBlock pre W) (fun c pre W => False) (fun s A B row hs hg hr => hs.turn hg (fun r e => ⟨by have := (hr r e).1; omega, (hr r e).2⟩)) (fun c s A B row hs hg hr => hs) hI0
    (fun x a' W => ∃ Bx, w1.heap.size + 4 ≤ Bx ∧ W.heap[Bx]? = some (.cells #[.int .i64 x.k, .slice x.a x.b.length x.c] 116 (0, 0)) ∧ x.told (w1.heap.size + 4) W ∧ a' = { tmps := #[.pointer (some ⟨A, 0, none⟩), .slice ca cs.length cc, .pointer (some ⟨w.heap.size, 0, none⟩), undef, .slice none 0 0, .int .i64 0, .pointer (some ⟨w1.heap.size, 0, none⟩), .pointer (some ⟨w1.heap.size + 1, 0, none⟩), .pointer (some ⟨Bx, 0, none⟩), .int .i64 x.e, .pointer (some ⟨A, 0, none⟩), .bool false, .bool false, .pointer (some ⟨A, 0, none⟩), .pointer (some ⟨A, 0, none⟩), .pointer (some ⟨A, 2, none⟩), .int .i64 0, .bool false, .bool false, .pointer (some ⟨A, 0, none⟩), .pointer (some ⟨A, 0, none⟩), .pointer (some ⟨A, 0, none⟩), .slice ca cs.length cc, .tuple #[], .pointer (some ⟨A, 0, none⟩), .pointer (some ⟨A, 0, none⟩), .pointer (some ⟨A, 0, none⟩), .pointer (some ⟨A, 0, none⟩), .slice va zs.length vc, .int .i64 zs.length, .pointer (some ⟨A, 0, none⟩), .pointer (some ⟨A, 0, none⟩), .pointer (some ⟨A, 0, none⟩), .pointer (some ⟨A, 0, none⟩), .slice va zs.length vc, .pointer (some ⟨A, 0, none⟩), .pointer (some ⟨A, 0, none⟩), .pointer (some ⟨A, 1, none⟩), .int .i64 L, .func (.func 112) #[] #[.pointer (some ⟨w1.heap.size + 1 + 1, 0, none⟩), .pointer (some ⟨w1.heap.size + 1 + 1 + 1, 0, none⟩)], .agg #[.int .i64 x.k, .slice x.a x.b.length x.c], .int .i64 x.e, undef, undef, undef, undef, undef, undef, undef, undef, undef, undef, undef, undef, undef, undef, undef, undef, undef, undef, undef, undef, undef, undef, undef, undef, undef, undef, undef, undef, undef, undef, undef, undef, undef, undef, undef, undef, undef, undef, undef, undef, undef, undef, undef, undef, undef, undef, undef, undef, undef, undef, undef, undef], defers := [] }) ?ax ?assign ?body ?done ?stop
  case ax =>
    intro x a' _ A B row hs hg hr
    obtain ⟨Bx, h1, h2, h3, h4⟩ := hs
    have hr' := fun r e => (hr r e).2
    exact ⟨Bx, h1, cells_turn h2 hg hr', told_turn h3 hg hr', h4⟩
  case assign =>
    intro l pre x W K hi hG hK
    simp only [Piece.enc]
    gi_wp2
    have hb : Below W.heap.size W (W.alloc (.cells #[.int .i64 x.k, .slice x.a x.b.length x.c] 116)) := (Below.refl _ _).alloc (Nat.le_refl _) _
    refine hK _ _ ((KeepsOthers.alloc _ _).from _) (KpE.below hb hi.sz) (hi.turn (World.grownBy_alloc W _ none) (fun r e => by cases e)) ⟨W.heap.size, hi.sz, World.alloc_heap_new W _, told_below hG hb, rfl⟩
  case body =>
    rintro l pre x a' W hi ⟨Bx, hBx, hbx, hG, rfl⟩ hpl
    have hx0 := cell_of_row W Bx 0 _ _ _ hbx
    have hx1 := cell_of_row W Bx 1 _ _ _ hbx
    simp only [List.getElem?_toArray, List.getElem?_cons_zero, List.getElem?_cons_succ] at hx0 hx1
    have hBl : Bx < W.heap.size := (Array.getElem?_eq_some_iff.1 hbx).1
    have hcp := hi.bp.cell
    have hsz1 := hi.sz
    have hbA : some A ≠ (some w1.heap.size) := by simp; omega
    have hvk : ∀ k, (Value.slice va zs.length vc).ownBlock = some k → k < w1.heap.size := fun k hk => (hvlt k hk).2
    by_cases he : x.e = 0
    · have he' : (x.e == 0) = true := by simp [he]
      obtain ⟨lv, ps, hlv, hbt, hps⟩ := hi.l
      have hlvc := hlv.cell
      have hpl2 : ps.length ≤ pre.length := by have := congrArg List.length hps; rw [List.length_map] at this; have := hi.fl; omega
      gi_wp2_with (gi_at_builtin; refine wpListIn_append_own _ rfl (.tmp 49) (.tmp 52) 32 rfl (w1.heap.size + 4) 29 i0 (.slice none 0 0) 1 24 Try.underlying32 hi0 hz0 hz1 hz2 rfl (by decide) lv _ _ rfl (hbt.own.alloc _) ⟨W.heap.size, 0, none⟩ 1 1 [.slice x.a x.b.length x.c] rfl rfl (cell_one_new _ _ _) (by simp [Value.oneCell']) (by unfold maxLen; omega) (by omega) (by simp; omega) ?_; intro v' w3 hown' hgrow _; obtain ⟨g', cap', rfl⟩ := ownsRow_succ hown'; have hv3 : Boxed w3 w1.heap.size 32 lv := (hlv.alloc _).kept hgrow (hlv.not_row (by decide) hbt.own); have hc3 := hv3.cell; have hf3 := hv3.frozen)
      obtain ⟨m0, m1, m2, m3, m4, m5, m6, m7, m8⟩ := hi.mid x hG hlt hwl hvk (Nat.le_refl _) hlv hbt hown' hgrow
      have m6' := m6 Bx _ _ hbx (by decide) (by omega)
      generalize w3.setCell ⟨w1.heap.size, 0, none⟩ (.slice (some ⟨g', 0, none⟩) (ps.length + 1) cap') = V at *
      have hy1 := cell_of_row V Bx 1 _ _ _ m6'
      simp only [List.getElem?_toArray, List.getElem?_cons_zero, List.getElem?_cons_succ] at hy1
      have q0 := m0.cell
      obtain ⟨-, -, -, q3⟩ := m1.cells
      have q3f := m1.frozen 3
      have hln := hi.ln
      have hlb := hG.2.1
      have hA3 : A < V.heap.size := m1.lt
      generalize hTT : t + ((lens (frs (pre.map Piece.strip)) : Nat) : Int) = TT at q3
      have hTT0 : 0 ≤ TT := by omega
      have hTT1 : TT ≤ 2000000000000 := by omega
      have HTT : Hid (t + ((lens (frs (pre.map Piece.strip)) : Nat) : Int) = TT) := hTT
      have hlb' : (x.b.length : Int) ≤ 4096 := by omega
      have hwr : IntKind.i64.wrap (TT + (x.b.length : Int)) = TT + (x.b.length : Int) := IntWalk.i64_in _ ⟨by omega, by omega⟩
      clear hTT hx0 hx1 hlvc hc3 hf3 hcp hln
      gi_region
      all_goals gi_wp2
      all_goals
        refine ⟨((m7.trans (KeepsOthers.setCell _ _ _)).trans (KeepsOthers.drew _)).from _, ?_, ?_⟩
        · exact ((m8 _ (Or.inr (Or.inl rfl))).trans (KpE.set V ⟨A, 3, none⟩ _ (Or.inr (Or.inl rfl)))).trans ⟨Nat.le_refl _, fun _ _ _ => rfl⟩
        · have := hi.take x he hlb hlt hwl hps m0 m1 m2 m3 m4 m5 m7.size
          rw [HTT.out] at this
          exact this.turn (row := none) ⟨rfl, rfl, rfl, Nat.le_refl _, fun _ _ _ => rfl⟩ (fun k e => by cases e)
    · by_cases he5 : x.e = 5
      · have hd := hi.d.cell
        have hdf := hi.d.frozen
        have he' : (x.e == 0) = false := by simp [he5]
        gi_wp2
        exact ⟨(KeepsOthers.setCell _ _ _).from _, KpE.set W ⟨w1.heap.size + 1, 0, none⟩ _ (Or.inr (Or.inr (Or.inr rfl))), hi.short x he5 hlt hwl hvk (Nat.le_refl _)⟩
      · have he' : (x.e == 0) = false := by simpa using he
        have he5' : (x.e == 5) = false := by simpa using he5
        obtain ⟨c0, c1, c2, c3⟩ := hi.asm.cells
        have hf2 := hi.asm.frozen 2
        gi_wp2
        exact ⟨(KeepsOthers.setCell _ _ _).from _, KpE.set W ⟨A, 2, none⟩ _ (Or.inr (Or.inl rfl)), hi.faulted x he he5 hlt hwl⟩
  case done =>
    rintro D ys W hD hS hi hK
    have e1 : frs (ys.map Piece.strip) = (cut L zs).1 := by rw [hS, pcs_frs]
    have e2 : faultP (ys.map Piece.strip) = flt (cut L zs).2.2 := by rw [hS, pcs_fault]; rfl
    have e3 : doneP zs.length (ys.map Piece.strip) = if (cut L zs).2.2 = 5 then (cut L zs).2.1 else zs.length := by rw [hS, pcs_done]
    have hck := cut_ok L zs hi.asm.byt
    obtain ⟨lv, ps, hlv, hbt, hps⟩ := hi.l
    have hA := hi.asm
    have hdb := hi.d
    rw [e1] at hps hA
    rw [e2] at hA
    rw [e3] at hdb
    have hcp := hi.bp.cell
    have hsz1 := hi.sz
    have hlvc := hlv.cell
    have hfd := hi.fd
    clear hi e1 e2 e3 hS hseq hI0
    obtain ⟨la, lc, hla, -⟩ := hbt.view
    subst hla
    have hDl : D < W.heap.size := (Array.getElem?_eq_some_iff.1 hK).1
    have hDA : D ≠ A := by omega
    by_cases hf : flt (cut L zs).2.2 = 0
    · have hlf : left L zs = zs.drop (cut L zs).2.1 := by rw [left, if_pos hf]
      have hdn : (if (cut L zs).2.2 = 5 then (cut L zs).2.1 else zs.length) = (cut L zs).2.1 := by
        by_cases h5 : (cut L zs).2.2 = 5
        · rw [if_pos h5]
        · rw [if_neg h5]
          rcases hck.2.2.2 with ⟨_, e⟩ | ⟨e, _, _⟩
          · exact e.symm
          · exfalso
            unfold flt at hf
            split at hf
            · omega
            · omega
      rw [hdn] at hdb
      have hle := hck.1
      have hEnd : ∀ v' V, Asm V A base v' (zs.drop (cut L zs).2.1) L 0 (t + (lens (cut L zs).1 : Nat)) → Fed W V A none → Moved W.heap.size (Value.slice va zs.length vc) v' → FeedPost A base v zs L t w (.returned (.tuple #[.slice la ps.length lc, .int .i64 0])) (V.putObj D (.deferred none)) := fun v' V q1 q2 q3 => by
        obtain ⟨p1, p2, p3, p4, p5⟩ := feed_end hbt hK q1 q2 q3 hfd hM (fun k hk => by have := (hvlt k hk).2; omega) (by omega) (by omega) (by omega)
        exact ⟨v', la, lc, ps, by rw [hf], p1, hps, by rw [hf, hlf]; exact p2, p3, p4, p5⟩
      have HE : Hid (∀ v' V, Asm V A base v' (zs.drop (cut L zs).2.1) L 0 (t + (lens (cut L zs).1 : Nat)) → Fed W V A none → Moved W.heap.size (Value.slice va zs.length vc) v' → FeedPost A base v zs L t w (.returned (.tuple #[.slice la ps.length lc, .int .i64 0])) (V.putObj D (.deferred none))) := hEnd
      rw [hf] at hA
      generalize (cut L zs).2.1 = d at *
      generalize t + ((lens (cut L zs).1 : Nat) : Int) = tt at *
      clear hEnd hck hdn hlf hf hps
      have CD : Hid (∀ W', Asm W' A base (.slice va zs.length vc) zs L 0 tt → Calls Try.prog 70 #[.pointer (some ⟨A, 0, none⟩), .int .i64 (d : Nat)] W' fun e w' => e = .returned (.tuple #[]) ∧ ∃ v', Asm w' A base v' (zs.drop d) L 0 tt ∧ Fed W' w' A none ∧ Moved W'.heap.size (Value.slice va zs.length vc) v') :=
        fun W' h => drop_any A base _ zs L 0 tt d W' h hle (by omega)
      obtain ⟨c0, c1, c2, c3⟩ := hA.cells
      have hdc := hdb.cell
      have hAd : Asm W.drew A base (.slice va zs.length vc) zs L 0 tt := hA.below (Below.drew (Below.refl _ _))
      gi_wp2
      refine wpIn_wide.2 ?_
      go_region_held3 (fun w' => w'.cell? ⟨w.heap.size, 0, none⟩ = some (.pointer (some ⟨A, 0, none⟩)) ∧ w'.cell? ⟨w1.heap.size + 1, 0, none⟩ = some (.int .i64 (d : Nat))) (first | go_keep | exact ⟨((Fed.toGrown hF3).cell hcp (by simp; omega)), ((Fed.toGrown hF3).cell hdc (by simp; omega))⟩ | fail)
        ((go_at_call 70; refine (CD.out _ hAd).mono ?_; rintro e w3 ⟨rfl, v', hA3, hF3, hM3⟩))
      have hlv3 := (hlv.kept (W' := w3) (row := some A) ⟨hF3.toGrown.os, hF3.toGrown.tape, hF3.toGrown.output, hF3.toGrown.size, hF3.toGrown.block⟩ (by simp; omega)).cell
      have hK3 : w3.heap[D]? = some (.deferred (some [])) := (hF3.toGrown.block D hDl (by simp; exact hDA)).trans hK
      gi_wp2
      refine ⟨by simp, .inl ⟨_, _, rfl, run_takeDeferred hK3, ?_⟩⟩
      refine ⟨.tuple #[.slice la ps.length lc, .int .i64 0], ?_, HE.out v' w3 hA3 ⟨hF3.os, hF3.tape, hF3.output, hF3.size, hF3.block⟩ hM3⟩
      simp [results, Try.f21, go_sem]
    · have hlf : left L zs = [] := by rw [left, if_neg hf]
      have hEnd : ∀ v' V, Asm V A base v' (zs.drop zs.length) L (flt (cut L zs).2.2) (t + (lens (cut L zs).1 : Nat)) → Fed W V A none → Moved W.heap.size (Value.slice va zs.length vc) v' → FeedPost A base v zs L t w (.returned (.tuple #[.slice la ps.length lc, .int .i64 (flt (cut L zs).2.2)])) (V.putObj D (.deferred none)) := fun v' V q1 q2 q3 => by
        obtain ⟨p1, p2, p3, p4, p5⟩ := feed_end hbt hK q1 q2 q3 hfd hM (fun k hk => by have := (hvlt k hk).2; omega) (by omega) (by omega) (by omega)
        rw [List.drop_length] at p2
        exact ⟨v', la, lc, ps, rfl, p1, hps, by rw [hlf]; exact p2, p3, p4, p5⟩
      have hfn : (flt (cut L zs).2.2 != 0) = true := by simpa using hf
      clear hlf hck hps hdb
      generalize flt (cut L zs).2.2 = ff at *
      generalize t + ((lens (cut L zs).1 : Nat) : Int) = tt at *
      have HE : Hid (∀ v' V, Asm V A base v' (zs.drop zs.length) L ff tt → Fed W V A none → Moved W.heap.size (Value.slice va zs.length vc) v' → FeedPost A base v zs L t w (.returned (.tuple #[.slice la ps.length lc, .int .i64 ff])) (V.putObj D (.deferred none))) := hEnd
      clear hEnd hf
      have CD : Hid (∀ W', Asm W' A base (.slice va zs.length vc) zs L ff tt → Calls Try.prog 70 #[.pointer (some ⟨A, 0, none⟩), .int .i64 (zs.length : Nat)] W' fun e w' => e = .returned (.tuple #[]) ∧ ∃ v', Asm w' A base v' (zs.drop zs.length) L ff tt ∧ Fed W' w' A none ∧ Moved W'.heap.size (Value.slice va zs.length vc) v') :=
        fun W' h => drop_any A base _ zs L ff tt zs.length W' h (Nat.le_refl _) (by omega)
      obtain ⟨c0, c1, c2, c3⟩ := hA.cells
      have hAd : Asm W.drew A base (.slice va zs.length vc) zs L ff tt := hA.below (Below.drew (Below.refl _ _))
      gi_wp2
      refine wpIn_wide.2 ?_
      refine wp_region_noPanic ?_
      go_region_with ((go_at_call 70; refine (CD.out _ hAd).mono ?_; rintro e w3 ⟨rfl, v', hA3, hF3, hM3⟩))
      all_goals
        refine NoPanic.normal ?_
        have hgA : W.grownBy w3 (some A) := ⟨hF3.toGrown.os, hF3.toGrown.tape, hF3.toGrown.output, hF3.toGrown.size, hF3.toGrown.block⟩
        have hlv3 := (hlv.kept hgA (by simp; omega)).cell
        have hcp3 := hgA.cell hcp (by simp; omega)
        have hK3 : w3.heap[D]? = some (.deferred (some [])) := (hgA.block D hDl (by simp; exact hDA)).trans hK
        obtain ⟨-, -, c23, -⟩ := hA3.cells
        have hlt3 := hA3.lt
        gi_wp2
        refine wpIn_wide.2 ?_
        go_region_held3 (fun w' => w'.cell? ⟨w.heap.size, 0, none⟩ = some (.pointer (some ⟨A, 0, none⟩)) ∧ w'.cell? ⟨w1.heap.size, 0, none⟩ = some (.slice la ps.length lc) ∧ w'.cell? ⟨A, 2, none⟩ = some (.int .i64 ff)) (first | go_keep | fail) (fail)
        gi_wp2
        have hK4 : w3.drew.heap[D]? = some (.deferred (some [])) := hK3
        refine ⟨by simp, .inl ⟨_, _, rfl, run_takeDeferred hK4, ?_⟩⟩
        refine ⟨.tuple #[.slice la ps.length lc, .int .i64 ff], ?_, HE.out v' w3.drew (hA3.below (Below.drew (Below.refl _ _))) ⟨hF3.os, hF3.tape, hF3.output, hF3.size, hF3.block⟩ hM3⟩
        simp [results, Try.f21, go_sem]
  case stop =>
    rintro D c pre W _ _ h _
    exact h.elim
end Go.Proofs.Ytkcnpdcgonengaa
