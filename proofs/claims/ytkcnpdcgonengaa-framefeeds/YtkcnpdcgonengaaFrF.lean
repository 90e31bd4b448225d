/- What Feed's loop holds. No conditions. -/
import Derived.Test.YtkcnpdcgonengaaTurn
import Derived.Test.YtkcnpdcgonengaaAsm
namespace Go.Proofs.Ytkcnpdcgonengaa
open Go.RowKit Go.Shelf

set_option maxRecDepth 100000 in
theorem Asm.turn {w w' : World} {A base : Nat} {v : Value} {H : List Int} {L f t : Int} {row : Option Nat} (h : Asm w A base v H L f t) (hg : w.grownBy w' row) (hr : ∀ r, row = some r → ∃ o : Obj, w.heap[r]? = some o ∧ o.isCells = false) : Asm w' A base v H L f t :=
  ⟨cells_turn h.blk hg hr, own_turn h.own hg hr, h.byt, h.lo, Nat.le_trans h.hi hg.size⟩
set_option maxRecDepth 100000 in
/-- A block that isn't the assembler's, nor that of its bytes, is written. -/
theorem Asm.kept {w w' : World} {A base : Nat} {v : Value} {H : List Int} {L f t : Int} {row : Option Nat} (h : Asm w A base v H L f t) (hg : w.grownBy w' row) (h1 : some A ≠ row) (h2 : v.ownBlock = none ∨ v.ownBlock ≠ row) : Asm w' A base v H L f t :=
  ⟨(hg.block A h.lt h1).trans h.blk, h.own.kept hg h2, h.byt, h.lo, Nat.le_trans h.hi hg.size⟩
set_option maxRecDepth 100000 in
theorem Fed.turn {w W W' : World} {A : Nat} {r row : Option Nat} (h : Fed w W A r) (hg : W.grownBy W' row) (hr : ∀ k, row = some k → w.heap.size ≤ k) : Fed w W' A r := h.trans (Fed.grown A hg) (Or.inr hr)

set_option maxRecDepth 100000 in
theorem grownBy_set (w : World) (A o : Nat) (u : Value) : w.grownBy (w.setCell ⟨A, o, none⟩ u) (some A) := ⟨rfl, rfl, rfl, by simp [World.setCell], fun k _ hk => Below.heap_setCell _ _ _ _ (fun e => hk (by rw [e]))⟩
set_option maxRecDepth 100000 in
theorem Asm.own_ne {w : World} {A base : Nat} {v : Value} {H : List Int} {L f t : Int} (h : Asm w A base v H L f t) : v.ownBlock = none ∨ v.ownBlock ≠ some A := Or.inr (fun e => h.ne e.symm)
set_option maxRecDepth 100000 in
theorem Asm.setT {w : World} {A base : Nat} {v : Value} {H : List Int} {L f t : Int} (h : Asm w A base v H L f t) (t' : Int) : Asm (w.setCell ⟨A, 3, none⟩ (.int .i64 t')) A base v H L f t' :=
  ⟨by rw [cells_set _ h.blk]; rfl, h.own.kept (grownBy_set _ _ _ _) h.own_ne, h.byt, h.lo, by have := h.hi; simp [World.setCell]; omega⟩
set_option maxRecDepth 100000 in
theorem Asm.setF {w : World} {A base : Nat} {v : Value} {H : List Int} {L f t : Int} (h : Asm w A base v H L f t) (f' : Int) : Asm (w.setCell ⟨A, 2, none⟩ (.int .i64 f')) A base v H L f' t :=
  ⟨by rw [cells_set _ h.blk]; rfl, h.own.kept (grownBy_set _ _ _ _) h.own_ne, h.byt, h.lo, by have := h.hi; simp [World.setCell]; omega⟩
set_option maxRecDepth 100000 in
theorem Fed.toGrown {w w' : World} {A : Nat} (h : Fed w w' A none) : w.grownBy w' (some A) := ⟨h.os, h.tape, h.output, h.size, fun k hk hne => h.block k hk (fun e => hne (by rw [e])) (by simp)⟩
set_option maxRecDepth 100000 in
/-- A block below the frames' is written. -/
theorem BTag.far {w w' : World} {base : Nat} {v : Value} {ps : List (List Int × Option Addr × Nat)} {A : Nat} (h : BTag w base v ps) (hg : w.grownBy w' (some A)) (hA : A < base) : BTag w' base v ps :=
  h.kept hg (Or.inr (fun e => by have := (h.own.lt A e).1; omega)) (fun p hp x hx e => by have := (h.tg p hp x hx).1; have : x.block = A := by simpa using e
                                                                                          omega)

set_option maxRecDepth 100000 in
theorem BTag.mono {w : World} {base base' : Nat} {v : Value} {ps : List (List Int × Option Addr × Nat)} (h : BTag w base v ps) (hb : base' ≤ base) : BTag w base' v ps := ⟨own_mono h.own hb, h.sh, fun p hp x hx => ⟨Nat.le_trans hb (h.tg p hp x hx).1, (h.tg p hp x hx).2⟩⟩
set_option maxRecDepth 100000 in
/-- The end of Feed: the frames, the assembler, and what is left of the rest. -/
theorem feed_end {A base n₀ D : Nat} {v v1 v' lv : Value} {H' : List Int} {L f t : Int} {ps : List (List Int × Option Addr × Nat)} {w W V : World} (hbt : BTag W n₀ lv ps) (hK : W.heap[D]? = some (.deferred (some []))) (hA : Asm V A base v' H' L f t) (hF : Fed W V A none) (hM : Moved W.heap.size v1 v')
    (hfd : Fed w W A v.ownBlock) (hmv : Moved w.heap.size v v1) (hv1 : ∀ k, v1.ownBlock = some k → k < n₀) (hAn : A < n₀) (hn : w.heap.size ≤ n₀) (hD : n₀ ≤ D) :
    BTag (V.putObj D (.deferred none)) w.heap.size lv ps ∧ Asm (V.putObj D (.deferred none)) A base v' H' L f t ∧ Fed w (V.putObj D (.deferred none)) A v.ownBlock ∧ Moved w.heap.size v v' ∧ (∀ p ∈ ps, ∀ x, p.2.1 = some x → some x.block ≠ v'.ownBlock) := by
  have hKV : V.heap[D]? = some (.deferred (some [])) := (hF.toGrown.block D (Array.getElem?_eq_some_iff.1 hK).1 (by simp; omega)).trans hK
  have hr : ∀ r, some D = some r → ∃ o : Obj, V.heap[r]? = some o ∧ o.isCells = false := fun r e => by cases e; exact ⟨_, hKV, rfl⟩
  refine ⟨(bt_putObj (hbt.far hF.toGrown hAn) _ hKV rfl).mono hn, hA.turn (grownBy_putObj' _ _ _) hr, (hfd.trans hF (Or.inr (fun j e => by cases e))).trans (Fed.grown A (grownBy_putObj' V D _)) (Or.inr (fun j e => by cases e; omega)), hmv.trans hM hfd.size, fun p hp x hx e => ?_⟩
  have h1 := hbt.tg p hp x hx
  obtain ⟨cur, hc⟩ := h1.2
  have h2 := (Array.getElem?_eq_some_iff.1 hc).1
  rcases hM with h3 | h3
  · rw [h3] at e
    have := hv1 _ e.symm
    have := h1.1
    omega
  · have := h3 _ e.symm
    omega

structure FdI (A base : Nat) (v1 : Value) (zs : List Int) (L t : Int) (Bp Bl Bd n₀ : Nat) (w : World) (r : Option Nat) (pre : List Piece) (W : World) : Prop where
  bp : Boxed W Bp 38 (.pointer (some ⟨A, 0, none⟩))
  asm : Asm W A base v1 zs L (faultP (pre.map Piece.strip)) (t + (lens (frs (pre.map Piece.strip)) : Nat))
  l : ∃ lv ps, Boxed W Bl 32 lv ∧ BTag W n₀ lv ps ∧ ps.map (·.1) = frs (pre.map Piece.strip)
  d : Boxed W Bd 3 (.int .i64 (doneP zs.length (pre.map Piece.strip) : Nat))
  fd : Fed w W A r
  sz : n₀ ≤ W.heap.size
  ln : lens (frs (pre.map Piece.strip)) ≤ 4096 * pre.length
  fl : (frs (pre.map Piece.strip)).length ≤ pre.length
set_option maxRecDepth 100000 in
theorem FdI.turn {A base : Nat} {v1 : Value} {zs : List Int} {L t : Int} {Bp Bl Bd n₀ : Nat} {w : World} {r : Option Nat} {pre : List Piece} {W W' : World} {row : Option Nat} (h : FdI A base v1 zs L t Bp Bl Bd n₀ w r pre W) (hg : W.grownBy W' row)
    (hr : ∀ k, row = some k → w.heap.size ≤ k ∧ ∃ o : Obj, W.heap[k]? = some o ∧ o.isCells = false) : FdI A base v1 zs L t Bp Bl Bd n₀ w r pre W' := by
  have hr' := fun k e => (hr k e).2
  obtain ⟨lv, ps, h1, h2, h3⟩ := h.l
  exact ⟨boxed_turn h.bp hg hr', h.asm.turn hg hr', ⟨lv, ps, boxed_turn h1 hg hr', h2.turned hg hr', h3⟩, boxed_turn h.d hg hr', h.fd.turn hg (fun k e => (hr k e).1), Nat.le_trans h.sz hg.size, h.ln, h.fl⟩

section
variable {A base : Nat} {v1 : Value} {zs : List Int} {L t : Int} {Bp Bl : Nat} {w : World} {r : Option Nat} {pre : List Piece} {W : World}
set_option maxRecDepth 100000 in
theorem strip_snoc (pre : List Piece) (x : Piece) : (pre ++ [x]).map Piece.strip = pre.map Piece.strip ++ [(x.k, x.b, x.e)] := by rw [List.map_append]; rfl
set_option maxRecDepth 100000 in
/-- A round whose piece is short. -/
theorem FdI.short (h : FdI A base v1 zs L t Bp Bl (Bl + 1) (Bl + 4) w r pre W) (x : Piece) (he : x.e = 5) (hA : A < Bp) (hB : Bp < Bl) (hv : ∀ k, v1.ownBlock = some k → k < Bl) (hw : w.heap.size ≤ Bp) :
    FdI A base v1 zs L t Bp Bl (Bl + 1) (Bl + 4) w r (pre ++ [x]) (W.setCell ⟨Bl + 1, 0, none⟩ (.int .i64 x.k)) := by
  obtain ⟨lv, ps, h1, h2, h3⟩ := h.l
  have e1 : frs ((pre ++ [x]).map Piece.strip) = frs (pre.map Piece.strip) := by rw [strip_snoc, frs_snoc, if_neg (by simp [he]), List.append_nil]
  have e2 : faultP ((pre ++ [x]).map Piece.strip) = faultP (pre.map Piece.strip) := by rw [strip_snoc, faultP_snoc, if_pos (Or.inr he)]
  have e3 : doneP zs.length ((pre ++ [x]).map Piece.strip) = x.k := by rw [strip_snoc, doneP_snoc, if_pos he]
  have hg := grownBy_set W (Bl + 1) 0 (.int .i64 x.k)
  refine ⟨h.bp.other (by omega) _, ?_, ⟨lv, ps, h1.other (by omega) _, h2.far hg (by omega), by rw [e1]; exact h3⟩, ?_, h.fd.trans (Fed.grown A hg) (Or.inr (fun k e => by cases e; omega)), Nat.le_trans h.sz hg.size, ?_, ?_⟩
  · rw [e1, e2]
    exact h.asm.kept hg (by simp; omega) (Or.inr (fun e => by have := hv _ e; omega))
  · rw [e3]; exact h.d.set _
  · rw [e1, List.length_append]; have := h.ln; omega
  · rw [e1, List.length_append]; have := h.fl; omega
set_option maxRecDepth 100000 in
/-- A round whose piece breaks it. -/
theorem FdI.faulted (h : FdI A base v1 zs L t Bp Bl (Bl + 1) (Bl + 4) w r pre W) (x : Piece) (he : x.e ≠ 0) (he5 : x.e ≠ 5) (hA : A < Bp) (hB : Bp < Bl) :
    FdI A base v1 zs L t Bp Bl (Bl + 1) (Bl + 4) w r (pre ++ [x]) (W.setCell ⟨A, 2, none⟩ (.int .i64 x.e)) := by
  obtain ⟨lv, ps, h1, h2, h3⟩ := h.l
  have e1 : frs ((pre ++ [x]).map Piece.strip) = frs (pre.map Piece.strip) := by rw [strip_snoc, frs_snoc, if_neg (by simp [he]), List.append_nil]
  have e2 : faultP ((pre ++ [x]).map Piece.strip) = x.e := by rw [strip_snoc, faultP_snoc, if_neg (by simp [he, he5])]
  have e3 : doneP zs.length ((pre ++ [x]).map Piece.strip) = doneP zs.length (pre.map Piece.strip) := by rw [strip_snoc, doneP_snoc, if_neg he5]
  have hg := grownBy_set W A 2 (.int .i64 x.e)
  refine ⟨h.bp.kept hg (by simp; omega), ?_, ⟨lv, ps, h1.kept hg (by simp; omega), h2.far hg (by omega), by rw [e1]; exact h3⟩, ?_, h.fd.trans (Fed.set W A 2 r _) (Or.inl rfl), Nat.le_trans h.sz hg.size, ?_, ?_⟩
  · rw [e1, e2]; exact h.asm.setF _
  · rw [e3]; exact h.d.kept hg (by simp; omega)
  · rw [e1, List.length_append]; have := h.ln; omega
  · rw [e1, List.length_append]; have := h.fl; omega
set_option maxRecDepth 100000 in
/-- A round whose piece is a frame, in its midst: it stands in the list. -/
theorem FdI.mid (h : FdI A base v1 zs L t Bp Bl (Bl + 1) (Bl + 4) w r pre W) (x : Piece) (hG : x.told (Bl + 4) W) (hA : A < Bp) (hB : Bp < Bl) (hv : ∀ k, v1.ownBlock = some k → k < Bl) (hw : w.heap.size ≤ Bp)
    {lv v' : Value} {ps : List (List Int × Option Addr × Nat)} {w3 : World} (h1 : Boxed W Bl 32 lv) (h2 : BTag W (Bl + 4) lv ps)
    (hown : w3.ownsRow (Bl + 4) 29 1 v' (ps.length + 1) (ps.map bc ++ [.slice x.a x.b.length x.c])) (hgrow : (W.alloc (.cells #[.slice x.a x.b.length x.c] 29)).grownBy w3 lv.ownBlock) :
    Boxed (w3.setCell ⟨Bl, 0, none⟩ v') Bp 38 (.pointer (some ⟨A, 0, none⟩)) ∧ Asm (w3.setCell ⟨Bl, 0, none⟩ v') A base v1 zs L (faultP (pre.map Piece.strip)) (t + (lens (frs (pre.map Piece.strip)) : Nat)) ∧
    Boxed (w3.setCell ⟨Bl, 0, none⟩ v') Bl 32 v' ∧ BTag (w3.setCell ⟨Bl, 0, none⟩ v') (Bl + 4) v' (ps ++ [(x.b, x.a, x.c)]) ∧
    Boxed (w3.setCell ⟨Bl, 0, none⟩ v') (Bl + 1) 3 (.int .i64 (doneP zs.length (pre.map Piece.strip) : Nat)) ∧ Fed w (w3.setCell ⟨Bl, 0, none⟩ v') A r ∧
    (∀ b cs ty, W.heap[b]? = some (.cells cs ty (0, 0)) → ty ≠ 29 → b ≠ Bl → (w3.setCell ⟨Bl, 0, none⟩ v').heap[b]? = some (.cells cs ty (0, 0))) ∧
    KeepsOthers W (w3.setCell ⟨Bl, 0, none⟩ v') ∧ (∀ E : Nat → Prop, E Bl → KpE (Bl + 4) E W (w3.setCell ⟨Bl, 0, none⟩ v')) := by
  have hba : Below W.heap.size W (W.alloc (.cells #[.slice x.a x.b.length x.c] 29)) := (Below.refl _ _).alloc (Nat.le_refl _) _
  have hGa := told_below hG hba
  have hsz := h.sz
  have hlv : ∀ k, lv.ownBlock = some k → Bl + 4 ≤ k := fun k hk => (h2.own.lt k hk).1
  have hb1 : Boxed w3 Bl 32 lv := (h1.alloc _).kept hgrow (h1.not_row (by decide) h2.own)
  have hg := grownBy_set w3 Bl 0 v'
  have bx : ∀ (b : Nat) (ty : TypeId) (u : Value), Boxed W b ty u → ty ≠ 29 → b ≠ Bl → Boxed (w3.setCell ⟨Bl, 0, none⟩ v') b ty u := fun b ty u hb ht hne =>
    ((hb.alloc _).kept hgrow (hb.not_row ht h2.own)).kept hg (fun e => hne (by simpa using e))
  have hapd := h1.appended (tmp := .cells #[.slice x.a x.b.length x.c] 29) (by decide) (own_mono h2.own (Nat.le_add_right Bl 4)) (by omega) (Nat.le_refl _) (own_mono hown (Nat.le_add_right Bl 4)) hgrow
  refine ⟨bx _ _ _ h.bp (by decide) (by omega), ?_, hb1.set _, ((h2.below hba).append (p := (x.b, x.a, x.c)) hown hgrow hGa.1 hGa.2.2).set hb1 (by decide) (by decide) _, bx _ _ _ h.d (by decide) (by omega), ?_, ?_, hapd.2.2.2.1, ?_⟩
  · refine ((h.asm.below hba).kept hgrow ?_ ?_).kept hg (by simp; omega) (Or.inr (fun e => by have := hv _ e; omega))
    · intro e; have := hlv _ e.symm; omega
    · cases hvo : v1.ownBlock with
      | none => exact Or.inl rfl
      | some k => exact Or.inr (fun e => by have := hlv _ e.symm; have := hv _ hvo; omega)
  · refine ((h.fd.trans (Fed.below A none hba) (Or.inr (fun j e => by cases e))).trans (Fed.grown A hgrow) (Or.inr (fun j e => by have := hlv _ e; omega))).trans (Fed.grown A hg) (Or.inr (fun j e => by cases e; omega))
  · intro b cs ty hb ht hne
    have hlt := (Array.getElem?_eq_some_iff.1 hb).1
    rw [hg.block b (by have := hgrow.size; simp at this; omega) (fun e => hne (by simpa using e)), hgrow.block b (by simp; omega) (fun e => ?_), hba.block b hlt]
    · exact hb
    · rcases h2.own.2 with ⟨rfl, _⟩ | ⟨g, cap, cur, rfl, _, hgg, _⟩
      · simp [Value.ownBlock] at e
      · simp only [Value.ownBlock, Option.some.injEq] at e
        subst e
        rw [hb] at hgg
        simp only [Option.some.injEq, Obj.cells.injEq] at hgg
        exact ht hgg.2.1
  · intro E hE
    exact ((KpE.below hba hsz).trans (KpE.grown hgrow (fun k hk => Or.inl (hlv k hk)) (by simp; omega))).trans (KpE.set _ _ _ (Or.inr hE))
set_option maxRecDepth 100000 in
/-- .. and at its end: its bytes are counted. -/
theorem FdI.take (h : FdI A base v1 zs L t Bp Bl (Bl + 1) (Bl + 4) w r pre W) (x : Piece) (he : x.e = 0) (hlb : x.b.length ≤ 4096) (hA : A < Bp) (hB : Bp < Bl) {v' : Value} {ps : List (List Int × Option Addr × Nat)} {V : World}
    (hps : ps.map (·.1) = frs (pre.map Piece.strip)) (m0 : Boxed V Bp 38 (.pointer (some ⟨A, 0, none⟩))) (m1 : Asm V A base v1 zs L (faultP (pre.map Piece.strip)) (t + (lens (frs (pre.map Piece.strip)) : Nat)))
    (m2 : Boxed V Bl 32 v') (m3 : BTag V (Bl + 4) v' (ps ++ [(x.b, x.a, x.c)])) (m4 : Boxed V (Bl + 1) 3 (.int .i64 (doneP zs.length (pre.map Piece.strip) : Nat))) (m5 : Fed w V A r) (hs : W.heap.size ≤ V.heap.size) :
    FdI A base v1 zs L t Bp Bl (Bl + 1) (Bl + 4) w r (pre ++ [x]) (V.setCell ⟨A, 3, none⟩ (.int .i64 (t + (lens (frs (pre.map Piece.strip)) : Nat) + x.b.length))) := by
  have e1 : frs ((pre ++ [x]).map Piece.strip) = frs (pre.map Piece.strip) ++ [x.b] := by rw [strip_snoc, frs_snoc, if_pos he]
  have e2 : faultP ((pre ++ [x]).map Piece.strip) = faultP (pre.map Piece.strip) := by rw [strip_snoc, faultP_snoc, if_pos (Or.inl he)]
  have e3 : doneP zs.length ((pre ++ [x]).map Piece.strip) = doneP zs.length (pre.map Piece.strip) := by rw [strip_snoc, doneP_snoc, if_neg (by simp [he])]
  have hg := grownBy_set V A 3 (.int .i64 (t + (lens (frs (pre.map Piece.strip)) : Nat) + x.b.length))
  refine ⟨m0.kept hg (by simp; omega), ?_, ⟨v', _, m2.kept hg (by simp; omega), m3.far hg (by omega), by rw [e1, List.map_append, hps]; rfl⟩, by rw [e3]; exact m4.kept hg (by simp; omega), m5.trans (Fed.set V A 3 r _) (Or.inl rfl), Nat.le_trans h.sz (Nat.le_trans hs hg.size), ?_, ?_⟩
  · rw [e1, e2, lens_snoc]
    have := m1.setT (t + (lens (frs (pre.map Piece.strip)) : Nat) + x.b.length)
    rw [Int.add_assoc] at this
    rw [Int.add_assoc, Int.natCast_add]; exact this
  · rw [e1, lens_snoc, List.length_append]; have := h.ln; simp only [List.length_cons, List.length_nil]; omega
  · rw [e1, List.length_append, List.length_append]; have := h.fl; simp only [List.length_cons, List.length_nil]; omega
end
end Go.Proofs.Ytkcnpdcgonengaa
