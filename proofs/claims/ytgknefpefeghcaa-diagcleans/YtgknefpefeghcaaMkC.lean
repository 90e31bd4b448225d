/- grow: the node to which a byte leads, be it there or new. Conditions: the finder lies in memory. -/
import Derived.Test.YtgknefpefeghcaaMkB
import Derived.Laws.AppendOwnNone
import Derived.Laws.OwnMore
import Derived.Deep.RegionHeld
namespace Go.Proofs.Ytgknefpefeghcaa
open Go.RowKit Go.Maps Go.ChangeMaps Go.WideShapes Go.WideMaps

set_option maxRecDepth 100000 in
theorem run_append_any (w : World) (base : Nat) (t ty e : TypeId) (i : TypeInfo) (z : Value) (size bytes : Nat) (ht : Try.prog.underlying t = some (.slice e)) (hi : Try.prog.info? e = some i) (hz : i.zero = some z)
    (hsize : i.size = size) (hby : i.bytes = bytes) (hzs : z.cells.size = size) (hsz : 0 < size)
    (v : Value) (n : Nat) (xs : List Value) (hown : w.ownsRow base e size v n xs)
    (a : Option Addr) (m c : Nat) (news : List Value) (hl : news.length = m * size) (hno : a = none → m = 0 ∧ c = 0) (hnews : ∀ ad, a = some ad → ∀ j u, news[j]? = some u → w.cell? (ad.add j) = some u) (h1 : ∀ u ∈ news, u.oneCell' = true)
    (h63 : n + m ≤ maxLen) (hbytes : (n + m) * bytes ≤ 140737488355328) (hbase : base ≤ w.heap.size) :
    ∃ v' w', (Builtin.append_ #[t, t] ty #[v, .slice a m c]).run Try.prog w = .ok v' w' ∧ w'.ownsRow base e size v' (n + m) (xs ++ news) ∧ w.grownBy w' v.ownBlock ∧ (v'.ownBlock = v.ownBlock ∨ v'.ownBlock = some w.heap.size) := by
  cases a with
  | none =>
    obtain ⟨rfl, rfl⟩ := hno rfl
    have hn : news = [] := List.eq_nil_of_length_eq_zero (by simpa using hl)
    subst hn
    exact ⟨v, w, run_append_owned_none (P := Try.prog) (w := w) base t ty e i size ht hi v n xs hown, by simpa using hown, ⟨rfl, rfl, rfl, Nat.le_refl _, fun _ _ _ => rfl⟩, Or.inl rfl⟩
  | some ad =>
    obtain ⟨v', w', h2, h3, h4, -, h5⟩ := run_append_own_at (P := Try.prog) w base t ty e i z size bytes ht hi hz hsize hby hzs hsz v n xs hown ad m c news hl (hnews ad rfl) h1 h63 hbytes hbase
    exact ⟨v', w', h2, h3, h4, h5⟩
set_option maxRecDepth 100000 in
/-- An append at a step of a region that draws its order. -/
theorem step_append_any {ops : Array Oper} {o : Oper} {a : Act} {w : World} {K : Act → World → Prop} {Q : Exit → Act → World → Prop} {E : Prop} (hgd : o.guard = none) (s x : Operand) (t : TypeId)
    (ho : o.op = .call { callee := .builtin .append, args := #[s, x], argTypes := #[t, t] }) (v u : Value) (hs : a.eval s = v) (hx : a.eval x = u) {v' : Value} {w' : World}
    (hr : (Builtin.append_ #[t, t] o.type #[v, u]).run Try.prog w = .ok v' w') (h : K (a.put o.dst v') w') :
    if Region.wanted o (yielded ops a.tmps) = true then Oper.wp Try.prog o a w K Q else E := by
  have hw : Region.wanted o (yielded ops a.tmps) = true := by simp [Region.wanted, hgd]
  rw [if_pos hw]
  unfold Oper.wp execOp
  simp only [ho, resolve, invoke, builtin, Sem.run_bind, Sem.run_pure, Result.andThen_ok, List.map_toArray, List.map_cons, List.map_nil, hs, hx, hr]
  exact h
set_option maxRecDepth 100000 in
theorem step_plain {ops : Array Oper} {o : Oper} {a : Act} {w : World} {K : Act → World → Prop} {Q : Exit → Act → World → Prop} {E : Prop} (hgd : o.guard = none) (h : Oper.wp Try.prog o a w K Q) :
    if Region.wanted o (yielded ops a.tmps) = true then Oper.wp Try.prog o a w K Q else E := by
  have hw : Region.wanted o (yielded ops a.tmps) = true := by simp [Region.wanted, hgd]
  rw [if_pos hw]
  exact h
set_option maxRecDepth 100000 in
theorem step_wanted {ops : Array Oper} {o : Oper} {a : Act} {w : World} {K : Act → World → Prop} {Q : Exit → Act → World → Prop} {E : Prop} (hw : Region.wanted o (yielded ops a.tmps) = true) (h : Oper.wp Try.prog o a w K Q) :
    if Region.wanted o (yielded ops a.tmps) = true then Oper.wp Try.prog o a w K Q else E := by
  rw [if_pos hw]
  exact h
set_option maxRecDepth 100000 in
theorem step_update {ops : Array Oper} {o : Oper} {a : Act} {w w' : World} {K : Act → World → Prop} {Q : Exit → Act → World → Prop} {E : Prop} (hgd : o.guard = none) (m x v : Operand) (t : TypeId) (hop : o.op = .mapUpdate t m x v) (hd : o.dst = none)
    (hrun : (Instr.mapUpdate t (a.eval m) (a.eval x) (a.eval v)).run Try.prog w = .ok () w') (h : K a w') :
    if Region.wanted o (yielded ops a.tmps) = true then Oper.wp Try.prog o a w K Q else E := by
  refine step_plain hgd ?_
  unfold Oper.wp
  simp [execOp, hop, hrun, Result.andThen]
  show K (a.put o.dst undef) w'
  rw [hd]
  exact h
set_option maxRecDepth 100000 in
theorem turned_below {W W' : World} {Mb : Nat} (h : W.mapTurned W' Mb) (base : Nat) (hb : base ≤ Mb) (hs : base ≤ W.heap.size) : Below base W W' :=
  (Below.refl _ _).grown h.grown hs (fun k hk => by cases hk; exact hb)
set_option maxRecDepth 100000 in
theorem turned_block {W W' : World} {Mb : Nat} (h : W.mapTurned W' Mb) {k : Nat} (hk : k ≠ Mb) : k < W.heap.size → W'.heap[k]? = W.heap[k]? := fun hl => h.grown.block k hl (fun e => hk (by cases e; rfl))
/-- All blocks that were there, but the finder's own, stay. -/
def Kept3 (W w' : World) (F Mb : Nat) : Prop := W.heap.size ≤ w'.heap.size ∧ ∀ k o, W.heap[k]? = some o → k ≠ F → k ≠ Mb → (∀ cur fz, o ≠ .cells cur 111 fz) → w'.heap[k]? = some o
set_option maxRecDepth 100000 in
theorem Kept3.refl (W : World) (F Mb : Nat) : Kept3 W W F Mb := ⟨Nat.le_refl _, fun _ _ h _ _ _ => h⟩
set_option maxRecDepth 100000 in
theorem Kept3.trans {W w1 w2 : World} {F Mb : Nat} (h1 : Kept3 W w1 F Mb) (h2 : Kept3 w1 w2 F Mb) : Kept3 W w2 F Mb :=
  ⟨Nat.le_trans h1.1 h2.1, fun k o h a b c => h2.2 k o (h1.2 k o h a b c) a b c⟩
set_option maxRecDepth 100000 in
theorem Kept3.below {W w1 w2 : World} {F Mb : Nat} (h : Kept3 W w1 F Mb) (hb : Below w1.heap.size w1 w2) : Kept3 W w2 F Mb :=
  h.trans ⟨hb.size, fun k _ h _ _ _ => (hb.block k (Array.getElem?_eq_some_iff.1 h).1).trans h⟩
set_option maxRecDepth 100000 in
theorem Kept3.turned {W w1 w2 : World} {F Mb : Nat} (h : Kept3 W w1 F Mb) (ht : w1.mapTurned w2 Mb) : Kept3 W w2 F Mb :=
  h.trans ⟨ht.grown.size, fun k _ h _ b _ => (ht.grown.block k (Array.getElem?_eq_some_iff.1 h).1 (fun e => b (by cases e; rfl))).trans h⟩
set_option maxRecDepth 100000 in
theorem Kept3.setF {W w1 : World} {F Mb : Nat} (h : Kept3 W w1 F Mb) (j : Nat) (u : Value) : Kept3 W (w1.setCell ⟨F, j, none⟩ u) F Mb :=
  h.trans ⟨by simp, fun _ _ h a _ _ => (Below.heap_setCell _ _ _ _ a).trans h⟩
set_option maxRecDepth 100000 in
theorem Kept3.grown {W w1 w2 : World} {F Mb base : Nat} {nv : Value} {n : Nat} {xs : List Value} (h : Kept3 W w1 F Mb) (hr : w1.ownsRow base 111 2 nv n xs) (hg : w1.grownBy w2 nv.ownBlock) : Kept3 W w2 F Mb := by
  refine h.trans ⟨hg.size, fun k _ hk _ _ c => ?_⟩
  refine (hg.block k (Array.getElem?_eq_some_iff.1 hk).1 (fun e => ?_)).trans hk
  rcases hr.2 with ⟨rfl, -⟩ | ⟨g, cap, cur, rfl, hg', hbk, -⟩
  · cases e
  · cases e
    rw [hbk] at hk
    exact c cur _ (Option.some.inj hk).symm
set_option maxRecDepth 100000 in
theorem FIn.mlt {W : World} {base F Mb : Nat} {nv : Value} {N : List Nd} (h : FIn W base F Mb nv N) : Mb < W.heap.size := by obtain ⟨D, h, -⟩ := h.map; exact h.lt
set_option maxRecDepth 100000 in
theorem FIn.apart {W : World} {base F Mb : Nat} {nv : Value} {N : List Nd} (h : FIn W base F Mb nv N) : F ≠ Mb ∧ some F ≠ nv.ownBlock ∧ some Mb ≠ nv.ownBlock := by
  obtain ⟨D, ⟨es, clock, h2, -⟩, -⟩ := h.map
  refine ⟨fun e => ?_, fun e => ?_, fun e => ?_⟩
  · have := h.box
    rw [e, h2] at this; cases this
  · rcases h.row.2 with ⟨hv, -⟩ | ⟨g, cap, cur, hv, hg', hbk, -⟩
    · rw [hv] at e; cases e
    · rw [hv] at e
      cases e
      have := h.box
      rw [hbk] at this; cases this
  · rcases h.row.2 with ⟨hv, -⟩ | ⟨g, cap, cur, hv, hg', hbk, -⟩
    · rw [hv] at e; cases e
    · rw [hv] at e
      cases e
      rw [hbk] at h2; cases h2
set_option maxRecDepth 100000 in
theorem FIn.below {W W' : World} {base F Mb : Nat} {nv : Value} {N : List Nd} (h : FIn W base F Mb nv N) (hb : Below W.heap.size W W') : FIn W' base F Mb nv N := by
  obtain ⟨D, ⟨es, clock, h1, h2⟩, hv⟩ := h.map
  refine ⟨(hb.block F h.lt).trans h.box, ?_, ⟨D, ⟨es, clock, (hb.block Mb (Array.getElem?_eq_some_iff.1 h1).1).trans h1, h2⟩, hv⟩, h.small⟩
  obtain ⟨h0, h | ⟨g, cap, cur, hv, hg, hh, h1⟩⟩ := h.row
  · exact ⟨h0, Or.inl h⟩
  · exact ⟨h0, Or.inr ⟨g, cap, cur, hv, hg, (hb.block g (Array.getElem?_eq_some_iff.1 hh).1).trans hh, h1⟩⟩
set_option maxRecDepth 100000 in
theorem ViewE.grow {D : DataW Unit} {N : List Nd} (hv : ViewE D N) (hD : IsMap D) (ht : TreeOk N) (hs : N.length ≤ 1000000) {i : Nat} {x : Nd} (hx : N[i]? = some x) {b : Int} (hbb : 0 ≤ b ∧ b ≤ 255) (hno : ∀ t, ¬ EdgeTo N i b t) (e : Nd) (he : e.lab = b :: x.lab) :
    ViewE (D.put (keyE i b) (.lit (.int .i64 (N.length : Int)))) (N ++ [e]) := by
  have hi := (List.getElem?_eq_some_iff.1 hx).1
  have hK : WideAt.IsKeyLit (keyE i b) := trivial
  intro i' b' hi' hb'
  by_cases hs2 : i' = i ∧ b' = b
  · obtain ⟨rfl, rfl⟩ := hs2
    have hE : EdgeTo (N ++ [e]) i' b' N.length := ⟨x, e, get_old hx _, get_new N e, he⟩
    refine ⟨fun j hj => ?_, fun h => absurd hE (h _)⟩
    have hj : j = N.length := by
      obtain ⟨u, v, a1, a2, a3⟩ := hj
      rcases get_snoc a1 with a1 | ⟨a1, -⟩
      · rw [hx] at a1
        obtain rfl := Option.some.inj a1
        rcases get_snoc a2 with a2 | ⟨a2, -⟩
        · exact absurd ⟨x, v, hx, a2, a3⟩ (hno j)
        · exact a2
      · omega
    subst hj
    exact ⟨has_put_same hD hK _, fun z => atKey_put_same hD hK _ z⟩
  · have hne : keyE i' b' ≠ keyE i b := fun h => by
      have h2 := keyE_inj (n := (i' : Int)) (n' := (i : Int)) (by unfold I64e; omega) hb' (by unfold I64e; omega) hbb h
      exact hs2 ⟨by omega, h2.2⟩
    have hfw : ∀ j, EdgeTo (N ++ [e]) i' b' j → EdgeTo N i' b' j := fun j hj => by
      obtain ⟨u, v, a1, a2, a3⟩ := hj
      rcases get_snoc a1 with c1 | ⟨-, c1⟩ <;> rcases get_snoc a2 with c2 | ⟨-, c2⟩
      · exact ⟨u, v, c1, c2, a3⟩
      · rw [c2, he] at a3
        simp only [List.cons.injEq] at a3
        exact absurd ⟨ht.once _ _ _ _ c1 hx a3.2.symm, a3.1.symm⟩ hs2
      · rw [c1] at a3
        obtain ⟨j', y, b1, b2⟩ := ht.tail j v b' e.lab c2 a3
        exact absurd ⟨x, y, hx, b1, b2.trans he⟩ (hno j')
      · rw [c1, c2] at a3
        have := congrArg List.length a3
        simp at this
    obtain ⟨h1, h2⟩ := hv i' b' hi' hb'
    refine ⟨fun j hj => ?_, fun h => ?_⟩
    · obtain ⟨c1, c2⟩ := h1 j (hfw j hj)
      exact ⟨(has_put_other hne _).trans c1, fun z => (atKey_put_other hne _ z).trans (c2 z)⟩
    · rw [has_put_other hne _]
      exact h2 (fun j ⟨u, v, a1, a2, a3⟩ => h j ⟨u, v, get_old a1 _, get_old a2 _, a3⟩)
set_option maxRecDepth 100000 in
theorem infoNd : (Try.prog.info? 111).map (fun i => (i.zero, i.size, i.bytes)) = some (some (.agg #[.int .i64 0, .int .i64 0]), 2, 16) := by kernel_rfl
set_option maxRecDepth 100000 in
theorem append_node {W : World} {base : Nat} {sv : Value} {N : List Nd} (h : W.ownsRow base 111 2 sv N.length (flatN N)) {X : Nat} {bk lg : Int} (hX : W.heap[X]? = some (.cells #[.int .i64 bk, .int .i64 lg] 111)) (hb : base ≤ W.heap.size) (hl : N.length ≤ 100000) (lab : List Int) {kb kl : Nat} (e1 : bk = kb) (e2 : lg = kl) (ty : TypeId) :
    ∃ g c n1 W', (Builtin.append_ #[99, 99] ty #[sv, .slice (some ⟨X, 0, none⟩) 1 1]).run Try.prog W = .ok (.slice (some ⟨g, 0, none⟩) n1 c) W' ∧ Hid (n1 = N.length + 1) ∧ W'.ownsRow base 111 2 (.slice (some ⟨g, 0, none⟩) n1 c) (N ++ [(⟨lab, kb, kl⟩ : Nd)]).length (flatN (N ++ [(⟨lab, kb, kl⟩ : Nd)])) ∧ W.grownBy W' sv.ownBlock := by
  obtain ⟨i0, hi, hz0, hz1, hz2⟩ := info_parts infoNd
  obtain ⟨v', w', h2, h3, h4, -⟩ := run_append_any W base 99 ty 111 i0 _ 2 16 Try.underlying99 hi hz0 hz1 hz2 rfl (by omega) sv N.length _ h (some ⟨X, 0, none⟩) 1 1 [.int .i64 bk, .int .i64 lg] rfl (fun e => by cases e)
    (fun ad had j u hu => by
      cases had
      match j, hu with
      | 0, hu => simp at hu; subst hu; rw [Addr.add_lit]; exact cell_of_row _ _ _ _ _ _ hX
      | 1, hu => simp at hu; subst hu; rw [Addr.add_lit]; exact cell_of_row _ _ _ _ _ _ hX
      | j + 2, hu => simp at hu)
    (fun u hu => by simp at hu; rcases hu with rfl | rfl <;> rfl) (by unfold maxLen; omega) (by omega) hb
  have h3' : w'.ownsRow base 111 2 v' (N ++ [(⟨lab, kb, kl⟩ : Nd)]).length (flatN (N ++ [(⟨lab, kb, kl⟩ : Nd)])) := by
    rw [List.length_append, flatN_app, show flatN [⟨lab, kb, kl⟩] = [.int .i64 bk, .int .i64 lg] by simp [flatN, e1, e2]]
    exact h3
  rcases h3'.2 with ⟨-, h0⟩ | ⟨g, cap, cur, rfl, -⟩
  · simp at h0
  · exact ⟨g, cap, _, w', h2, (by show _ = _; simp), h3', h4⟩
set_option maxRecDepth 100000 in
theorem FIn.cell1 {W : World} {base F Mb g n cap : Nat} {N : List Nd} (h : FIn W base F Mb (.slice (some ⟨g, 0, none⟩) n cap) N) {k : Nat} {x : Nd} (hx : N[k]? = some x) : W.cell? ⟨g, k * 2 + 1, none⟩ = some (.int .i64 x.long) := by
  obtain ⟨g', cap', e, -, -, c⟩ := h.node hx
  injection e with e
  injection e with e
  injection e with e
  subst e
  exact c
/-- The node is there, the edge isn't yet. -/
def Mid7 (W w7 : World) (base F Mb : Nat) (N : List Nd) (e : Nd) (g c n : Nat) : Prop := Hid (n = N.length + 1) ∧ w7.heap[F]? = some (.cells #[.slice (some ⟨g, 0, none⟩) n c, .map (some Mb)] 102) ∧ w7.ownsRow base 111 2 (.slice (some ⟨g, 0, none⟩) n c) (N ++ [e]).length (flatN (N ++ [e])) ∧ (∃ D : DataW Unit, w7.ownsMap Try.prog 135 (plainElem Try.prog 3) Mb N.length D ∧ ViewE D N) ∧ Kept3 W w7 F Mb ∧ Below base W w7
set_option maxRecDepth 100000 in
theorem Mid7.mk {W w5 w6 : World} {base F Mb : Nat} {nv : Value} {N : List Nd} (h : FIn w5 base F Mb nv N) (hk : Kept3 W w5 F Mb) (hb : Below base W w5) (hbF : base ≤ F) (hbs : base ≤ w5.heap.size) {e : Nd} {g c n : Nat} (hn : Hid (n = N.length + 1)) (hown : w6.ownsRow base 111 2 (.slice (some ⟨g, 0, none⟩) n c) (N ++ [e]).length (flatN (N ++ [e]))) (hg : w5.grownBy w6 nv.ownBlock) :
    w6.heap[F]? = some (.cells #[nv, .map (some Mb)] 102) ∧ Mid7 W (w6.setCell ⟨F, 0, none⟩ (.slice (some ⟨g, 0, none⟩) n c)) base F Mb N e g c n := by
  obtain ⟨a1, a2, a3⟩ := h.apart
  have hbox6 := (hg.block F h.lt a2).trans h.box
  have hgF : g ≠ F := by
    intro e'
    rcases hown.2 with ⟨hv, -⟩ | ⟨g', cap, cur, hv, hg', hbk, -⟩
    · cases hv
    · injection hv with hv
      injection hv with hv
      injection hv with hv
      rw [← hv, e', hbox6] at hbk
      cases hbk
  refine ⟨hbox6, hn, heap_setCell_same _ _ 0 _ _ _ hbox6, ?_, ?_, (hk.grown h.row hg).setF _ _, (hb.grown hg hbs (fun q hq => (h.row.lt q hq).1)).setCell hbF _⟩
  · obtain ⟨h0, hh | ⟨g', cap, cur, hv, hg', hbk, h1⟩⟩ := hown
    · exact ⟨h0, Or.inl hh⟩
    · refine ⟨h0, Or.inr ⟨g', cap, cur, hv, hg', ?_, h1⟩⟩
      injection hv with hv
      injection hv with hv
      injection hv with hv
      rw [Below.heap_setCell _ _ _ _ (by rw [← hv]; exact hgF)]
      exact hbk
  · obtain ⟨D, ⟨es, clock, h1, h2⟩, hv⟩ := h.map
    have hM6 := (hg.block Mb (Array.getElem?_eq_some_iff.1 h1).1 a3).trans h1
    exact ⟨D, ⟨es, clock, (Below.heap_setCell _ _ _ _ (Ne.symm a1)).trans hM6, h2⟩, hv⟩
/-- What grow leaves. -/
def Grown (W w' : World) (base F Mb : Nat) (N : List Nd) (M : List (List Int)) (r : Nat) (q : List Int) (b : Int) (j : Nat) : Prop := ∃ (N' : List Nd) (nv' : Value), FIn w' base F Mb nv' N' ∧ TreeOk N' ∧ Known N' M ∧ Upto N' (r + 1) ∧ (∃ y, N'[j]? = some y ∧ y.lab = b :: q) ∧ (∀ (i : Nat) (y : Nd), N[i]? = some y → N'[i]? = some y) ∧ N'.length ≤ N.length + 1 ∧ Kept3 W w' F Mb ∧ Below base W w'
set_option maxRecDepth 100000 in
set_option maxHeartbeats 1600000 in
theorem grow_any {W : World} {base F Mb : Nat} {nv : Value} {N : List Nd} (h : FIn W base F Mb nv N) (ht : TreeOk N) {M : List (List Int)} (hM : Known N M) {r : Nat} (hu : Upto N (r + 1)) (hMr : ∀ m ∈ M, m.length ≤ r) {k : Nat} {x : Nd} (hx : N[k]? = some x) (hl : x.lab.length = r) (hN : N.length < 100000) (hbase : base ≤ F ∧ base ≤ Mb) (b : Int) (hbb : 0 ≤ b ∧ b ≤ 255) :
    Calls Try.prog 53 #[.pointer (some ⟨F, 0, none⟩), .int .i64 (k : Int), .int .u8 b] W fun e w' => ∃ j : Nat, e = .returned (.int .i64 (j : Int)) ∧ Grown W w' base F Mb N M r x.lab b j := by
  obtain ⟨z0, z1, zf⟩ := h.cells
  have hF := h.lt
  have hMl := h.mlt
  have hap := h.apart
  have hk := (List.getElem?_eq_some_iff.1 hx).1
  obtain ⟨c, ok, hrun, hyes, hno⟩ := h.look k hk b hbb
  cases ok
  · have hno := hno rfl
    clear hyes
    go_enter Try.func53, Try.ntmps53
    go_upto_if 24 with fail
    go_cut [9] from 24 to 35 (fun s9 wy => ∃ (bk : Nat) (y : Nd) (wx : World), wx = wy ∧ s9 = .int .i64 (bk : Int) ∧ N[bk]? = some y ∧ y.lab <+: b :: x.lab ∧ y.lab.length < r + 1 ∧ (∀ (j : Nat) (z : Nd), N[j]? = some z → z.lab <+: b :: x.lab → z.lab.length < r + 1 → z.lab.length ≤ y.lab.length) ∧ wx = W)
    case first =>
      by_cases hk0 : k = 0
      · subst hk0
        obtain ⟨y, y1, y2, y3, y4⟩ := root_best ht hx b
        rw [hl] at y3 y4
        have y4 : Hid (∀ (j : Nat) (z : Nd), N[j]? = some z → z.lab <+: b :: x.lab → z.lab.length < r + 1 → z.lab.length ≤ y.lab.length) := y4
        go_wp2_with fail
        go_meet
        exact ⟨0, y, _, rfl, rfl, y1, y2, y3, y4.out, rfl⟩
      · obtain ⟨z, z2, -, -, -⟩ := ht.back k x hx hk0
        have CF : Hid (Calls Try.prog 54 #[.pointer (some ⟨F, 0, none⟩), .int .i64 (x.back : Int), .int .u8 b] W fun e w' => (∃ r : Nat, e = .returned (.int .i64 (r : Int)) ∧ Best N (b :: z.lab) r) ∧ W = w') := follow_any h ht ⟨z, z2, List.prefix_refl _, fun _ _ _ hp => hp.length_le⟩ b hbb
        obtain ⟨g, cap, rfl, -, c0, c1⟩ := h.node hx
        go_wp2_with fail
        refine CF.out.mono ?_
        rintro e w' ⟨⟨q, rfl, hq⟩, rfl⟩
        clear CF
        obtain ⟨y, y1, y2, y3, y4⟩ := back_best ht hx hk0 z2 hq
        rw [hl] at y3 y4
        have y4 : Hid (∀ (j : Nat) (z : Nd), N[j]? = some z → z.lab <+: b :: x.lab → z.lab.length < r + 1 → z.lab.length ≤ y.lab.length) := y4
        go_wp2_with fail
        go_meet
        exact ⟨q, y, _, rfl, rfl, y1, y2, y3, y4.out, rfl⟩
    case rest =>
      obtain ⟨bk, y, wx, rfl, rfl, y1, y2, y3, y4, rfl⟩ := hcut
      have y4 : Hid (∀ (j : Nat) (z : Nd), N[j]? = some z → z.lab <+: b :: x.lab → z.lab.length < r + 1 → z.lab.length ≤ y.lab.length) := y4
      go_upto_region 7 with fail
      go_cut [] from 36 to 54 (fun wy => ∃ (w7 : World) (g6 c6 n1 : Nat), w7 = wy ∧ Mid7 wx w7 base F Mb N ⟨b :: x.lab, bk, y.long⟩ g6 c6 n1)
      case first =>
        obtain ⟨g, cap, rfl, hbkl, -, -⟩ := h.node y1
        have hFc := h.below (Below.drew (Below.refl _ _))
        have hKc := (Kept3.refl wx F Mb).below (Below.drew (Below.refl _ _))
        have hBc := Below.drew (Below.refl base wx)
        have hbs : base ≤ wx.drew.heap.size := Nat.le_trans hbase.1 (Nat.le_of_lt hF)
        have c1 := h.cell1 y1
        have hgl := World.block_lt_of_cell? _ _ c1
        clear h z1 zf hrun hno y4 y2 y3
        refine wp_region_held_drew (S := fun _ => True) (by kernel_rfl) trivial (fun hSS => ?_)
        refine wpAnyH_take (i := 0) (v := ?_) rfl (by kernel_rfl) (by kernel_rfl) (by kernel_rfl) (fun _ _ _ h => h) (Or.inl ⟨by rfl, ?_⟩) hSS ?_
        rotate_left
        · intro wz hSz
          go_simp
          try with_reducible rfl
        simp only [List.getElem_toArray, List.getElem_cons_zero, Act.put, List.setIfInBounds_toArray, List.set_cons_zero, List.set_cons_succ]
        refine wpAnyH_take (i := 1) (v := ?_) rfl (by kernel_rfl) (by kernel_rfl) (by kernel_rfl) (fun _ _ _ h => h) (Or.inl ⟨by rfl, ?_⟩) hSS ?_
        rotate_left
        · intro wz hSz
          go_simp
          try with_reducible rfl
        simp only [List.getElem_toArray, List.getElem_cons_zero, List.getElem_cons_succ, Act.put, List.setIfInBounds_toArray, List.set_cons_zero, List.set_cons_succ]
        refine wpAnyH_take (i := 2) (v := ?_) rfl (by kernel_rfl) (by kernel_rfl) (by kernel_rfl) (fun _ _ _ h => h) (Or.inl ⟨by rfl, ?_⟩) hSS ?_
        rotate_left
        · intro wz hSz
          go_simp
          try with_reducible rfl
        simp only [List.getElem_toArray, List.getElem_cons_zero, List.getElem_cons_succ, Act.put, List.setIfInBounds_toArray, List.set_cons_zero, List.set_cons_succ]
        refine wpAnyH_take (i := 3) (v := ?_) rfl (by kernel_rfl) (by kernel_rfl) (by kernel_rfl) (fun _ _ _ h => h) (Or.inl ⟨by rfl, ?_⟩) hSS ?_
        rotate_left
        · intro wz hSz
          go_simp
          try with_reducible rfl
        simp only [List.getElem_toArray, List.getElem_cons_zero, List.getElem_cons_succ, Act.put, List.setIfInBounds_toArray, List.set_cons_zero, List.set_cons_succ]
        refine wpAnyH_take (i := 5) (v := ?_) rfl (by kernel_rfl) (by kernel_rfl) (by kernel_rfl) (fun _ _ _ h => h) (Or.inl ⟨by rfl, ?_⟩) hSS ?_
        rotate_left
        · intro wz hSz
          go_simp
          try with_reducible rfl
        simp only [List.getElem_toArray, List.getElem_cons_zero, List.getElem_cons_succ, Act.put, List.setIfInBounds_toArray, List.set_cons_zero, List.set_cons_succ]
        refine wpAnyH_take (i := 6) (v := ?_) rfl (by kernel_rfl) (by kernel_rfl) (by kernel_rfl) (fun _ _ _ h => h) (Or.inl ⟨by rfl, ?_⟩) hSS ?_
        rotate_left
        · intro wz hSz
          go_simp
          try with_reducible rfl
        simp only [List.getElem_toArray, List.getElem_cons_zero, List.getElem_cons_succ, Act.put, List.setIfInBounds_toArray, List.set_cons_zero, List.set_cons_succ]
        refine wpAnyH_take (i := 7) (v := ?_) rfl (by kernel_rfl) (by kernel_rfl) (by kernel_rfl) (fun _ _ _ h => h) (Or.inl ⟨by rfl, ?_⟩) hSS ?_
        rotate_left
        · intro wz hSz
          go_simp
          try with_reducible rfl
        simp only [List.getElem_toArray, List.getElem_cons_zero, List.getElem_cons_succ, Act.put, List.setIfInBounds_toArray, List.set_cons_zero, List.set_cons_succ]
        refine wpAnyH_take (i := 8) (v := ?_) rfl (by kernel_rfl) (by kernel_rfl) (by kernel_rfl) (fun _ _ _ h => h) (Or.inl ⟨by rfl, ?_⟩) hSS ?_
        rotate_left
        · intro wz hSz
          go_simp
          try with_reducible rfl
        simp only [List.getElem_toArray, List.getElem_cons_zero, List.getElem_cons_succ, Act.put, List.setIfInBounds_toArray, List.set_cons_zero, List.set_cons_succ]
        refine wpAnyH_take (i := 10) (v := ?_) rfl (by kernel_rfl) (by kernel_rfl) (by kernel_rfl) (fun _ _ _ h => h) (Or.inl ⟨by rfl, ?_⟩) hSS ?_
        rotate_left
        · intro wz hSz
          go_simp
          try with_reducible rfl
        simp only [List.getElem_toArray, List.getElem_cons_zero, List.getElem_cons_succ, Act.put, List.setIfInBounds_toArray, List.set_cons_zero, List.set_cons_succ]
        refine wpAnyH_ready (rs := [4, 9]) (by kernel_rfl) (by simp) (AllReadyH.cons rfl (fun K hK => ?_) (AllReadyH.cons rfl (fun K hK => ?_) AllReadyH.nil))
        · skip
          go_simp
          refine hK.out _ _ trivial (fun hSS => ?_)
          clear hK
          refine wpAnyH_ready (rs := [9]) (by kernel_rfl) (by simp) (AllReadyH.cons rfl (fun K hK => ?_) AllReadyH.nil)
          go_simp
          refine hK.out _ _ trivial (fun hSS => ?_)
          clear hK
          refine wpAnyH_take (i := 11) (v := ?_) rfl (by kernel_rfl) (by kernel_rfl) (by kernel_rfl) (fun _ _ _ h => h) (Or.inl ⟨by rfl, ?_⟩) hSS ?_
          rotate_left
          · intro wz hSz
            go_simp
            try with_reducible rfl
          simp only [List.getElem_toArray, List.getElem_cons_zero, List.getElem_cons_succ, Act.put, List.setIfInBounds_toArray, List.set_cons_zero, List.set_cons_succ]
          refine wpAnyH_take (i := 12) (v := ?_) rfl (by kernel_rfl) (by kernel_rfl) (by kernel_rfl) (fun _ _ _ h => h) (Or.inl ⟨by rfl, ?_⟩) hSS ?_
          rotate_left
          · intro wz hSz
            go_simp
            try with_reducible rfl
          simp only [List.getElem_toArray, List.getElem_cons_zero, List.getElem_cons_succ, Act.put, List.setIfInBounds_toArray, List.set_cons_zero, List.set_cons_succ]
          refine wpAnyH_ready (rs := [13]) (by kernel_rfl) (by simp) (AllReadyH.cons rfl (fun K hK => ?_) AllReadyH.nil)
          go_simp
          refine hK.out _ _ trivial (fun hSS => ?_)
          clear hK
          refine wpAnyH_take (i := 14) (v := ?_) rfl (by kernel_rfl) (by kernel_rfl) (by kernel_rfl) (fun _ _ _ h => h) (Or.inl ⟨by rfl, ?_⟩) hSS ?_
          rotate_left
          · intro wz hSz
            go_simp
            try with_reducible rfl
          simp only [List.getElem_toArray, List.getElem_cons_zero, List.getElem_cons_succ, Act.put, List.setIfInBounds_toArray, List.set_cons_zero, List.set_cons_succ]
          refine wpAnyH_ready (rs := [15]) (by kernel_rfl) (by simp) (AllReadyH.cons rfl (fun K hK => ?_) AllReadyH.nil)
          go_simp
          refine hK.out _ _ trivial (fun hSS => ?_)
          clear hK
          have hbb := (Below.refl wx.drew.heap.size wx.drew).alloc (Nat.le_refl _) (.cells #[.int .i64 (bk : Int), .int .i64 (y.long : Int)] 111)
          have hX := heap_alloc_new wx.drew (.cells #[.int .i64 (bk : Int), .int .i64 (y.long : Int)] 111)
          have hFc := hFc.below hbb
          have hKc := hKc.below hbb
          have hBc := hBc.trans (hbb.mono hbs)
          have hbs3 := Nat.le_trans hbs hbb.size
          refine wpAnyH_ready (rs := [16]) (by kernel_rfl) (by simp) (AllReadyH.cons rfl (fun K hK => ?_) AllReadyH.nil)
          obtain ⟨g6, c6, n1, w6, hr6, hn1, hown6, hg6⟩ := append_node hFc.row hX hbs3 (by omega) (b :: x.lab) (kb := bk) (kl := y.long) rfl rfl 99
          refine step_append_any rfl (.tmp 40) (.tmp 51) 99 rfl _ _ rfl rfl hr6 ?_
          refine hK.out _ _ trivial (fun hSS => ?_)
          clear hK
          obtain ⟨hbox6, hm7⟩ := Mid7.mk hFc hKc hBc hbase.1 hbs3 hn1 hown6 hg6
          have z06 := cell_of_row _ _ 0 _ _ _ hbox6
          have zf6 : w6.frozen? ⟨F, 0, none⟩ = false := frozen_of_row _ _ _ _ _ hbox6
          clear hFc hKc hBc hX hr6 hown6 hg6
          refine wpAnyH_take (i := 17) (v := ?_) rfl (by kernel_rfl) (by kernel_rfl) (by kernel_rfl) (fun _ _ _ h => h) (Or.inl ⟨by rfl, ?_⟩) hSS ?_
          rotate_left
          · intro wz hSz
            go_simp
            try with_reducible rfl
          simp only [List.getElem_toArray, List.getElem_cons_zero, List.getElem_cons_succ, Act.put, List.setIfInBounds_toArray, List.set_cons_zero, List.set_cons_succ]
          refine wpAnyH_take (i := 18) (v := ?_) rfl (by kernel_rfl) (by kernel_rfl) (by kernel_rfl) (fun _ _ _ h => h) (Or.inl ⟨by rfl, ?_⟩) hSS ?_
          rotate_left
          · intro wz hSz
            go_simp
            try with_reducible rfl
          simp only [List.getElem_toArray, List.getElem_cons_zero, List.getElem_cons_succ, Act.put, List.setIfInBounds_toArray, List.set_cons_zero, List.set_cons_succ]
          refine wpAnyH_ready (rs := [19]) (by kernel_rfl) (by simp) (AllReadyH.cons rfl (fun K hK => ?_) AllReadyH.nil)
          go_simp
          refine hK.out _ _ trivial (fun hSS => ?_)
          clear hK
          refine wpAnyH_done (by kernel_rfl) ?_ _
          go_wp2_with fail
          go_meet
          exact ⟨_, g6, c6, n1, rfl, hm7⟩
        · skip
          go_simp
          refine hK.out _ _ trivial (fun hSS => ?_)
          clear hK
          refine wpAnyH_take (i := 11) (v := ?_) rfl (by kernel_rfl) (by kernel_rfl) (by kernel_rfl) (fun _ _ _ h => h) (Or.inl ⟨by rfl, ?_⟩) hSS ?_
          rotate_left
          · intro wz hSz
            go_simp
            try with_reducible rfl
          simp only [List.getElem_toArray, List.getElem_cons_zero, List.getElem_cons_succ, Act.put, List.setIfInBounds_toArray, List.set_cons_zero, List.set_cons_succ]
          refine wpAnyH_take (i := 12) (v := ?_) rfl (by kernel_rfl) (by kernel_rfl) (by kernel_rfl) (fun _ _ _ h => h) (Or.inl ⟨by rfl, ?_⟩) hSS ?_
          rotate_left
          · intro wz hSz
            go_simp
            try with_reducible rfl
          simp only [List.getElem_toArray, List.getElem_cons_zero, List.getElem_cons_succ, Act.put, List.setIfInBounds_toArray, List.set_cons_zero, List.set_cons_succ]
          refine wpAnyH_ready (rs := [4, 13]) (by kernel_rfl) (by simp) (AllReadyH.cons rfl (fun K hK => ?_) (AllReadyH.cons rfl (fun K hK => ?_) AllReadyH.nil))
          · skip
            go_simp
            refine hK.out _ _ trivial (fun hSS => ?_)
            clear hK
            refine wpAnyH_ready (rs := [13]) (by kernel_rfl) (by simp) (AllReadyH.cons rfl (fun K hK => ?_) AllReadyH.nil)
            go_simp
            refine hK.out _ _ trivial (fun hSS => ?_)
            clear hK
            refine wpAnyH_take (i := 14) (v := ?_) rfl (by kernel_rfl) (by kernel_rfl) (by kernel_rfl) (fun _ _ _ h => h) (Or.inl ⟨by rfl, ?_⟩) hSS ?_
            rotate_left
            · intro wz hSz
              go_simp
              try with_reducible rfl
            simp only [List.getElem_toArray, List.getElem_cons_zero, List.getElem_cons_succ, Act.put, List.setIfInBounds_toArray, List.set_cons_zero, List.set_cons_succ]
            refine wpAnyH_ready (rs := [15]) (by kernel_rfl) (by simp) (AllReadyH.cons rfl (fun K hK => ?_) AllReadyH.nil)
            go_simp
            refine hK.out _ _ trivial (fun hSS => ?_)
            clear hK
            have hbb := (Below.refl wx.drew.heap.size wx.drew).alloc (Nat.le_refl _) (.cells #[.int .i64 (bk : Int), .int .i64 (y.long : Int)] 111)
            have hX := heap_alloc_new wx.drew (.cells #[.int .i64 (bk : Int), .int .i64 (y.long : Int)] 111)
            have hFc := hFc.below hbb
            have hKc := hKc.below hbb
            have hBc := hBc.trans (hbb.mono hbs)
            have hbs3 := Nat.le_trans hbs hbb.size
            refine wpAnyH_ready (rs := [16]) (by kernel_rfl) (by simp) (AllReadyH.cons rfl (fun K hK => ?_) AllReadyH.nil)
            obtain ⟨g6, c6, n1, w6, hr6, hn1, hown6, hg6⟩ := append_node hFc.row hX hbs3 (by omega) (b :: x.lab) (kb := bk) (kl := y.long) rfl rfl 99
            refine step_append_any rfl (.tmp 40) (.tmp 51) 99 rfl _ _ rfl rfl hr6 ?_
            refine hK.out _ _ trivial (fun hSS => ?_)
            clear hK
            obtain ⟨hbox6, hm7⟩ := Mid7.mk hFc hKc hBc hbase.1 hbs3 hn1 hown6 hg6
            have z06 := cell_of_row _ _ 0 _ _ _ hbox6
            have zf6 : w6.frozen? ⟨F, 0, none⟩ = false := frozen_of_row _ _ _ _ _ hbox6
            clear hFc hKc hBc hX hr6 hown6 hg6
            refine wpAnyH_take (i := 17) (v := ?_) rfl (by kernel_rfl) (by kernel_rfl) (by kernel_rfl) (fun _ _ _ h => h) (Or.inl ⟨by rfl, ?_⟩) hSS ?_
            rotate_left
            · intro wz hSz
              go_simp
              try with_reducible rfl
            simp only [List.getElem_toArray, List.getElem_cons_zero, List.getElem_cons_succ, Act.put, List.setIfInBounds_toArray, List.set_cons_zero, List.set_cons_succ]
            refine wpAnyH_take (i := 18) (v := ?_) rfl (by kernel_rfl) (by kernel_rfl) (by kernel_rfl) (fun _ _ _ h => h) (Or.inl ⟨by rfl, ?_⟩) hSS ?_
            rotate_left
            · intro wz hSz
              go_simp
              try with_reducible rfl
            simp only [List.getElem_toArray, List.getElem_cons_zero, List.getElem_cons_succ, Act.put, List.setIfInBounds_toArray, List.set_cons_zero, List.set_cons_succ]
            refine wpAnyH_ready (rs := [19]) (by kernel_rfl) (by simp) (AllReadyH.cons rfl (fun K hK => ?_) AllReadyH.nil)
            go_simp
            refine hK.out _ _ trivial (fun hSS => ?_)
            clear hK
            refine wpAnyH_done (by kernel_rfl) ?_ _
            go_wp2_with fail
            go_meet
            exact ⟨_, g6, c6, n1, rfl, hm7⟩
          · skip
            go_simp
            refine hK.out _ _ trivial (fun hSS => ?_)
            clear hK
            refine wpAnyH_take (i := 14) (v := ?_) rfl (by kernel_rfl) (by kernel_rfl) (by kernel_rfl) (fun _ _ _ h => h) (Or.inl ⟨by rfl, ?_⟩) hSS ?_
            rotate_left
            · intro wz hSz
              go_simp
              try with_reducible rfl
            simp only [List.getElem_toArray, List.getElem_cons_zero, List.getElem_cons_succ, Act.put, List.setIfInBounds_toArray, List.set_cons_zero, List.set_cons_succ]
            refine wpAnyH_ready (rs := [4, 15]) (by kernel_rfl) (by simp) (AllReadyH.cons rfl (fun K hK => ?_) (AllReadyH.cons rfl (fun K hK => ?_) AllReadyH.nil))
            · skip
              go_simp
              refine hK.out _ _ trivial (fun hSS => ?_)
              clear hK
              refine wpAnyH_ready (rs := [15]) (by kernel_rfl) (by simp) (AllReadyH.cons rfl (fun K hK => ?_) AllReadyH.nil)
              go_simp
              refine hK.out _ _ trivial (fun hSS => ?_)
              clear hK
              have hbb := (Below.refl wx.drew.heap.size wx.drew).alloc (Nat.le_refl _) (.cells #[.int .i64 (bk : Int), .int .i64 (y.long : Int)] 111)
              have hX := heap_alloc_new wx.drew (.cells #[.int .i64 (bk : Int), .int .i64 (y.long : Int)] 111)
              have hFc := hFc.below hbb
              have hKc := hKc.below hbb
              have hBc := hBc.trans (hbb.mono hbs)
              have hbs3 := Nat.le_trans hbs hbb.size
              refine wpAnyH_ready (rs := [16]) (by kernel_rfl) (by simp) (AllReadyH.cons rfl (fun K hK => ?_) AllReadyH.nil)
              obtain ⟨g6, c6, n1, w6, hr6, hn1, hown6, hg6⟩ := append_node hFc.row hX hbs3 (by omega) (b :: x.lab) (kb := bk) (kl := y.long) rfl rfl 99
              refine step_append_any rfl (.tmp 40) (.tmp 51) 99 rfl _ _ rfl rfl hr6 ?_
              refine hK.out _ _ trivial (fun hSS => ?_)
              clear hK
              obtain ⟨hbox6, hm7⟩ := Mid7.mk hFc hKc hBc hbase.1 hbs3 hn1 hown6 hg6
              have z06 := cell_of_row _ _ 0 _ _ _ hbox6
              have zf6 : w6.frozen? ⟨F, 0, none⟩ = false := frozen_of_row _ _ _ _ _ hbox6
              clear hFc hKc hBc hX hr6 hown6 hg6
              refine wpAnyH_take (i := 17) (v := ?_) rfl (by kernel_rfl) (by kernel_rfl) (by kernel_rfl) (fun _ _ _ h => h) (Or.inl ⟨by rfl, ?_⟩) hSS ?_
              rotate_left
              · intro wz hSz
                go_simp
                try with_reducible rfl
              simp only [List.getElem_toArray, List.getElem_cons_zero, List.getElem_cons_succ, Act.put, List.setIfInBounds_toArray, List.set_cons_zero, List.set_cons_succ]
              refine wpAnyH_take (i := 18) (v := ?_) rfl (by kernel_rfl) (by kernel_rfl) (by kernel_rfl) (fun _ _ _ h => h) (Or.inl ⟨by rfl, ?_⟩) hSS ?_
              rotate_left
              · intro wz hSz
                go_simp
                try with_reducible rfl
              simp only [List.getElem_toArray, List.getElem_cons_zero, List.getElem_cons_succ, Act.put, List.setIfInBounds_toArray, List.set_cons_zero, List.set_cons_succ]
              refine wpAnyH_ready (rs := [19]) (by kernel_rfl) (by simp) (AllReadyH.cons rfl (fun K hK => ?_) AllReadyH.nil)
              go_simp
              refine hK.out _ _ trivial (fun hSS => ?_)
              clear hK
              refine wpAnyH_done (by kernel_rfl) ?_ _
              go_wp2_with fail
              go_meet
              exact ⟨_, g6, c6, n1, rfl, hm7⟩
            · skip
              go_simp
              refine hK.out _ _ trivial (fun hSS => ?_)
              clear hK
              have hbb := (Below.refl wx.drew.heap.size wx.drew).alloc (Nat.le_refl _) (.cells #[.int .i64 (bk : Int), .int .i64 (y.long : Int)] 111)
              have hX := heap_alloc_new wx.drew (.cells #[.int .i64 (bk : Int), .int .i64 (y.long : Int)] 111)
              have hFc := hFc.below hbb
              have hKc := hKc.below hbb
              have hBc := hBc.trans (hbb.mono hbs)
              have hbs3 := Nat.le_trans hbs hbb.size
              refine wpAnyH_ready (rs := [4]) (by kernel_rfl) (by simp) (AllReadyH.cons rfl (fun K hK => ?_) AllReadyH.nil)
              go_simp
              refine hK.out _ _ trivial (fun hSS => ?_)
              clear hK
              refine wpAnyH_ready (rs := [16]) (by kernel_rfl) (by simp) (AllReadyH.cons rfl (fun K hK => ?_) AllReadyH.nil)
              obtain ⟨g6, c6, n1, w6, hr6, hn1, hown6, hg6⟩ := append_node hFc.row hX hbs3 (by omega) (b :: x.lab) (kb := bk) (kl := y.long) rfl rfl 99
              refine step_append_any rfl (.tmp 40) (.tmp 51) 99 rfl _ _ rfl rfl hr6 ?_
              refine hK.out _ _ trivial (fun hSS => ?_)
              clear hK
              obtain ⟨hbox6, hm7⟩ := Mid7.mk hFc hKc hBc hbase.1 hbs3 hn1 hown6 hg6
              have z06 := cell_of_row _ _ 0 _ _ _ hbox6
              have zf6 : w6.frozen? ⟨F, 0, none⟩ = false := frozen_of_row _ _ _ _ _ hbox6
              clear hFc hKc hBc hX hr6 hown6 hg6
              refine wpAnyH_take (i := 17) (v := ?_) rfl (by kernel_rfl) (by kernel_rfl) (by kernel_rfl) (fun _ _ _ h => h) (Or.inl ⟨by rfl, ?_⟩) hSS ?_
              rotate_left
              · intro wz hSz
                go_simp
                try with_reducible rfl
              simp only [List.getElem_toArray, List.getElem_cons_zero, List.getElem_cons_succ, Act.put, List.setIfInBounds_toArray, List.set_cons_zero, List.set_cons_succ]
              refine wpAnyH_take (i := 18) (v := ?_) rfl (by kernel_rfl) (by kernel_rfl) (by kernel_rfl) (fun _ _ _ h => h) (Or.inl ⟨by rfl, ?_⟩) hSS ?_
              rotate_left
              · intro wz hSz
                go_simp
                try with_reducible rfl
              simp only [List.getElem_toArray, List.getElem_cons_zero, List.getElem_cons_succ, Act.put, List.setIfInBounds_toArray, List.set_cons_zero, List.set_cons_succ]
              refine wpAnyH_ready (rs := [19]) (by kernel_rfl) (by simp) (AllReadyH.cons rfl (fun K hK => ?_) AllReadyH.nil)
              go_simp
              refine hK.out _ _ trivial (fun hSS => ?_)
              clear hK
              refine wpAnyH_done (by kernel_rfl) ?_ _
              go_wp2_with fail
              go_meet
              exact ⟨_, g6, c6, n1, rfl, hm7⟩
      case rest =>
        obtain ⟨w7, g6, c6, n1, rfl, hm7⟩ := hcut
        obtain ⟨hn1, hbox, hrow, ⟨D, hom, hview⟩, hkep, hbel⟩ := hm7
        have hw1 : IntKind.i64.wrap ((n1 : Int) - 1) = (N.length : Int) := by have := hn1.out; rw [IntWalk.i64_in _ ⟨by omega, by omega⟩]; omega
        have hFM := h.apart.1
        obtain ⟨w8, hrun8, hown8, ht8⟩ := World.ownsMap.store (w := w7.drew) hom.drew keyedE Try.underlying100 (by unfold maxLen; omega) (key_edge (n := (k : Int)) (b := b) (by unfold I64e; omega) hbb) (plainElem_int Try.underlying3 (q := .i64) (a := (N.length : Int)) (WalkArith.wf_i64 (by omega)))
        have hbox8 := (turned_block ht8 hFM (Array.getElem?_eq_some_iff.1 hbox).1).trans hbox
        have hsm : N.length ≤ 100000 := by omega
        have hfin : Hid (Grown wx w8 base F Mb N M r x.lab b N.length) := by
          obtain ⟨t1, t2, t3⟩ := TreeOk.grow ht hM hu hMr hx hl hno y1 y2 y3 y4.out
          refine ⟨N ++ [⟨b :: x.lab, bk, y.long⟩], _, ⟨hbox8, ?_, ⟨_, hown8.mono (by simp), ViewE.grow hview hom.isMap ht (by omega) hx hbb hno _ rfl⟩, by simp; omega⟩, t1, t2, t3, ⟨_, get_new N _, rfl⟩, fun i z hz => get_old hz _, by simp, (hkep.below (Below.drew (Below.refl _ _))).turned ht8, ?_⟩
          · refine World.ownsRow.kept (w := w7.drew) hrow.drew ht8.grown (Or.inr (fun e => ?_))
            cases e
            obtain ⟨es, clock, h1, -⟩ := hom
            rcases hrow.2 with ⟨hv, -⟩ | ⟨g', cap, cur, hv, hg', hbk, -⟩
            · cases hv
            · injection hv with hv
              injection hv with hv
              injection hv with hv
              rw [← hv, h1] at hbk
              cases hbk
          · exact (Below.drew hbel).trans (turned_below ht8 base hbase.2 (Nat.le_trans hbase.2 (Nat.le_of_lt hom.lt)))
        clear h z0 z1 zf hrun hno y4 y2 y3 hrow hom hview hkep hbel ht8 hown8
        go_upto_region 8 with fail
        refine wp_region_held_drew (S := fun w' => w'.heap[F]? = some (.cells #[.slice (some ⟨g6, 0, none⟩) n1 c6, .map (some Mb)] 102)) (by kernel_rfl) hbox (fun hSS => ?_)
        refine wpAnyH_take (i := 0) (v := ?_) rfl (by kernel_rfl) (by kernel_rfl) (by kernel_rfl) (fun _ _ _ h => h) (Or.inl ⟨by rfl, ?_⟩) hSS ?_
        rotate_left
        · intro wz hSz
          go_simp
          try with_reducible rfl
        simp only [List.getElem_toArray, List.getElem_cons_zero, Act.put, List.setIfInBounds_toArray, List.set_cons_zero, List.set_cons_succ]
        refine wpAnyH_take (i := 1) (v := ?_) rfl (by kernel_rfl) (by kernel_rfl) (by kernel_rfl) (fun _ _ _ h => h) (Or.inl ⟨by rfl, ?_⟩) hSS ?_
        rotate_left
        · intro wz hSz
          have z0 := cell_of_row _ _ 0 _ _ _ hSz; have z1 := cell_of_row _ _ 1 _ _ _ hSz
          go_simp
          try with_reducible rfl
        simp only [List.getElem_toArray, List.getElem_cons_zero, List.getElem_cons_succ, Act.put, List.setIfInBounds_toArray, List.set_cons_zero, List.set_cons_succ]
        refine wpAnyH_take (i := 2) (v := ?_) rfl (by kernel_rfl) (by kernel_rfl) (by kernel_rfl) (fun _ _ _ h => h) (Or.inl ⟨by rfl, ?_⟩) hSS ?_
        rotate_left
        · intro wz hSz
          go_simp
          try with_reducible rfl
        simp only [List.getElem_toArray, List.getElem_cons_zero, List.getElem_cons_succ, Act.put, List.setIfInBounds_toArray, List.set_cons_zero, List.set_cons_succ]
        refine wpAnyH_take (i := 3) (v := ?_) rfl (by kernel_rfl) (by kernel_rfl) (by kernel_rfl) (fun _ _ _ h => h) (Or.inl ⟨by rfl, ?_⟩) hSS ?_
        rotate_left
        · intro wz hSz
          have z0 := cell_of_row _ _ 0 _ _ _ hSz; have z1 := cell_of_row _ _ 1 _ _ _ hSz
          go_simp
          try with_reducible rfl
        simp only [List.getElem_toArray, List.getElem_cons_zero, List.getElem_cons_succ, Act.put, List.setIfInBounds_toArray, List.set_cons_zero, List.set_cons_succ]
        refine wpAnyH_take (i := 4) (v := ?_) rfl (by kernel_rfl) (by kernel_rfl) (by kernel_rfl) (fun _ _ _ h => h) (Or.inl ⟨by rfl, ?_⟩) hSS ?_
        rotate_left
        · intro wz hSz
          go_simp
          try with_reducible rfl
        simp only [List.getElem_toArray, List.getElem_cons_zero, List.getElem_cons_succ, Act.put, List.setIfInBounds_toArray, List.set_cons_zero, List.set_cons_succ]
        refine wpAnyH_take (i := 5) (v := ?_) rfl (by kernel_rfl) (by kernel_rfl) (by kernel_rfl) (fun _ _ _ h => h) (Or.inl ⟨by rfl, ?_⟩) hSS ?_
        rotate_left
        · intro wz hSz
          go_simp
          try with_reducible rfl
        simp only [List.getElem_toArray, List.getElem_cons_zero, List.getElem_cons_succ, Act.put, List.setIfInBounds_toArray, List.set_cons_zero, List.set_cons_succ]
        refine wpAnyH_take (i := 6) (v := ?_) rfl (by kernel_rfl) (by kernel_rfl) (by kernel_rfl) (fun _ _ _ h => h) (Or.inl ⟨by rfl, ?_⟩) hSS ?_
        rotate_left
        · intro wz hSz
          go_simp
          try with_reducible rfl
        simp only [List.getElem_toArray, List.getElem_cons_zero, List.getElem_cons_succ, Act.put, List.setIfInBounds_toArray, List.set_cons_zero, List.set_cons_succ]
        refine wpAnyH_take (i := 7) (v := ?_) rfl (by kernel_rfl) (by kernel_rfl) (by kernel_rfl) (fun _ _ _ h => h) (Or.inl ⟨by rfl, ?_⟩) hSS ?_
        rotate_left
        · intro wz hSz
          go_simp
          try with_reducible rfl
        simp only [List.getElem_toArray, List.getElem_cons_zero, List.getElem_cons_succ, Act.put, List.setIfInBounds_toArray, List.set_cons_zero, List.set_cons_succ]
        refine wpAnyH_take (i := 8) (v := ?_) rfl (by kernel_rfl) (by kernel_rfl) (by kernel_rfl) (fun _ _ _ h => h) (Or.inl ⟨by rfl, ?_⟩) hSS ?_
        rotate_left
        · intro wz hSz
          have z0 := cell_of_row _ _ 0 _ _ _ hSz; have z1 := cell_of_row _ _ 1 _ _ _ hSz
          go_simp
          try with_reducible rfl
        simp only [List.getElem_toArray, List.getElem_cons_zero, List.getElem_cons_succ, Act.put, List.setIfInBounds_toArray, List.set_cons_zero, List.set_cons_succ]
        refine wpAnyH_take (i := 9) (v := ?_) rfl (by kernel_rfl) (by kernel_rfl) (by kernel_rfl) (fun _ _ _ h => h) (Or.inl ⟨by rfl, ?_⟩) hSS ?_
        rotate_left
        · intro wz hSz
          go_simp
          try with_reducible rfl
        simp only [List.getElem_toArray, List.getElem_cons_zero, List.getElem_cons_succ, Act.put, List.setIfInBounds_toArray, List.set_cons_zero, List.set_cons_succ]
        refine wpAnyH_take (i := 10) (v := ?_) rfl (by kernel_rfl) (by kernel_rfl) (by kernel_rfl) (fun _ _ _ h => h) (Or.inl ⟨by rfl, ?_⟩) hSS ?_
        rotate_left
        · intro wz hSz
          have z0 := cell_of_row _ _ 0 _ _ _ hSz; have z1 := cell_of_row _ _ 1 _ _ _ hSz
          go_simp
          try with_reducible rfl
        simp only [List.getElem_toArray, List.getElem_cons_zero, List.getElem_cons_succ, Act.put, List.setIfInBounds_toArray, List.set_cons_zero, List.set_cons_succ]
        refine wpAnyH_take (i := 11) (v := ?_) rfl (by kernel_rfl) (by kernel_rfl) (by kernel_rfl) (fun _ _ _ h => h) (Or.inl ⟨by rfl, ?_⟩) hSS ?_
        rotate_left
        · intro wz hSz
          go_simp
          try with_reducible rfl
        simp only [List.getElem_toArray, List.getElem_cons_zero, List.getElem_cons_succ, Act.put, List.setIfInBounds_toArray, List.set_cons_zero, List.set_cons_succ]
        refine wpAnyH_take (i := 12) (v := ?_) rfl (by kernel_rfl) (by kernel_rfl) (by kernel_rfl) (fun _ _ _ h => h) (Or.inl ⟨by rfl, ?_⟩) hSS ?_
        rotate_left
        · intro wz hSz
          go_simp
          try with_reducible rfl
        simp only [List.getElem_toArray, List.getElem_cons_zero, List.getElem_cons_succ, Act.put, List.setIfInBounds_toArray, List.set_cons_zero, List.set_cons_succ]
        refine wpAnyH_ready (rs := [13]) (by kernel_rfl) (by simp) (AllReadyH.cons rfl (fun K hK => ?_) AllReadyH.nil)
        refine step_update rfl (.tmp 58) (.tmp 61) (.tmp 67) _ rfl rfl hrun8 ?_
        refine hK.out _ _ hbox8 (fun hSS => ?_)
        clear hK
        refine wpAnyH_done (by kernel_rfl) ?_ _
        have z0 := cell_of_row _ _ 0 _ _ _ hbox8
        go_wp2
        go_ret
        exact ⟨N.length, rfl, hfin.out⟩
  · obtain ⟨j, rfl, he⟩ := hyes rfl
    clear hno hyes
    obtain ⟨u, y, e1, e2, e3⟩ := he
    rw [hx] at e1
    obtain rfl := Option.some.inj e1
    go_enter Try.func53, Try.ntmps53
    go_wp2
    go_ret
    exact ⟨j, rfl, N, nv, h, ht, hM, hu, ⟨y, e2, e3⟩, fun _ _ h => h, Nat.le_succ _, Kept3.refl _ _ _, Below.refl _ _⟩
end Go.Proofs.Ytgknefpefeghcaa
