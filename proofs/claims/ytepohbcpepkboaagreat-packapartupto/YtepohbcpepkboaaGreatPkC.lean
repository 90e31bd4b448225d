/- A value's message, made: the packer's calls but for bytes. Conditions: as each says. -/
import Derived.Test.YtepohbcpepkboaaGreatVCleanQ
import Derived.Laws.AppendOwnNone
import Derived.Test.YtepohbcpepkboaaGreatPkB
import Derived.Test.YtepohbcpepkboaaGreatFOwn
import Derived.Test.YtepohbcpepkboaaGreatPureJ
import Derived.Test.YtepohbcpepkboaaGreatVGoTo
import Derived.Laws.IdiomStrings
namespace Go.Proofs.YtepohbcpepkboaaGreat
open Go.RowKit Go.Maps Go.WideMaps

set_option maxRecDepth 100000 in
theorem run_append_any (w : World) (base : Nat) (t ty e : TypeId) (i : TypeInfo) (z : Value) (size bytes : Nat) (ht : Tryz.prog.underlying t = some (.slice e)) (hi : Tryz.prog.info? e = some i) (hz : i.zero = some z)
    (hsize : i.size = size) (hby : i.bytes = bytes) (hzs : z.cells.size = size) (hsz : 0 < size)
    (v : Value) (n : Nat) (xs : List Value) (hown : w.ownsRow base e size v n xs)
    (a : Option Addr) (m c : Nat) (news : List Value) (hl : news.length = m * size) (hno : a = none → m = 0 ∧ c = 0) (hnews : ∀ ad, a = some ad → ∀ j u, news[j]? = some u → w.cell? (ad.add j) = some u) (h1 : ∀ u ∈ news, u.oneCell' = true)
    (h63 : n + m ≤ maxLen) (hbytes : (n + m) * bytes ≤ 140737488355328) (hbase : base ≤ w.heap.size) :
    ∃ v' w', (Builtin.append_ #[t, t] ty #[v, .slice a m c]).run Tryz.prog w = .ok v' w' ∧ w'.ownsRow base e size v' (n + m) (xs ++ news) ∧ w.grownBy w' v.ownBlock ∧ (v'.ownBlock = v.ownBlock ∨ v'.ownBlock = some w.heap.size) := by
  cases a with
  | none =>
    obtain ⟨rfl, rfl⟩ := hno rfl
    have hn : news = [] := List.eq_nil_of_length_eq_zero (by simpa using hl)
    subst hn
    exact ⟨v, w, run_append_owned_none (P := Tryz.prog) (w := w) base t ty e i size ht hi v n xs hown, by simpa using hown, ⟨rfl, rfl, rfl, Nat.le_refl _, fun _ _ _ => rfl⟩, Or.inl rfl⟩
  | some ad =>
    obtain ⟨v', w', h2, h3, h4, -, h5⟩ := run_append_own_at (P := Tryz.prog) w base t ty e i z size bytes ht hi hz hsize hby hzs hsz v n xs hown ad m c news hl (hnews ad rfl) h1 h63 hbytes hbase
    exact ⟨v', w', h2, h3, h4, h5⟩
set_option maxRecDepth 100000 in
/-- A step of a region that draws its order. -/
theorem step_plain {ops : Array Oper} {o : Oper} {a : Act} {w : World} {K : Act → World → Prop} {Q : Exit → Act → World → Prop} {E : Prop} (hgd : o.guard = none) (h : Oper.wp Tryz.prog o a w K Q) :
    if Region.wanted o (yielded ops a.tmps) = true then Oper.wp Tryz.prog o a w K Q else E := by
  have hw : Region.wanted o (yielded ops a.tmps) = true := by simp [Region.wanted, hgd]
  rw [if_pos hw]
  exact h
set_option maxRecDepth 100000 in
/-- An append at a step of a region that draws its order. -/
theorem step_append_any {ops : Array Oper} {o : Oper} {a : Act} {w : World} {K : Act → World → Prop} {Q : Exit → Act → World → Prop} {E : Prop} (hgd : o.guard = none) (s x : Operand) (t : TypeId)
    (ho : o.op = .call { callee := .builtin .append, args := #[s, x], argTypes := #[t, t] }) (v u : Value) (hs : a.eval s = v) (hx : a.eval x = u) {v' : Value} {w' : World}
    (hr : (Builtin.append_ #[t, t] o.type #[v, u]).run Tryz.prog w = .ok v' w') (h : K (a.put o.dst v') w') :
    if Region.wanted o (yielded ops a.tmps) = true then Oper.wp Tryz.prog o a w K Q else E := by
  have hw : Region.wanted o (yielded ops a.tmps) = true := by simp [Region.wanted, hgd]
  rw [if_pos hw]
  unfold Oper.wp execOp
  simp only [ho, resolve, invoke, builtin, Sem.run_bind, Sem.run_pure, Result.andThen_ok, List.map_toArray, List.map_cons, List.map_nil, hs, hx, hr]
  exact h
set_option maxRecDepth 100000 in
/-- An append in a plain region. -/
theorem wpList_append_run {ops : Array Oper} {rest : List Oper} {o : Oper} {a : Act} {w : World} {Q : Exit → Act → World → Prop} (hgd : o.guard = none) (s x : Operand) (t : TypeId)
    (ho : o.op = .call { callee := .builtin .append, args := #[s, x], argTypes := #[t, t] }) (v u : Value) (hs : a.eval s = v) (hx : a.eval x = u) {v' : Value} {w' : World}
    (hr : (Builtin.append_ #[t, t] o.type #[v, u]).run Tryz.prog w = .ok v' w') (h : wpList Tryz.prog ops Q rest (a.put o.dst v') w') : wpList Tryz.prog ops Q (o :: rest) a w := by
  refine wpList_plain hgd fun K hK => ?_
  unfold Oper.wp execOp
  simp only [ho, resolve, invoke, builtin, Sem.run_bind, Sem.run_pure, Result.andThen_ok, List.map_toArray, List.map_cons, List.map_nil, hs, hx, hr]
  exact hK _ _ h
/-- Texts in a row of the call's own. -/
def SOwn (W : World) (X : Nat) (sv : Value) (q : List ByteArray) : Prop := W.ownsRow X 9 1 sv q.length (q.map .string) ∧ ∀ x ∈ q, x.size ≤ maxLen
set_option maxRecDepth 100000 in
theorem SOwn.below {W W' : World} {X : Nat} {sv : Value} {q : List ByteArray} (h : SOwn W X sv q) (hb : Below W.heap.size W W') : SOwn W' X sv q := ⟨own_below7 h.1 hb, h.2⟩
set_option maxRecDepth 100000 in
theorem infoS : (Tryz.prog.info? 9).map (fun i => (i.zero, i.size, i.bytes)) = some (some (.string ByteArray.empty), 1, 16) := by kernel_rfl
set_option maxRecDepth 100000 in
theorem append_texts {W : World} {X : Nat} {sv : Value} {q : List ByteArray} (h : SOwn W X sv q) {ok : Nat → Prop} {a : Option Addr} {r : List ByteArray} {m c : Nat} (hr : SRow W ok a r) (hm : r.length = m) (hno : a = none → m = 0 ∧ c = 0) (hX : X ≤ W.heap.size) (hl : q.length + m ≤ 2097152) (ty : TypeId) :
    ∃ sv' W', (Builtin.append_ #[23, 23] ty #[sv, .slice a m c]).run Tryz.prog W = .ok sv' W' ∧ SOwn W' X sv' (q ++ r) ∧ W.grownBy W' sv.ownBlock ∧ (sv'.ownBlock = sv.ownBlock ∨ sv'.ownBlock = some W.heap.size) := by
  obtain ⟨i0, hi, hz0, hz1, hz2⟩ := info_parts7 infoS
  subst hm
  obtain ⟨v', w', h2, h3, h4, h5⟩ := run_append_any W X 23 ty 9 i0 _ 1 16 Tryz.underlying23 hi hz0 hz1 hz2 rfl (by omega) sv q.length _ h.1 a r.length c (r.map .string) (by simp) hno (fun ad e j u hu => by
    have hj : j < r.length := by have := (List.getElem?_eq_some_iff.1 hu).1; simpa using this
    obtain ⟨b, off, e2, -, hcc⟩ := hr.2 (by intro e; subst e; simp at hj)
    rw [e2] at e; injection e with e; subst e
    have := hcc j hj
    rw [Addr.add_lit, this]
    rw [List.getElem?_map, List.getElem?_eq_getElem hj] at hu
    simpa using hu) (fun u hu => by simp at hu; obtain ⟨x, -, rfl⟩ := hu; rfl) (by unfold maxLen; omega) (by omega) hX
  exact ⟨v', w', h2, ⟨by rw [List.length_append, List.map_append]; exact h3, fun x hx => (List.mem_append.1 hx).elim (h.2 x) (hr.1 x)⟩, h4, h5⟩
set_option maxRecDepth 100000 in
theorem one_srow {W : World} {b : Nat} {x : ByteArray} {T : TypeId} {fr : Nat × Nat} (h : W.heap[b]? = some (.cells #[.string x] T fr)) (hx : x.size ≤ maxLen) : SRow W (fun _ => True) (some ⟨b, 0, none⟩) [x] :=
  ⟨by simpa using hx, fun _ => ⟨b, 0, rfl, trivial, fun j hj => by
    have hj0 : j = 0 := by simp at hj; omega
    subst hj0
    rw [cell_of_row _ _ _ _ _ _ h]; simp⟩⟩
set_option maxRecDepth 100000 in
theorem SOwn.row {W : World} {X : Nat} {sv : Value} {q : List ByteArray} (h : SOwn W X sv q) {ok : Nat → Prop} (hk : ∀ b, X ≤ b → ok b) : ∃ a c, sv = .slice a q.length c ∧ SliceOk a q.length c ∧ SRow W ok a q := by
  obtain ⟨a, c, rfl, hc, hs, -⟩ := own_crow h.1 hk
  refine ⟨a, c, rfl, hs, h.2, fun hz => ?_⟩
  obtain ⟨b, off, e, hb, hcc⟩ := hc (by simpa using hz)
  exact ⟨b, off, e, hb, fun j hj => hcc j _ (by simp [hj])⟩
/-- The document's values in a row of the call's own; what they lead to lies elsewhere, in blocks that may be. -/
def VL2 (W : World) (ok : Nat → Prop) (X : Nat) (sv : Value) (l : List V) : Prop :=
  ∃ ps : List (V × VP), ps.map (·.1) = l ∧ W.ownsRow X 25 7 sv l.length (vcells ps) ∧ ∀ p ∈ ps, VIn W (fun b => ok b ∧ sv.ownBlock ≠ some b) p.1 p.2
set_option maxRecDepth 100000 in
theorem VL2.below {W W' : World} {ok : Nat → Prop} {X : Nat} {sv : Value} {l : List V} (h : VL2 W ok X sv l) (hb : Below W.heap.size W W') : VL2 W' ok X sv l := by
  obtain ⟨ps, h1, h2, h3⟩ := h
  exact ⟨ps, h1, own_below7 h2 hb, fun p hp => (h3 p hp).stays hb⟩
set_option maxRecDepth 100000 in
theorem VL2.own {W : World} {ok : Nat → Prop} {X : Nat} {sv : Value} {l : List V} (h : VL2 W ok X sv l) : ∀ k, sv.ownBlock = some k → X ≤ k ∧ k < W.heap.size := by
  obtain ⟨ps, h1, h2, h3⟩ := h
  exact fun k hk => h2.lt k hk
set_option maxRecDepth 100000 in
theorem SOwn.own {W : World} {X : Nat} {sv : Value} {q : List ByteArray} (h : SOwn W X sv q) : ∀ k, sv.ownBlock = some k → X ≤ k ∧ k < W.heap.size := fun k hk => h.1.lt k hk
set_option maxRecDepth 100000 in
theorem own_grown {W W' : World} {X n sz : Nat} {E : TypeId} {sv : Value} {xs : List Value} (h : W.ownsRow X E sz sv n xs) {row : Option Nat} (hg : W.grownBy W' row) (hr : ∀ k, row = some k → sv.ownBlock ≠ some k) : W'.ownsRow X E sz sv n xs :=
  h.kept hg (by
    cases hv : sv.ownBlock with
    | none => exact Or.inl rfl
    | some k => exact Or.inr (fun e => hr k e.symm hv))
set_option maxRecDepth 100000 in
theorem SOwn.grown {W W' : World} {X : Nat} {sv : Value} {q : List ByteArray} (h : SOwn W X sv q) {row : Option Nat} (hg : W.grownBy W' row) (hr : ∀ k, row = some k → sv.ownBlock ≠ some k) : SOwn W' X sv q := ⟨own_grown h.1 hg hr, h.2⟩
set_option maxRecDepth 100000 in
theorem SOwn.set {W : World} {X : Nat} {sv : Value} {q : List ByteArray} (h : SOwn W X sv q) {k i : Nat} (hk : k < X) (u : Value) : SOwn (W.setCell ⟨k, i, none⟩ u) X sv q := ⟨ownsRow_setCell_below h.1 hk u, h.2⟩
set_option maxRecDepth 100000 in
theorem VL2.grown {W W' : World} {ok : Nat → Prop} {X : Nat} {sv : Value} {l : List V} (h : VL2 W ok X sv l) {row : Option Nat} (hg : W.grownBy W' row) (hr : ∀ k, row = some k → sv.ownBlock ≠ some k ∧ ¬ ok k) : VL2 W' ok X sv l := by
  obtain ⟨ps, h1, h2, h3⟩ := h
  exact ⟨ps, h1, own_grown h2 hg (fun k hk => (hr k hk).1), fun p hp => (h3 p hp).agree (fun b hb hlt => hg.block b hlt (fun e => (hr b e.symm).2 hb.1))⟩
set_option maxRecDepth 100000 in
theorem VL2.set {W : World} {ok : Nat → Prop} {X : Nat} {sv : Value} {l : List V} (h : VL2 W ok X sv l) {k i : Nat} (hk : k < X) (hn : ¬ ok k) (u : Value) : VL2 (W.setCell ⟨k, i, none⟩ u) ok X sv l := by
  obtain ⟨ps, h1, h2, h3⟩ := h
  exact ⟨ps, h1, ownsRow_setCell_below h2 hk u, fun p hp => (h3 p hp).agree (Agree.setCell u (fun hh => hn hh.1))⟩
set_option maxRecDepth 100000 in
theorem append_vals {W : World} {ok : Nat → Prop} {X : Nat} {sv : Value} {l : List V} (h : VL2 W ok X sv l) {a : Option Addr} {r : List V} {m c : Nat} (hr : VRow W (fun b => ok b ∧ sv.ownBlock ≠ some b) a r) (hm : r.length = m) (hno : a = none → m = 0 ∧ c = 0) (hX : X ≤ W.heap.size) (hl : l.length + m ≤ 2097152) (ty : TypeId) :
    ∃ sv' W', (Builtin.append_ #[22, 22] ty #[sv, .slice a m c]).run Tryz.prog W = .ok sv' W' ∧ VL2 W' ok X sv' (l ++ r) ∧ W.grownBy W' sv.ownBlock ∧ (sv'.ownBlock = sv.ownBlock ∨ sv'.ownBlock = some W.heap.size) := by
  obtain ⟨i0, hi, hz0, hz1, hz2⟩ := info_parts7 infoV
  subst hm
  obtain ⟨ps, h1, h2, h3⟩ := h
  obtain ⟨P, hc, hin⟩ := hr
  obtain ⟨qs, hqs⟩ : ∃ qs : List (V × VP), qs = List.ofFn (fun j : Fin r.length => (r[j], P j)) := ⟨_, rfl⟩
  have hql : qs.length = r.length := by rw [hqs]; simp
  have hqj : ∀ j (hj : j < qs.length), qs[j] = (r[j]'(by omega), P j) := fun j hj => by subst hqs; simp
  have hq1 : qs.map (·.1) = r := by
    apply List.ext_getElem (by simpa using hql)
    intro j h3 h4
    rw [List.getElem_map, hqj j (by omega)]
  obtain ⟨v', w', g2, g3, g4, g5⟩ := run_append_any W X 22 ty 25 i0 _ 7 96 Tryz.underlying22 hi hz0 hz1 hz2 rfl (by omega) sv l.length _ h2 a r.length c (vcells qs) (by rw [vcells_len, hql]) hno (fun ad e j u hu => by
    have hj : j < (vcells qs).length := (List.getElem?_eq_some_iff.1 hu).1
    rw [vcells_len, hql] at hj
    have hd : j / 7 < r.length := by omega
    obtain ⟨b, off, e2, -, hcc⟩ := hc (by intro e; subst e; simp at hd)
    rw [e2] at e; injection e with e; subst e
    obtain ⟨c0, c1, c2, c3, c4, c5, c6⟩ := hcc (j / 7) hd
    have h7 := vcells_at qs (j / 7) (j % 7) (by omega) (by omega)
    rw [show j / 7 * 7 + j % 7 = j by omega, hu, hqj _ (by omega)] at h7
    rw [Addr.add_lit, show off + j = off + j / 7 * 7 + j % 7 by omega]
    have h8 : j % 7 = 0 ∨ j % 7 = 1 ∨ j % 7 = 2 ∨ j % 7 = 3 ∨ j % 7 = 4 ∨ j % 7 = 5 ∨ j % 7 = 6 := by omega
    rcases h8 with h8 | h8 | h8 | h8 | h8 | h8 | h8 <;> rw [h8] at h7 ⊢ <;> rw [h7] <;> first | exact c0 | exact c1 | exact c2 | exact c3 | exact c4 | exact c5 | exact c6) (vcells_one qs) (by unfold maxLen; omega) (by omega) hX
  refine ⟨v', w', g2, ⟨ps ++ qs, by rw [List.map_append, h1, hq1], by rw [List.length_append, vcells_append]; exact g3, fun p hp => ?_⟩, g4, g5⟩
  have key : VIn W (fun b => (ok b ∧ sv.ownBlock ≠ some b) ∧ b < W.heap.size) p.1 p.2 := by
    rcases List.mem_append.1 hp with hp | hp
    · exact (h3 p hp).low
    · obtain ⟨j, hj, rfl⟩ := List.getElem_of_mem hp
      rw [hqj j hj]
      exact (hin j (by omega)).low
  have k2 : VIn w' (fun b => (ok b ∧ sv.ownBlock ≠ some b) ∧ b < W.heap.size) p.1 p.2 := key.agree (fun b hb hlt => g4.block b hlt (fun e => hb.1.2 e.symm))
  exact k2.mono (fun b hb _ => ⟨hb.1.1, fun e => by
    rcases g5 with g5 | g5
    · exact hb.1.2 (g5 ▸ e)
    · rw [g5] at e; injection e with e; omega⟩)
set_option maxRecDepth 100000 in
theorem VRow.mono {w : World} {ok ok' : Nat → Prop} {a : Option Addr} {l : List V} (h : VRow w ok a l) (hm : ∀ b, ok b → b < w.heap.size → ok' b) : VRow w ok' a l := by
  obtain ⟨P, h1, h2⟩ := h
  exact ⟨P, h1.mono hm, fun j hj => (h2 j hj).mono hm⟩
set_option maxRecDepth 100000 in
theorem one_vrow {W : World} {b : Nat} {x : V} {p : VP} {T : TypeId} {fr : Nat × Nat} {ok : Nat → Prop} (h : W.heap[b]? = some (.cells #[.int .i64 x.k, .bool x.b, .int .i64 x.n, .int .i64 x.m, .string x.s, .slice p.la x.l.length p.lc, .slice p.ka x.keys.length p.kc] T fr)) (hb : ok b) (hx : VIn W ok x p) : VRow W ok (some ⟨b, 0, none⟩) [x] :=
  ⟨fun _ => p, fun _ => ⟨b, 0, rfl, hb, fun j hj => by
    have hj0 : j = 0 := by simp at hj; omega
    subst hj0
    unfold VAt
    refine ⟨?_, ?_, ?_, ?_, ?_, ?_, ?_⟩ <;> (rw [cell_of_row _ _ _ _ _ _ h]; simp)⟩, fun j hj => by
    have hj0 : j = 0 := by simp at hj; omega
    subst hj0
    exact hx⟩
set_option maxRecDepth 100000 in
/-- A row that was there, beside rows of the call's own that are younger. -/
theorem VRow.old {w W : World} {n X : Nat} {OK : Nat → Prop} {a : Option Addr} {l : List V} (h : VRow w (fun b => n ≤ b) a l) (hb : Below w.heap.size w W) (hok : ∀ b, n ≤ b → b < w.heap.size → OK b) (hX : w.heap.size ≤ X) {sv : Value} (hs : ∀ k, sv.ownBlock = some k → X ≤ k) : VRow W (fun b => OK b ∧ sv.ownBlock ≠ some b) a l :=
  (h.mono (ok' := fun b => OK b ∧ sv.ownBlock ≠ some b) (fun b h1 h2 => ⟨hok b h1 h2, fun e => by have := hs b e; omega⟩)).below hb
set_option maxRecDepth 100000 in
theorem VL2.row {W : World} {ok : Nat → Prop} {X : Nat} {sv : Value} {l : List V} (h : VL2 W ok X sv l) {n : Nat} (hn : n ≤ X) (hk : ∀ b, ok b → n ≤ b) : ∃ a c, sv = .slice a l.length c ∧ SliceOk a l.length c ∧ VRow W (fun b => n ≤ b) a l := by
  obtain ⟨ps, h1, h2, h3⟩ := h
  refine VLOwn.row ⟨ps, h1, ⟨h2.1, ?_⟩, fun p hp => (h3 p hp).mono (fun b hb _ => ⟨hk b hb.1, hb.2⟩)⟩
  rcases h2.2 with h | ⟨g, cap, cur, e, hg, r⟩
  · exact Or.inl h
  · exact Or.inr ⟨g, cap, cur, e, by omega, r⟩
set_option maxRecDepth 100000 in
theorem VL2.none (W : World) (ok : Nat → Prop) (X b : Nat) (hX : X ≤ b) (T : TypeId) (f : Nat × Nat) (hT : T = 25) (h : W.heap[b]? = some (.cells #[] T f)) (hf : f = (0, 0)) : VL2 W ok X (.slice (some ⟨b, 0, none⟩) 0 0) [] := by
  subst hT hf
  exact ⟨[], rfl, ⟨rfl, Or.inr ⟨b, 0, #[], rfl, hX, h, Nat.le_refl _, by simp [maxLen], by simp, by simp [vcells]⟩⟩, by simp⟩
set_option maxRecDepth 100000 in
theorem SOwn.none (W : World) (X b : Nat) (hX : X ≤ b) (h : W.heap[b]? = some (.cells #[] 9 (0, 0))) : SOwn W X (.slice (some ⟨b, 0, none⟩) 0 0) [] :=
  ⟨⟨rfl, Or.inr ⟨b, 0, #[], rfl, hX, h, Nat.le_refl _, by simp [maxLen], by simp, by simp⟩⟩, by simp⟩
end Go.Proofs.YtepohbcpepkboaaGreat

namespace Go.Proofs.YtepohbcpepkboaaGreat
open Go.RowKit Go.Maps Go.WideMaps

/-- The packer, in its block: its first error. -/
def PB (W : World) (P : Nat) (e : Int) : Prop := W.heap[P]? = some (.cells #[.int .i64 e] 61)
/-- Only the packer's block, and new ones, have changed. -/
def Pm (P : Nat) (W W' : World) : Prop := W.grownBy W' (some P)
set_option maxRecDepth 100000 in
theorem Pm.of {P : Nat} {W W' : World} (h : Below W.heap.size W W') : Pm P W W' := ⟨h.os, h.tape, h.output, h.size, fun k hk _ => h.block k hk⟩
set_option maxRecDepth 100000 in
theorem Pm.trans {P : Nat} {W W' W'' : World} (h : Pm P W W') (h2 : Pm P W' W'') : Pm P W W'' :=
  ⟨h2.os.trans h.os, h2.tape.trans h.tape, h2.output.trans h.output, Nat.le_trans h.size h2.size, fun k hk hne => (h2.block k (Nat.lt_of_lt_of_le hk h.size) hne).trans (h.block k hk hne)⟩
set_option maxRecDepth 100000 in
theorem Pm.set {P : Nat} (W : World) (u : Value) : Pm P W (W.setCell ⟨P, 0, none⟩ u) :=
  ⟨rfl, rfl, rfl, by simp, fun k _ hne => Below.heap_setCell _ _ _ _ (fun e => hne (by rw [e]))⟩
set_option maxRecDepth 100000 in
theorem Pm.agree {P : Nat} {W W' : World} (h : Pm P W W') : Agree (fun b => b ≠ P) W W' := fun b hb hlt => h.block b hlt (fun e => hb (by injection e))
set_option maxRecDepth 100000 in
theorem PB.below {W W' : World} {P : Nat} {e : Int} (h : PB W P e) (hb : Below W.heap.size W W') : PB W' P e := (hb.block _ (Array.getElem?_eq_some_iff.1 h).1).trans h
set_option maxRecDepth 100000 in
theorem PB.lt {W : World} {P : Nat} {e : Int} (h : PB W P e) : P < W.heap.size := (Array.getElem?_eq_some_iff.1 h).1
set_option maxRecDepth 100000 in
theorem PB.set {W : World} {P : Nat} {e : Int} (h : PB W P e) (e' : Int) : PB (W.setCell ⟨P, 0, none⟩ (.int .i64 e')) P e' := heap_setCell_same _ _ 0 _ _ _ h
set_option maxRecDepth 100000 in
theorem failed_any {W : World} {P : Nat} {e : Int} (h : PB W P e) : Calls Tryz.prog 27 #[.pointer (some ⟨P, 0, none⟩)] W fun x w' => x = .returned (.bool (e != 0)) ∧ W = w' := by
  have h0 : W.cell? ⟨P, 0, none⟩ = some (.int .i64 e) := cell_of_row _ _ _ _ _ _ h
  go_enter Tryz.func27, Tryz.ntmps27
  go_wp2_with fail
  go_ret
  exact ⟨rfl, rfl⟩
set_option maxRecDepth 100000 in
theorem fail_any {W : World} {P : Nat} {e : Int} (h : PB W P e) (x : Int) : Calls Tryz.prog 53 #[.pointer (some ⟨P, 0, none⟩), .int .i64 x] W fun r w' => r = .returned (.tuple #[]) ∧ PB w' P (if e = 0 then x else e) ∧ Pm P W w' := by
  have h0 : W.cell? ⟨P, 0, none⟩ = some (.int .i64 e) := cell_of_row _ _ _ _ _ _ h
  have h1 : W.frozen? ⟨P, 0, none⟩ = false := frozen_of_row _ _ _ _ _ h
  by_cases he : e = 0
  · subst he
    go_enter Tryz.func53, Tryz.ntmps53
    go_wp2_with fail
    refine (failed_any h).mono ?_
    rintro r w1 ⟨rfl, rfl⟩
    go_wp2_with fail
    go_end0
    exact ⟨rfl, PB.set (by assumption) x, Pm.set _ _⟩
  · have hne : (e != 0) = true := by simpa using he
    go_enter Tryz.func53, Tryz.ntmps53
    go_wp2_with fail
    refine (failed_any h).mono ?_
    rintro r w1 ⟨rfl, rfl⟩
    go_wp2_with fail
    go_end0
    exact ⟨rfl, by assumption, Pm.of (Below.refl _ _)⟩
set_option maxRecDepth 100000 in
theorem bit_any (b : Bool) (w : World) : Calls Tryz.prog 84 #[.bool b] w fun e w' => e = .returned (.int .u64 (if b then 1 else 0)) ∧ w = w' := by
  cases b
  · go_enter Tryz.func84, Tryz.ntmps84
    go_wp2_with fail
    go_ret
    exact ⟨rfl, rfl⟩
  · go_enter Tryz.func84, Tryz.ntmps84
    go_wp2_with fail
    go_ret
    exact ⟨rfl, rfl⟩
set_option maxRecDepth 100000 in
/-- A text's bytes, as a conversion lays them. -/
theorem conv_sb (w : World) (s : ByteArray) (hs : s.size ≤ 1048576) : ∃ (cap : Nat) (w' : World), (convert 9 29 (.string s)).run Tryz.prog w = .ok (.slice (some ⟨w.heap.size, 0, none⟩) (bsI s).length cap) w' ∧ Row w' (some ⟨w.heap.size, 0, none⟩) (bsI s) ∧ Below w.heap.size w w' ∧ w.heap.size < w'.heap.size ∧ (bsI s).length ≤ cap ∧ cap ≤ maxLen := by
  refine ⟨_, _, by rw [bsI_len]; exact run_bytes_of_string w 9 29 5 s Tryz.underlying9 Tryz.underlying29 Tryz.underlying5, ⟨bsI_byte s, fun _ => ⟨_, 0, rfl, fun j hj => ?_⟩⟩, (Below.refl _ _).drew.alloc (Nat.le_refl _) _, by simp, by rw [bsI_len]; exact grownCap_ge _ _ _ _, grownCap_le_maxLen _ _ _ _ (by simp [maxLen]; omega)⟩
  have hj' : j < s.data.size := by rw [bsI_len] at hj; exact hj
  have e := cell_of_row _ _ (0 + j) _ _ _ (heap_alloc_new w.drew (.cells (bytesRow s (grownCap w s.size 0 5)) 5 ((bytesRow s (grownCap w s.size 0 5)).size, (bytesRow s (grownCap w s.size 0 5)).size + 1)))
  refine e.trans ?_
  rw [Nat.zero_add, bytesRow_at s _ j hj']
  unfold bsI
  rw [List.getD_eq_getElem?_getD, List.getElem?_map]
  simp only [Array.getElem?_toList, Array.getElem?_eq_getElem hj']
  rfl
end Go.Proofs.YtepohbcpepkboaaGreat

