/- copy, by its run, at a step of a region; slices' rows laid over. No conditions. -/
import Derived.Test.YtigdcnoggjcddaaVRep
import Derived.Test.YtigdcnoggjcddaaVarA
import Derived.Laws.AppendOwnNone
import Derived.Deep.DeepMust
import Derived.Lib.SliceRun
import Derived.Laws.CopyOwn
namespace Go.Proofs.Ytigdcnoggjcddaa
open Go.RowKit Go.Maps

set_option maxRecDepth 100000 in
theorem infoVal : (Try.prog.info? 30).map (fun i => (i.zero, i.size, i.bytes)) = some (some (.agg #[.nilIface]), 1, 16) := by kernel_rfl
set_option maxRecDepth 100000 in
theorem infoStr : (Try.prog.info? 9).map (fun i => (i.zero, i.size, i.bytes)) = some (some (.string ByteArray.empty), 1, 16) := by kernel_rfl
/-- The cells of a slice of one-cell elements. -/
def CRow (w : World) (ok : Nat → Prop) (a : Option Addr) (us : List Value) : Prop := us ≠ [] → ∃ b off, a = some ⟨b, off, none⟩ ∧ ok b ∧ ∀ j u, us[j]? = some u → w.cell? ⟨b, off + j, none⟩ = some u
set_option maxRecDepth 100000 in
theorem CRow.agree {w w' : World} {ok : Nat → Prop} {a : Option Addr} {us : List Value} (h : CRow w ok a us) (hg : Agree ok w w') : CRow w' ok a us := fun hz => by
  obtain ⟨b, off, rfl, hb, hc⟩ := h hz
  exact ⟨b, off, rfl, hb, fun j u hu => hg.cell hb (hc j u hu)⟩
set_option maxRecDepth 100000 in
theorem CRow.below {w w' : World} {ok : Nat → Prop} {a : Option Addr} {us : List Value} (h : CRow w ok a us) (hb : Below w.heap.size w w') : CRow w' ok a us := h.agree (agreeB hb ok)
set_option maxRecDepth 100000 in
theorem CRow.alloc {w : World} {ok : Nat → Prop} {a : Option Addr} {us : List Value} (h : CRow w ok a us) (o : Obj) : CRow (w.alloc o) ok a us := h.below ((Below.refl _ _).alloc (Nat.le_refl _) o)
set_option maxRecDepth 100000 in
theorem HRow.crow {w : World} {ok : Nat → Prop} {a : Option Addr} {n : Nat} {H : Nat → Value} (h : HRow w ok a n H) : CRow w ok a ((List.range n).map H) := fun hz => by
  have hn : 0 < n := by
    rcases Nat.eq_zero_or_pos n with h | h
    · subst h; simp at hz
    · exact h
  obtain ⟨b, off, rfl, hb, hc⟩ := h hn
  refine ⟨b, off, rfl, hb, fun j u hu => ?_⟩
  obtain ⟨hj, he⟩ := List.getElem?_eq_some_iff.1 hu
  simp at hj he
  rw [hc j hj, he]
set_option maxRecDepth 100000 in
theorem SRow.crow {w : World} {ok : Nat → Prop} {a : Option Addr} {q : List ByteArray} (h : SRow w ok a q) : CRow w ok a (q.map Value.string) := fun hz => by
  obtain ⟨b, off, rfl, hb, hc⟩ := h.2 (by intro e; rw [e] at hz; simp at hz)
  refine ⟨b, off, rfl, hb, fun j u hu => ?_⟩
  obtain ⟨hj, he⟩ := List.getElem?_eq_some_iff.1 hu
  simp at hj he
  rw [hc j hj, he]
set_option maxRecDepth 100000 in
theorem CRow.srow {w : World} {ok : Nat → Prop} {a : Option Addr} {q : List ByteArray} (h : CRow w ok a (q.map Value.string)) (hq : ∀ x ∈ q, x.size ≤ maxLen) : SRow w ok a q := by
  refine ⟨hq, fun hz => ?_⟩
  obtain ⟨b, off, rfl, hb, hc⟩ := h (by intro e; exact hz (List.map_eq_nil_iff.1 e))
  exact ⟨b, off, rfl, hb, fun j hj => hc j _ (by simp [hj])⟩
set_option maxRecDepth 100000 in
theorem wpList_append_any {w : World} {ops : Array Oper} {rest : List Oper} {o : Oper} {a : Act} {Q : Exit → Act → World → Prop} (hgd : o.guard = none) (s x : Operand) (T E : TypeId) (z : Value) (bytes : Nat)
    (hu : Try.prog.underlying T = some (.slice E)) (hinfo : (Try.prog.info? E).map (fun i => (i.zero, i.size, i.bytes)) = some (some z, 1, bytes)) (hzc : z.cells.size = 1) (hby : bytes ≤ 16)
    (ho : o.op = .call { callee := .builtin .append, args := #[s, x], argTypes := #[T, T] }) (base : Nat) (v : Value) (n : Nat) (xs : List Value) (hs : a.eval s = v) (hown : w.ownsRow base E 1 v n xs)
    (ao : Option Addr) (us : List Value) (m cap : Nat) (hx : a.eval x = .slice ao m cap) (hm : us.length = m) {ok : Nat → Prop} (hrow : CRow w ok ao us) (hnil : ao = none → m = 0 ∧ cap = 0) (h1 : ∀ u ∈ us, u.oneCell' = true)
    (hb : n + m ≤ 1099511627776) (hbase : base ≤ w.heap.size)
    (h : ∀ v' w', w'.ownsRow base E 1 v' (n + m) (xs ++ us) → w.grownBy w' v.ownBlock → wpList Try.prog ops Q rest (a.put o.dst v') w') : wpList Try.prog ops Q (o :: rest) a w := by
  obtain ⟨i0, hi, hz0, hz1, hz2⟩ := info_parts hinfo
  cases ao with
  | none =>
    obtain ⟨h0, rfl⟩ := hnil rfl
    subst h0
    have hz : us = [] := List.eq_nil_of_length_eq_zero hm
    subst hz
    refine wpList_append_own_none hgd s x T ho base E i0 1 hu hi v n xs hs hown hx (h v w ?_ (World.grownBy.refl _ _))
    simpa using hown
  | some ad =>
    refine wpList_append_own w hgd s x T ho base E i0 z 1 bytes hu hi hz0 hz1 hz2 hzc (by decide) v n xs hs hown ad m cap us hx (by simp [hm]) ?_ h1
      (by unfold maxLen; omega) ?_ hbase (fun v' w' h1 h2 _ => h v' w' h1 h2)
    · intro j u hju
      obtain ⟨b, off, e, -, hc⟩ := hrow (by intro e; rw [e] at hju; simp at hju)
      obtain rfl := Option.some.inj e
      rw [Addr.add_lit]
      exact hc j u hju
    · have : (n + m) * bytes ≤ 1099511627776 * 16 := Nat.mul_le_mul hb hby
      omega
set_option maxRecDepth 100000 in
/-- What a row of the call's own is to a reader. -/
theorem own_crow {w : World} {base n : Nat} {E : TypeId} {v : Value} {us : List Value} (h : w.ownsRow base E 1 v n us) {ok : Nat → Prop} (hk : ∀ b, base ≤ b → ok b) :
    ∃ a cap, v = .slice a n cap ∧ CRow w ok a us ∧ SliceOk a n cap ∧ us.length = n := by
  have hl : us.length = n := by have := h.1; simpa using this
  rcases h.2 with ⟨hv, h0⟩ | ⟨g, cap, cur, hv, hg, _, hc, hm, _⟩
  · subst h0
    have : us = [] := List.eq_nil_of_length_eq_zero hl
    subst this
    exact ⟨none, 0, hv, fun hz => absurd rfl hz, ⟨fun _ => ⟨rfl, rfl⟩, Nat.le_refl _, by simp [maxLen]⟩, rfl⟩
  · subst hv
    refine ⟨some ⟨g, 0, none⟩, cap, rfl, fun _ => ⟨g, 0, rfl, hk g hg, fun j u hu => ?_⟩, ⟨(fun e => by cases e), hc, hm⟩, hl⟩
    have hj := (List.getElem?_eq_some_iff.1 hu).1
    have := h.cellAt j (by omega)
    rw [Nat.zero_add, this, hu]
set_option maxRecDepth 100000 in
theorem cown_below {w w' : World} {base n : Nat} {E : TypeId} {v : Value} {xs : List Value} (h : w.ownsRow base E 1 v n xs) (hb : Below w.heap.size w w') : w'.ownsRow base E 1 v n xs :=
  h.kept (row := none) ⟨hb.os, hb.tape, hb.output, hb.size, fun k hk _ => hb.block k hk⟩ (by cases hv : v.ownBlock with | none => exact Or.inl rfl | some k => exact Or.inr (by simp))
set_option maxRecDepth 100000 in
theorem below_cown {B : Nat} {a w w' : World} {E : TypeId} {v : Value} {n : Nat} {xs : List Value} (hb : Below B a w) (h : w.ownsRow B E 1 v n xs) (hB : B ≤ w.heap.size) (hg : w.grownBy w' v.ownBlock) : Below B a w' :=
  hb.grown hg hB (fun k hk => (h.lt k hk).1)
set_option maxRecDepth 100000 in
theorem cloneV_any (ao : Option Addr) (us : List Value) (c : Nat) (w : World) {ok : Nat → Prop} (hk : ∀ b, w.heap.size ≤ b → ok b) (hrow : CRow w ok ao us) (hok : SliceOk ao us.length c) (h1 : ∀ u ∈ us, u.oneCell' = true) (hn : us.length ≤ 1099511627776) :
    Calls Try.prog 66 #[.slice ao us.length c] w fun e w' => ∃ a' c', e = .returned (.slice a' us.length c') ∧ CRow w' ok a' us ∧ SliceOk a' us.length c' ∧ Below w.heap.size w w' := by
  cases ao with
  | none =>
    obtain ⟨h0, rfl⟩ := hok.1 rfl
    have hz : us = [] := List.eq_nil_of_length_eq_zero h0
    subst hz
    clear hrow h1 hn hok
    have q := fun (W : World) (a : Option Addr) (n c n' c' : Nat) => Lib.run_eql_slice_nil (P := Try.prog) W 57 30 a n c n' c' Try.underlying57
    go_enter Try.func66, Try.ntmps66
    go_wp2_with fail
    go_ret
    exact ⟨none, 0, rfl, fun hz => absurd rfl hz, ⟨fun _ => ⟨rfl, rfl⟩, Nat.le_refl _, by simp [maxLen]⟩, Below.refl _ _⟩
  | some ad =>
    have hr1 := hrow.alloc (.cells #[] 30)
    have q := fun (W : World) (a : Option Addr) (n c n' c' : Nat) => Lib.run_eql_slice_nil (P := Try.prog) W 57 30 a n c n' c' Try.underlying57
    go_enter Try.func66, Try.ntmps66
    go_wp2_with (at_builtin; go_must (refine wpList_append_any rfl (.tmp 5) (.tmp 6) 57 30 _ _ Try.underlying57 infoVal rfl (by decide) rfl w.heap.size _ 0 [] rfl (World.ownsRow_lit w #[] 0 (Nat.le_refl _) (by simp [maxLen]) rfl) (some ad) us us.length c rfl rfl hr1 (by intro e; cases e) h1 (by omega) (by simp) ?_; intro v1 w1 hown1 hgrow1))
    simp only [Nat.zero_add, List.nil_append] at hown1
    have hb1 : Below w.heap.size w w1 := below_cown ((Below.refl _ _).alloc (Nat.le_refl _) _) (World.ownsRow_lit w #[] 0 (Nat.le_refl _) (by simp [maxLen]) rfl) (by simp) hgrow1
    obtain ⟨a1, c1, hv1, h2, h3, h4⟩ := own_crow hown1 hk
    subst hv1
    go_ret
    exact ⟨a1, c1, rfl, h2, h3, hb1⟩
set_option maxRecDepth 100000 in
theorem cloneS_any (ao : Option Addr) (us : List Value) (c : Nat) (w : World) {ok : Nat → Prop} (hk : ∀ b, w.heap.size ≤ b → ok b) (hrow : CRow w ok ao us) (hok : SliceOk ao us.length c) (h1 : ∀ u ∈ us, u.oneCell' = true) (hn : us.length ≤ 1099511627776) :
    Calls Try.prog 71 #[.slice ao us.length c] w fun e w' => ∃ a' c', e = .returned (.slice a' us.length c') ∧ CRow w' ok a' us ∧ SliceOk a' us.length c' ∧ Below w.heap.size w w' := by
  cases ao with
  | none =>
    obtain ⟨h0, rfl⟩ := hok.1 rfl
    have hz : us = [] := List.eq_nil_of_length_eq_zero h0
    subst hz
    clear hrow h1 hn hok
    have q := fun (W : World) (a : Option Addr) (n c n' c' : Nat) => Lib.run_eql_slice_nil (P := Try.prog) W 23 9 a n c n' c' Try.underlying23
    go_enter Try.func71, Try.ntmps71
    go_wp2_with fail
    go_ret
    exact ⟨none, 0, rfl, fun hz => absurd rfl hz, ⟨fun _ => ⟨rfl, rfl⟩, Nat.le_refl _, by simp [maxLen]⟩, Below.refl _ _⟩
  | some ad =>
    have hr1 := hrow.alloc (.cells #[] 9)
    have q := fun (W : World) (a : Option Addr) (n c n' c' : Nat) => Lib.run_eql_slice_nil (P := Try.prog) W 23 9 a n c n' c' Try.underlying23
    go_enter Try.func71, Try.ntmps71
    go_wp2_with (at_builtin; go_must (refine wpList_append_any rfl (.tmp 5) (.tmp 6) 23 9 _ _ Try.underlying23 infoStr rfl (by decide) rfl w.heap.size _ 0 [] rfl (World.ownsRow_lit w #[] 0 (Nat.le_refl _) (by simp [maxLen]) rfl) (some ad) us us.length c rfl rfl hr1 (by intro e; cases e) h1 (by omega) (by simp) ?_; intro v1 w1 hown1 hgrow1))
    simp only [Nat.zero_add, List.nil_append] at hown1
    have hb1 : Below w.heap.size w w1 := below_cown ((Below.refl _ _).alloc (Nat.le_refl _) _) (World.ownsRow_lit w #[] 0 (Nat.le_refl _) (by simp [maxLen]) rfl) (by simp) hgrow1
    obtain ⟨a1, c1, hv1, h2, h3, h4⟩ := own_crow hown1 hk
    subst hv1
    go_ret
    exact ⟨a1, c1, rfl, h2, h3, hb1⟩
end Go.Proofs.Ytigdcnoggjcddaa

namespace Go.Proofs.Ytigdcnoggjcddaa
open Go.RowKit Go.Maps

set_option maxRecDepth 100000 in
theorem setRow_other (w : World) (g : Nat) (cs : Array Value) (k : Nat) (h : k ≠ g) : (w.setRow g cs).heap[k]? = w.heap[k]? := by
  simp only [World.setRow, Array.getElem?_modify]
  rw [if_neg (Ne.symm h)]
set_option maxRecDepth 100000 in
/-- What a copy into a row leaves. -/
theorem copy_run (W : World) (T E ty : TypeId) (hu : Try.prog.underlying T = some (.slice E)) (hs : (Try.prog.info? E).map (·.size) = some 1) (g off dLen dCap : Nat) (ad : Addr) (sLen sCap : Nat) (cur : List Value) (t : TypeId) (cs : List Value)
    (hg : W.heap[g]? = some (.cells cur.toArray t (0, 0))) (hn : cs.length = Nat.min sLen dLen) (hsrc : ∀ j v, cs[j]? = some v → W.cell? (ad.add j) = some v) (hfit : off + cs.length ≤ cur.length) (h1 : ∀ v ∈ cs, v.oneCell' = true) :
    ∃ W', (Builtin.copy_ #[T, T] ty #[.slice (some ⟨g, off, none⟩) dLen dCap, .slice (some ad) sLen sCap]).run Try.prog W = .ok (goInt cs.length) W' ∧ W'.heap[g]? = some (.cells (splice cur off cs).toArray t (0, 0)) ∧ (∀ k, k ≠ g → W'.heap[k]? = W.heap[k]?) ∧ W'.heap.size = W.heap.size ∧ ∀ X w0, X ≤ g → Below X w0 W → Below X w0 W' := by
  refine ⟨_, run_copy_row (P := Try.prog) W T T ty E g off dLen dCap ad sLen sCap cur.toArray t cs hu hs hg hn hsrc (by simpa using hfit) h1, ?_, fun k hk => setRow_other _ _ _ _ hk, by simp [World.setRow], fun X w0 hX hb => below_setRow hb hX _⟩
  simpa [splice] using setRow_heap W g _ _ t _ hg
set_option maxRecDepth 100000 in
theorem step_copy_any {ops : Array Oper} {o : Oper} {a : Act} {w : World} {K : Act → World → Prop} {Q : Exit → Act → World → Prop} {E : Prop} (hgd : o.guard = none) (d s : Operand) (T : TypeId)
    (ho : o.op = .call { callee := .builtin .copy, args := #[d, s], argTypes := #[T, T] }) (v u : Value) (hd : a.eval d = v) (hs : a.eval s = u) {v' : Value} {w' : World}
    (hr : (Builtin.copy_ #[T, T] o.type #[v, u]).run Try.prog w = .ok v' w') (h : K (a.put o.dst v') w') :
    if Region.wanted o (yielded ops a.tmps) = true then Oper.wp Try.prog o a w K Q else E := by
  have hw : Region.wanted o (yielded ops a.tmps) = true := by simp [Region.wanted, hgd]
  rw [if_pos hw]
  unfold Oper.wp execOp
  simp only [ho, resolve, invoke, builtin, Sem.run_bind, Sem.run_pure, Result.andThen_ok, List.map_toArray, List.map_cons, List.map_nil, hd, hs, hr]
  exact h
set_option maxRecDepth 100000 in
theorem wpList_copy_any {ops : Array Oper} {rest : List Oper} {o : Oper} {a : Act} {w : World} {Q : Exit → Act → World → Prop} (hgd : o.guard = none) (d s : Operand) (T : TypeId)
    (ho : o.op = .call { callee := .builtin .copy, args := #[d, s], argTypes := #[T, T] }) (v u : Value) (hd : a.eval d = v) (hs : a.eval s = u) {v' : Value} {w' : World}
    (hr : (Builtin.copy_ #[T, T] o.type #[v, u]).run Try.prog w = .ok v' w') (h : wpList Try.prog ops Q rest (a.put o.dst v') w') : wpList Try.prog ops Q (o :: rest) a w := by
  refine wpList_plain hgd fun K hK => ?_
  unfold Oper.wp execOp
  simp only [ho, resolve, invoke, builtin, Sem.run_bind, Sem.run_pure, Result.andThen_ok, List.map_toArray, List.map_cons, List.map_nil, hd, hs, hr]
  exact hK _ _ h
set_option maxRecDepth 100000 in
/-- A row into which one is put, in place; and a new one. -/
theorem splice_room {α : Type} (C us : List α) (i n : Nat) (u : α) (hi : i < n) (hn : C.take n = us) (hc : n + 1 ≤ C.length) :
    (splice (splice C (i + 1) (us.drop i)) i [u]).take (n + 1) = us.take i ++ u :: us.drop i ∧ (splice (splice C (i + 1) (us.drop i)) i [u]).length = C.length := by
  subst hn
  have h1 : ((C.take n).drop i).length = n - i := by simp; omega
  have h2 : (C.take n).take i = C.take i := by rw [List.take_take]; congr 1; omega
  rw [h2]
  generalize (C.take n).drop i = M at *
  have e1 : i + 1 + M.length = n + 1 := by omega
  have e2 : (C.take (i + 1)).length = i + 1 := by simp; omega
  have e3 : (C.take i).length = i := by simp; omega
  have hs : splice (splice C (i + 1) M) i [u] = (C.take i ++ u :: M) ++ C.drop (n + 1) := by
    unfold splice
    rw [e1, List.take_append_of_le_length (by omega), List.take_take, show min i (i + 1) = i by omega, show i + [u].length = i + 1 from rfl, List.drop_left' e2]
    simp
  rw [hs]
  refine ⟨List.take_left' (by simp only [List.length_append, List.length_cons, e3]; omega), ?_⟩
  simp only [List.length_append, List.length_cons, List.length_drop, e3]
  omega
set_option maxRecDepth 100000 in
theorem splice_new {α : Type} (T Z M : List α) (i n : Nat) (u : α) (hT : T.length = i) (hM : i + M.length = n) (hZ : n + 1 ≤ i + Z.length) :
    (splice (splice (T ++ Z) i [u]) (i + 1) M).take (n + 1) = T ++ u :: M ∧ (splice (splice (T ++ Z) i [u]) (i + 1) M).length = (T ++ Z).length := by
  subst hT
  have hs : splice (splice (T ++ Z) T.length [u]) (T.length + 1) M = (T ++ u :: M) ++ Z.drop (1 + M.length) := by
    have d2 : (T ++ Z).drop (T.length + 1) = Z.drop 1 := by rw [← List.drop_drop, List.drop_left]
    have d1 : ((T ++ [u]) ++ Z.drop 1).drop (T.length + 1 + M.length) = Z.drop (1 + M.length) := by
      rw [show T.length + 1 + M.length = (T ++ [u]).length + M.length by simp, ← List.drop_drop, List.drop_left, List.drop_drop]
    unfold splice
    rw [List.take_left, show T.length + [u].length = T.length + 1 from rfl, d2, show (T ++ ([u] ++ Z.drop 1)) = (T ++ [u]) ++ Z.drop 1 by simp, List.take_left' (by simp), d1]
    simp
  rw [hs]
  refine ⟨List.take_left' (by simp only [List.length_append, List.length_cons]; omega), ?_⟩
  simp only [List.length_append, List.length_cons, List.length_drop]
  omega
end Go.Proofs.Ytigdcnoggjcddaa

