/- copy, by its run, at a step of a region; slices' rows laid over. No conditions. -/
import Derived.Test.YtheabeapmhoclaaVClone
import Derived.Laws.CopyOwn
namespace Go.Proofs.Ytheabeapmhoclaa
open Go.RowKit Go.Maps

set_option maxRecDepth 100000 in
theorem setRow_other (w : World) (g : Nat) (cs : Array Value) (k : Nat) (h : k ≠ g) : (w.setRow g cs).heap[k]? = w.heap[k]? := by
  simp only [World.setRow, Array.getElem?_modify]
  rw [if_neg (Ne.symm h)]
set_option maxRecDepth 100000 in
/-- What a copy into a row leaves. -/
theorem copy_run (W : World) (T E ty : TypeId) (hu : Try.prog.underlying T = some (.slice E)) (hs : (Try.prog.info? E).map (·.size) = some 1) (g off dLen dCap : Nat) (ad : Addr) (sLen sCap : Nat) (cur : List Value) (t : TypeId) (cs : List Value)
    (hg : W.heap[g]? = some (.cells cur.toArray t (0, 0))) (hn : cs.length = Nat.min sLen dLen) (hsrc : ∀ j v, cs[j]? = some v → W.cell? (ad.add j) = some v) (hfit : off + cs.length ≤ cur.length) (h1 : ∀ v ∈ cs, v.oneCell' = true) :
    ∃ W', (Builtin.copy_ #[T, T] ty #[.slice (some ⟨g, off, none⟩) dLen dCap, .slice (some ad) sLen sCap]).run Try.prog W = .ok (goInt cs.length) W' ∧ W'.heap[g]? = some (.cells (splice cur off cs).toArray t (0, 0)) ∧ (∀ k, k ≠ g → W'.heap[k]? = W.heap[k]?) ∧ W'.heap.size = W.heap.size ∧ ∀ X w0, X ≤ g → Below X w0 W → Below X w0 W' := by
  refine ⟨_, run_copy_row (P := Try.prog) W T T ty E g off dLen dCap ad sLen sCap cur.toArray t cs hu hs hg hn hsrc (by simpa using hfit) h1, ?_, fun k hk => setRow_other _ _ _ _ hk, by simp [World.setRow], fun X w0 hX hb => below_setRow hb hX _⟩
  simpa [splice] using setRow_heap W g _ _ t _ hg
set_option maxRecDepth 100000 in
theorem step_copy_any {ops : Array Oper} {o : Oper} {a : Act} {w : World} {K : Act → World → Prop} {Q : Exit → Act → World → Prop} {E : Prop} (hgd : o.guard = none) (d s : Operand) (T : TypeId)
    (ho : o.op = .call { callee := .builtin .copy, args := #[d, s], argTypes := #[T, T] }) (v u : Value) (hd : a.eval d = v) (hs : a.eval s = u) {v' : Value} {w' : World}
    (hr : (Builtin.copy_ #[T, T] o.type #[v, u]).run Try.prog w = .ok v' w') (h : K (a.put o.dst v') w') :
    if Region.wanted o (yielded ops a.tmps) = true then Oper.wp Try.prog o a w K Q else E := by
  have hw : Region.wanted o (yielded ops a.tmps) = true := by simp [Region.wanted, hgd]
  rw [if_pos hw]
  unfold Oper.wp execOp
  simp only [ho, resolve, invoke, builtin, Sem.run_bind, Sem.run_pure, Result.andThen_ok, List.map_toArray, List.map_cons, List.map_nil, hd, hs, hr]
  exact h
set_option maxRecDepth 100000 in
theorem wpList_copy_any {ops : Array Oper} {rest : List Oper} {o : Oper} {a : Act} {w : World} {Q : Exit → Act → World → Prop} (hgd : o.guard = none) (d s : Operand) (T : TypeId)
    (ho : o.op = .call { callee := .builtin .copy, args := #[d, s], argTypes := #[T, T] }) (v u : Value) (hd : a.eval d = v) (hs : a.eval s = u) {v' : Value} {w' : World}
    (hr : (Builtin.copy_ #[T, T] o.type #[v, u]).run Try.prog w = .ok v' w') (h : wpList Try.prog ops Q rest (a.put o.dst v') w') : wpList Try.prog ops Q (o :: rest) a w := by
  refine wpList_plain hgd fun K hK => ?_
  unfold Oper.wp execOp
  simp only [ho, resolve, invoke, builtin, Sem.run_bind, Sem.run_pure, Result.andThen_ok, List.map_toArray, List.map_cons, List.map_nil, hd, hs, hr]
  exact hK _ _ h
set_option maxRecDepth 100000 in
/-- A row into which one is put, in place; and a new one. -/
theorem splice_room {α : Type} (C us : List α) (i n : Nat) (u : α) (hi : i < n) (hn : C.take n = us) (hc : n + 1 ≤ C.length) :
    (splice (splice C (i + 1) (us.drop i)) i [u]).take (n + 1) = us.take i ++ u :: us.drop i ∧ (splice (splice C (i + 1) (us.drop i)) i [u]).length = C.length := by
  subst hn
  have h1 : ((C.take n).drop i).length = n - i := by simp; omega
  have h2 : (C.take n).take i = C.take i := by rw [List.take_take]; congr 1; omega
  rw [h2]
  generalize (C.take n).drop i = M at *
  have e1 : i + 1 + M.length = n + 1 := by omega
  have e2 : (C.take (i + 1)).length = i + 1 := by simp; omega
  have e3 : (C.take i).length = i := by simp; omega
  have hs : splice (splice C (i + 1) M) i [u] = (C.take i ++ u :: M) ++ C.drop (n + 1) := by
    unfold splice
    rw [e1, List.take_append_of_le_length (by omega), List.take_take, show min i (i + 1) = i by omega, show i + [u].length = i + 1 from rfl, List.drop_left' e2]
    simp
  rw [hs]
  refine ⟨List.take_left' (by simp only [List.length_append, List.length_cons, e3]; omega), ?_⟩
  simp only [List.length_append, List.length_cons, List.length_drop, e3]
  omega
set_option maxRecDepth 100000 in
theorem splice_new {α : Type} (T Z M : List α) (i n : Nat) (u : α) (hT : T.length = i) (hM : i + M.length = n) (hZ : n + 1 ≤ i + Z.length) :
    (splice (splice (T ++ Z) i [u]) (i + 1) M).take (n + 1) = T ++ u :: M ∧ (splice (splice (T ++ Z) i [u]) (i + 1) M).length = (T ++ Z).length := by
  subst hT
  have hs : splice (splice (T ++ Z) T.length [u]) (T.length + 1) M = (T ++ u :: M) ++ Z.drop (1 + M.length) := by
    have d2 : (T ++ Z).drop (T.length + 1) = Z.drop 1 := by rw [← List.drop_drop, List.drop_left]
    have d1 : ((T ++ [u]) ++ Z.drop 1).drop (T.length + 1 + M.length) = Z.drop (1 + M.length) := by
      rw [show T.length + 1 + M.length = (T ++ [u]).length + M.length by simp, ← List.drop_drop, List.drop_left, List.drop_drop]
    unfold splice
    rw [List.take_left, show T.length + [u].length = T.length + 1 from rfl, d2, show (T ++ ([u] ++ Z.drop 1)) = (T ++ [u]) ++ Z.drop 1 by simp, List.take_left' (by simp), d1]
    simp
  rw [hs]
  refine ⟨List.take_left' (by simp only [List.length_append, List.length_cons]; omega), ?_⟩
  simp only [List.length_append, List.length_cons, List.length_drop]
  omega
end Go.Proofs.Ytheabeapmhoclaa
