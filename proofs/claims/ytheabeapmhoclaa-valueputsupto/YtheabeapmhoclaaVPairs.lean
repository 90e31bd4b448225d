/- Pairs of groups as keys of a map: what a look-up answers, what an update leaves. No conditions; no function of the program. -/
import Derived.Test.YtheabeapmhoclaaVSameR
import Derived.Laws.StructEq
import Derived.WideKeyRuns
import Derived.MapKept
namespace Go.Proofs.Ytheabeapmhoclaa
open Go.RowKit Go.Maps

/-- A pair of groups, as a key. -/
def pkey (p : Nat × Nat) : Value := .agg #[.pointer (some ⟨p.1, 0, none⟩), .pointer (some ⟨p.2, 0, none⟩)]
/-- Pairs, all in plain blocks. -/
def PlainP (w : World) (p : Nat × Nat) : Prop := PlainB w p.1 ∧ PlainB w p.2
section
variable (W : World)
set_option maxRecDepth 100000 in
theorem ptr_in (d : Nat) {B C : Nat} (hB : PlainB W B) (hC : PlainB W C) : (Op.equalIn (d + 1) 91 (.pointer (some ⟨B, 0, none⟩)) (.pointer (some ⟨C, 0, none⟩))).run Try.prog W = .ok (decide (B = C)) W := by
  obtain ⟨j, hj, hs⟩ := Option.map_eq_some_iff.1 (show ((Try.prog.info? 95).map (fun i => decide (i.size ≠ 0))) = some true by kernel_rfl)
  have hs' : j.size ≠ 0 := of_decide_eq_true hs
  by_cases e : B = C
  · subst e
    simp [Op.equalIn, run_underlying Try.underlying91, sizeOf, typeInfo, hj, run_sameAddr_same]
  · obtain ⟨cb, tb, eb⟩ := hB
    obtain ⟨cc, tc, ec⟩ := hC
    have := run_sameAddr_other (P := Try.prog) W (a := ⟨B, 0, none⟩) (b := ⟨C, 0, none⟩) (fun e2 => e (by injection e2)) eb ec
    simp [Op.equalIn, run_underlying Try.underlying91, sizeOf, typeInfo, hj, hs', this, e]
set_option maxRecDepth 100000 in
theorem fieldsP : ((Try.prog.fieldsOf 93).toList.map (fun f => (decide (f.name = "_"), f.type, f.offset))) = [(false, 91, 0), (false, 91, 1)] := by kernel_rfl
set_option maxRecDepth 100000 in
theorem fieldsP2 : ∃ f g : Field, (Try.prog.fieldsOf 93).toList = [f, g] ∧ (f.name ≠ "_" ∧ f.type = 91 ∧ f.offset = 0) ∧ (g.name ≠ "_" ∧ g.type = 91 ∧ g.offset = 1) := by
  have h := fieldsP
  generalize (Try.prog.fieldsOf 93).toList = l at h
  have hl : l.length = 2 := by have := congrArg List.length h; simpa using this
  match l, hl, h with
  | [f, g], _, h =>
    simp at h
    exact ⟨f, g, rfl, h.1, h.2⟩
set_option maxRecDepth 100000 in
theorem structP : Try.prog.underlying 93 = some (.struct (Try.prog.fieldsOf 93)) := by kernel_rfl
set_option maxRecDepth 100000 in
theorem part_ptr (i : Nat) (a : Addr) (cs : Array Value) (h : cs[i]? = some (.pointer (some a))) : (part 91 cs i).run Try.prog W = .ok (.pointer (some a)) W := by
  simp [part, go_sem, h]
set_option maxRecDepth 100000 in
theorem pair_in (d : Nat) {p q : Nat × Nat} (hp : PlainP W p) (hq : PlainP W q) : (Op.equalIn (d + 2) 93 (pkey p) (pkey q)).run Try.prog W = .ok (decide (p = q)) W := by
  obtain ⟨f, g, e, ⟨n1, t1, o1⟩, n2, t2, o2⟩ := fieldsP2
  unfold pkey
  rw [run_equalIn_struct W (d + 1) 93 _ _ structP (by kernel_rfl), e]
  have h1 := ptr_in W d hp.1 hq.1
  have h2 := ptr_in W d hp.2 hq.2
  have p0 := part_ptr W 0 ⟨p.1, 0, none⟩ #[.pointer (some ⟨p.1, 0, none⟩), .pointer (some ⟨p.2, 0, none⟩)] rfl
  have p1 := part_ptr W 1 ⟨p.2, 0, none⟩ #[.pointer (some ⟨p.1, 0, none⟩), .pointer (some ⟨p.2, 0, none⟩)] rfl
  have q0 := part_ptr W 0 ⟨q.1, 0, none⟩ #[.pointer (some ⟨q.1, 0, none⟩), .pointer (some ⟨q.2, 0, none⟩)] rfl
  have q1 := part_ptr W 1 ⟨q.2, 0, none⟩ #[.pointer (some ⟨q.1, 0, none⟩), .pointer (some ⟨q.2, 0, none⟩)] rfl
  have hpq : decide (p = q) = (decide (p.1 = q.1) && decide (p.2 = q.2)) := by
    rw [Bool.eq_iff_iff, decide_eq_true_iff, Bool.and_eq_true, decide_eq_true_iff, decide_eq_true_iff]
    exact Prod.ext_iff
  rw [hpq]
  generalize decide (p.1 = q.1) = r1 at h1
  generalize decide (p.2 = q.2) = r2 at h2
  simp only [Op.eqFields, n1, n2, ne_eq, not_false_eq_true, if_true, t1, t2, o1, o2, Sem.run_bind, p0, q0, Result.andThen_ok, h1]
  cases r1
  · simp
  · simp only [Bool.not_true, Bool.false_eq_true, if_false, Sem.run_bind, p1, q1, Result.andThen_ok, h2]
    cases r2 <;> simp
set_option maxRecDepth 100000 in
theorem pair_eq {p q : Nat × Nat} (hp : PlainP W p) (hq : PlainP W q) : (Op.equal 93 (pkey p) (pkey q)).run Try.prog W = .ok (decide (p = q)) W := pair_in W 9998 hp hq
set_option maxRecDepth 100000 in
theorem check_ptr (em : Bool) (n : Nat) (a : Option Addr) : (Instr.checkKey em (n + 1) 91 (.pointer a)).run Try.prog W = .ok () W := by
  simp [Instr.checkKey, run_underlying Try.underlying91]
set_option maxRecDepth 100000 in
theorem check_in (em : Bool) (n : Nat) (p : Nat × Nat) : (Instr.checkKey em (n + 2) 93 (pkey p)).run Try.prog W = .ok () W := by
  obtain ⟨f, g, e, ⟨n1, t1, o1⟩, n2, t2, o2⟩ := fieldsP2
  unfold pkey
  have p0 := part_ptr W 0 ⟨p.1, 0, none⟩ #[.pointer (some ⟨p.1, 0, none⟩), .pointer (some ⟨p.2, 0, none⟩)] rfl
  have p1 := part_ptr W 1 ⟨p.2, 0, none⟩ #[.pointer (some ⟨p.1, 0, none⟩), .pointer (some ⟨p.2, 0, none⟩)] rfl
  rw [Instr.checkKey]
  simp only [Sem.run_bind, run_underlying structP, Result.andThen_ok]
  rw [← Array.forIn_toList, e]
  simp [n1, n2, t1, t2, o1, o2, p0, p1, check_ptr]
set_option maxRecDepth 100000 in
theorem check_pair (em : Bool) (p : Nat × Nat) : (Instr.checkKey em 10000 93 (pkey p)).run Try.prog W = .ok () W := check_in W em 9998 p
set_option maxRecDepth 100000 in
theorem find_pair {p : Nat × Nat} (hp : PlainP W p) : ∀ (es : List MapEntry) (S : List (Nat × Nat)) (i : Nat), es.map (·.key) = S.map pkey → (∀ e ∈ es, e.val = .agg #[]) → (∀ q ∈ S, PlainP W q) →
    ((Instr.findAsking 93 (pkey p) es i).run Try.prog W = .ok none W ∧ p ∉ S) ∨ ∃ j, (Instr.findAsking 93 (pkey p) es i).run Try.prog W = .ok (some (j, .agg #[])) W ∧ p ∈ S
  | [], S, i, hk, _, _ => by
    have : S = [] := by cases S <;> simp at hk ⊢
    subst this
    exact Or.inl ⟨by simp [Instr.findAsking], by simp⟩
  | e :: es, S, i, hk, hv, hS => by
    match S, hk, hS with
    | q :: S, hk, hS =>
      simp only [List.map_cons, List.cons.injEq] at hk
      have hq := pair_eq W hp (hS q (by simp))
      have hev := hv e (by simp)
      by_cases epq : p = q
      · right
        subst epq
        refine ⟨i, ?_, by simp⟩
        simp [Instr.findAsking, hk.1, hq, hev]
      · rcases find_pair hp es S (i + 1) hk.2 (fun x hx => hv x (by simp [hx])) (fun x hx => hS x (by simp [hx])) with ⟨h1, h2⟩ | ⟨j, h1, h2⟩
        · exact Or.inl ⟨by simp [Instr.findAsking, hk.1, hq, epq, h1], by simp [epq, h2]⟩
        · exact Or.inr ⟨j, by simp [Instr.findAsking, hk.1, hq, epq, h1], by simp [h2]⟩
end
/-- The pairs that were seen, in the call's own map. -/
def SeenM (w : World) (M : Nat) (S : List (Nat × Nat)) : Prop := ∃ es clock, w.heap[M]? = some (.map es clock) ∧ es.toList.map (·.key) = S.map pkey ∧ ∀ e ∈ es.toList, e.val = .agg #[]
set_option maxRecDepth 100000 in
theorem SeenM.below {w W : World} {M : Nat} {S : List (Nat × Nat)} (h : SeenM w M S) (hb : Below w.heap.size w W) : SeenM W M S := by
  obtain ⟨es, clock, h1, h2⟩ := h
  exact ⟨es, clock, (hb.block M (Array.getElem?_eq_some_iff.1 h1).1).trans h1, h2⟩
set_option maxRecDepth 100000 in
theorem SeenM.grown {w W : World} {M : Nat} {S : List (Nat × Nat)} (h : SeenM w M S) {row : Option Nat} (hg : w.grownBy W row) (hr : some M ≠ row) : SeenM W M S := by
  obtain ⟨es, clock, h1, h2⟩ := h
  exact ⟨es, clock, (hg.block M (Array.getElem?_eq_some_iff.1 h1).1 hr).trans h1, h2⟩
set_option maxRecDepth 100000 in
theorem SeenM.lt {w : World} {M : Nat} {S : List (Nat × Nat)} (h : SeenM w M S) : M < w.heap.size := by
  obtain ⟨es, clock, h1, h2⟩ := h
  exact (Array.getElem?_eq_some_iff.1 h1).1
set_option maxRecDepth 100000 in
theorem mapTP : Try.prog.underlying 87 = some (.map 93 112) := by kernel_rfl
set_option maxRecDepth 100000 in
theorem findP (W : World) (x : Value) (es : List MapEntry) : (Instr.findKey 93 x es).run Try.prog W = (Instr.findAsking 93 x es).run Try.prog W := run_findKey_eq W (by rw [structP]) x es
set_option maxRecDepth 100000 in
theorem look_pair {W : World} {M : Nat} {S : List (Nat × Nat)} (h : SeenM W M S) {p : Nat × Nat} (hp : PlainP W p) (hS : ∀ q ∈ S, PlainP W q) :
    (Instr.lookup 87 (.map (some M)) (pkey p) true).run Try.prog W = .ok (.tuple #[.agg #[], .bool (decide (p ∈ S))]) W := by
  obtain ⟨es, clock, h1, h2, h3⟩ := h
  unfold Instr.lookup
  rcases find_pair W hp es.toList S 0 h2 h3 hS with ⟨e1, e2⟩ | ⟨j, e1, e2⟩
  · simp [run_underlying mapTP, MapKept.run_getObj_map h1, check_pair, findP, e1, e2]
  · simp [run_underlying mapTP, MapKept.run_getObj_map h1, check_pair, findP, e1, e2]
set_option maxRecDepth 100000 in
theorem put_pair {W : World} {M : Nat} {S : List (Nat × Nat)} (h : SeenM W M S) {p : Nat × Nat} (hp : PlainP W p) (hS : ∀ q ∈ S, PlainP W q) (hn : p ∉ S) :
    ∃ W', (Instr.mapUpdate 87 (.map (some M)) (pkey p) (.agg #[])).run Try.prog W = .ok () W' ∧ SeenM W' M (S ++ [p]) ∧ W.grownBy W' (some M) := by
  obtain ⟨es, clock, h1, h2, h3⟩ := h
  have hlt : M < W.heap.size := (Array.getElem?_eq_some_iff.1 h1).1
  rcases find_pair W hp es.toList S 0 h2 h3 hS with ⟨e1, e2⟩ | ⟨j, e1, e2⟩
  · refine ⟨{ W with heap := W.heap.setIfInBounds M (.map (es.push { key := pkey p, val := .agg #[], born := clock }) (clock + 1)) }, ?_, ⟨es.push { key := pkey p, val := .agg #[], born := clock }, clock + 1, ?_, ?_, ?_⟩, ⟨rfl, rfl, rfl, by simp, fun k hk hr => ?_⟩⟩
    · unfold Instr.mapUpdate
      simp [run_underlying mapTP, MapKept.run_getObj_map h1, check_pair, findP, e1, MapKept.run_setObj_map _ h1]
    · show (W.heap.setIfInBounds M _)[M]? = _
      rw [Array.getElem?_setIfInBounds_self_of_lt hlt]
    · simp [h2]
    · intro e he
      simp at he
      rcases he with he | rfl
      · exact h3 e (by simpa using he)
      · rfl
    · show (W.heap.setIfInBounds M _)[k]? = _
      rw [Array.getElem?_setIfInBounds_ne (fun e => hr (by rw [e]))]
  · exact absurd e2 hn
end Go.Proofs.Ytheabeapmhoclaa
