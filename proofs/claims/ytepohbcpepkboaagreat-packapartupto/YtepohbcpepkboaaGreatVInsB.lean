/- What inside answers, by how a value is held; whether two slices of texts are the same. Conditions: at most 1048576 texts. -/
import Derived.Test.YtepohbcpepkboaaGreatVSameR
import Derived.Laws.StructEq
import Derived.WideKeyRuns
import Derived.MapKept
import Derived.Test.YtepohbcpepkboaaGreatVGoTo
import Derived.Test.YtepohbcpepkboaaGreatVCleanB
import Derived.Test.YtepohbcpepkboaaGreatVCleanQ
import Derived.Deep.RegionHeld
import Derived.BigRegion
namespace Go.Proofs.YtepohbcpepkboaaGreat
open Go.RowKit Go.Maps

/-- A pair of groups, as a key. -/
def pkey (p : Nat × Nat) : Value := .agg #[.pointer (some ⟨p.1, 0, none⟩), .pointer (some ⟨p.2, 0, none⟩)]
/-- Pairs, all in plain blocks. -/
def PlainP (w : World) (p : Nat × Nat) : Prop := PlainB w p.1 ∧ PlainB w p.2
section
variable (W : World)
set_option maxRecDepth 100000 in
theorem ptr_in (d : Nat) {B C : Nat} (hB : PlainB W B) (hC : PlainB W C) : (Op.equalIn (d + 1) 94 (.pointer (some ⟨B, 0, none⟩)) (.pointer (some ⟨C, 0, none⟩))).run Tryz.prog W = .ok (decide (B = C)) W := by
  obtain ⟨j, hj, hs⟩ := Option.map_eq_some_iff.1 (show ((Tryz.prog.info? 98).map (fun i => decide (i.size ≠ 0))) = some true by kernel_rfl)
  have hs' : j.size ≠ 0 := of_decide_eq_true hs
  by_cases e : B = C
  · subst e
    simp [Op.equalIn, run_underlying Tryz.underlying94, sizeOf, typeInfo, hj, run_sameAddr_same]
  · obtain ⟨cb, tb, eb⟩ := hB
    obtain ⟨cc, tc, ec⟩ := hC
    have := run_sameAddr_other (P := Tryz.prog) W (a := ⟨B, 0, none⟩) (b := ⟨C, 0, none⟩) (fun e2 => e (by injection e2)) eb ec
    simp [Op.equalIn, run_underlying Tryz.underlying94, sizeOf, typeInfo, hj, hs', this, e]
set_option maxRecDepth 100000 in
theorem fieldsP : ((Tryz.prog.fieldsOf 96).toList.map (fun f => (decide (f.name = "_"), f.type, f.offset))) = [(false, 94, 0), (false, 94, 1)] := by kernel_rfl
set_option maxRecDepth 100000 in
theorem fieldsP2 : ∃ f g : Field, (Tryz.prog.fieldsOf 96).toList = [f, g] ∧ (f.name ≠ "_" ∧ f.type = 94 ∧ f.offset = 0) ∧ (g.name ≠ "_" ∧ g.type = 94 ∧ g.offset = 1) := by
  have h := fieldsP
  generalize (Tryz.prog.fieldsOf 96).toList = l at h
  have hl : l.length = 2 := by have := congrArg List.length h; simpa using this
  match l, hl, h with
  | [f, g], _, h =>
    simp at h
    exact ⟨f, g, rfl, h.1, h.2⟩
set_option maxRecDepth 100000 in
theorem structP : Tryz.prog.underlying 96 = some (.struct (Tryz.prog.fieldsOf 96)) := by kernel_rfl
set_option maxRecDepth 100000 in
theorem part_ptr (i : Nat) (a : Addr) (cs : Array Value) (h : cs[i]? = some (.pointer (some a))) : (part 94 cs i).run Tryz.prog W = .ok (.pointer (some a)) W := by
  simp [part, go_sem, h]
set_option maxRecDepth 100000 in
theorem pair_in (d : Nat) {p q : Nat × Nat} (hp : PlainP W p) (hq : PlainP W q) : (Op.equalIn (d + 2) 96 (pkey p) (pkey q)).run Tryz.prog W = .ok (decide (p = q)) W := by
  obtain ⟨f, g, e, ⟨n1, t1, o1⟩, n2, t2, o2⟩ := fieldsP2
  unfold pkey
  rw [run_equalIn_struct W (d + 1) 96 _ _ structP (by kernel_rfl), e]
  have h1 := ptr_in W d hp.1 hq.1
  have h2 := ptr_in W d hp.2 hq.2
  have p0 := part_ptr W 0 ⟨p.1, 0, none⟩ #[.pointer (some ⟨p.1, 0, none⟩), .pointer (some ⟨p.2, 0, none⟩)] rfl
  have p1 := part_ptr W 1 ⟨p.2, 0, none⟩ #[.pointer (some ⟨p.1, 0, none⟩), .pointer (some ⟨p.2, 0, none⟩)] rfl
  have q0 := part_ptr W 0 ⟨q.1, 0, none⟩ #[.pointer (some ⟨q.1, 0, none⟩), .pointer (some ⟨q.2, 0, none⟩)] rfl
  have q1 := part_ptr W 1 ⟨q.2, 0, none⟩ #[.pointer (some ⟨q.1, 0, none⟩), .pointer (some ⟨q.2, 0, none⟩)] rfl
  have hpq : decide (p = q) = (decide (p.1 = q.1) && decide (p.2 = q.2)) := by
    rw [Bool.eq_iff_iff, decide_eq_true_iff, Bool.and_eq_true, decide_eq_true_iff, decide_eq_true_iff]
    exact Prod.ext_iff
  rw [hpq]
  generalize decide (p.1 = q.1) = r1 at h1
  generalize decide (p.2 = q.2) = r2 at h2
  simp only [Op.eqFields, n1, n2, ne_eq, not_false_eq_true, if_true, t1, t2, o1, o2, Sem.run_bind, p0, q0, Result.andThen_ok, h1]
  cases r1
  · simp
  · simp only [Bool.not_true, Bool.false_eq_true, if_false, Sem.run_bind, p1, q1, Result.andThen_ok, h2]
    cases r2 <;> simp
set_option maxRecDepth 100000 in
theorem pair_eq {p q : Nat × Nat} (hp : PlainP W p) (hq : PlainP W q) : (Op.equal 96 (pkey p) (pkey q)).run Tryz.prog W = .ok (decide (p = q)) W := pair_in W 9998 hp hq
set_option maxRecDepth 100000 in
theorem check_ptr (em : Bool) (n : Nat) (a : Option Addr) : (Instr.checkKey em (n + 1) 94 (.pointer a)).run Tryz.prog W = .ok () W := by
  simp [Instr.checkKey, run_underlying Tryz.underlying94]
set_option maxRecDepth 100000 in
theorem check_in (em : Bool) (n : Nat) (p : Nat × Nat) : (Instr.checkKey em (n + 2) 96 (pkey p)).run Tryz.prog W = .ok () W := by
  obtain ⟨f, g, e, ⟨n1, t1, o1⟩, n2, t2, o2⟩ := fieldsP2
  unfold pkey
  have p0 := part_ptr W 0 ⟨p.1, 0, none⟩ #[.pointer (some ⟨p.1, 0, none⟩), .pointer (some ⟨p.2, 0, none⟩)] rfl
  have p1 := part_ptr W 1 ⟨p.2, 0, none⟩ #[.pointer (some ⟨p.1, 0, none⟩), .pointer (some ⟨p.2, 0, none⟩)] rfl
  rw [Instr.checkKey]
  simp only [Sem.run_bind, run_underlying structP, Result.andThen_ok]
  rw [← Array.forIn_toList, e]
  simp [n1, n2, t1, t2, o1, o2, p0, p1, check_ptr]
set_option maxRecDepth 100000 in
theorem check_pair (em : Bool) (p : Nat × Nat) : (Instr.checkKey em 10000 96 (pkey p)).run Tryz.prog W = .ok () W := check_in W em 9998 p
set_option maxRecDepth 100000 in
theorem find_pair {p : Nat × Nat} (hp : PlainP W p) : ∀ (es : List MapEntry) (S : List (Nat × Nat)) (i : Nat), es.map (·.key) = S.map pkey → (∀ e ∈ es, e.val = .agg #[]) → (∀ q ∈ S, PlainP W q) →
    ((Instr.findAsking 96 (pkey p) es i).run Tryz.prog W = .ok none W ∧ p ∉ S) ∨ ∃ j, (Instr.findAsking 96 (pkey p) es i).run Tryz.prog W = .ok (some (j, .agg #[])) W ∧ p ∈ S
  | [], S, i, hk, _, _ => by
    have : S = [] := by cases S <;> simp at hk ⊢
    subst this
    exact Or.inl ⟨by simp [Instr.findAsking], by simp⟩
  | e :: es, S, i, hk, hv, hS => by
    match S, hk, hS with
    | q :: S, hk, hS =>
      simp only [List.map_cons, List.cons.injEq] at hk
      have hq := pair_eq W hp (hS q (by simp))
      have hev := hv e (by simp)
      by_cases epq : p = q
      · right
        subst epq
        refine ⟨i, ?_, by simp⟩
        simp [Instr.findAsking, hk.1, hq, hev]
      · rcases find_pair hp es S (i + 1) hk.2 (fun x hx => hv x (by simp [hx])) (fun x hx => hS x (by simp [hx])) with ⟨h1, h2⟩ | ⟨j, h1, h2⟩
        · exact Or.inl ⟨by simp [Instr.findAsking, hk.1, hq, epq, h1], by simp [epq, h2]⟩
        · exact Or.inr ⟨j, by simp [Instr.findAsking, hk.1, hq, epq, h1], by simp [h2]⟩
end
/-- The pairs that were seen, in the call's own map. -/
def SeenM (w : World) (M : Nat) (S : List (Nat × Nat)) : Prop := ∃ es clock, w.heap[M]? = some (.map es clock) ∧ es.toList.map (·.key) = S.map pkey ∧ ∀ e ∈ es.toList, e.val = .agg #[]
set_option maxRecDepth 100000 in
theorem SeenM.below {w W : World} {M : Nat} {S : List (Nat × Nat)} (h : SeenM w M S) (hb : Below w.heap.size w W) : SeenM W M S := by
  obtain ⟨es, clock, h1, h2⟩ := h
  exact ⟨es, clock, (hb.block M (Array.getElem?_eq_some_iff.1 h1).1).trans h1, h2⟩
set_option maxRecDepth 100000 in
theorem SeenM.grown {w W : World} {M : Nat} {S : List (Nat × Nat)} (h : SeenM w M S) {row : Option Nat} (hg : w.grownBy W row) (hr : some M ≠ row) : SeenM W M S := by
  obtain ⟨es, clock, h1, h2⟩ := h
  exact ⟨es, clock, (hg.block M (Array.getElem?_eq_some_iff.1 h1).1 hr).trans h1, h2⟩
set_option maxRecDepth 100000 in
theorem SeenM.lt {w : World} {M : Nat} {S : List (Nat × Nat)} (h : SeenM w M S) : M < w.heap.size := by
  obtain ⟨es, clock, h1, h2⟩ := h
  exact (Array.getElem?_eq_some_iff.1 h1).1
set_option maxRecDepth 100000 in
theorem mapTP : Tryz.prog.underlying 90 = some (.map 96 106) := by kernel_rfl
set_option maxRecDepth 100000 in
theorem findP (W : World) (x : Value) (es : List MapEntry) : (Instr.findKey 96 x es).run Tryz.prog W = (Instr.findAsking 96 x es).run Tryz.prog W := run_findKey_eq W (by rw [structP]) x es
set_option maxRecDepth 100000 in
theorem look_pair {W : World} {M : Nat} {S : List (Nat × Nat)} (h : SeenM W M S) {p : Nat × Nat} (hp : PlainP W p) (hS : ∀ q ∈ S, PlainP W q) :
    (Instr.lookup 90 (.map (some M)) (pkey p) true).run Tryz.prog W = .ok (.tuple #[.agg #[], .bool (decide (p ∈ S))]) W := by
  obtain ⟨es, clock, h1, h2, h3⟩ := h
  unfold Instr.lookup
  rcases find_pair W hp es.toList S 0 h2 h3 hS with ⟨e1, e2⟩ | ⟨j, e1, e2⟩
  · simp [run_underlying mapTP, MapKept.run_getObj_map h1, check_pair, findP, e1, e2]
  · simp [run_underlying mapTP, MapKept.run_getObj_map h1, check_pair, findP, e1, e2]
set_option maxRecDepth 100000 in
theorem put_pair {W : World} {M : Nat} {S : List (Nat × Nat)} (h : SeenM W M S) {p : Nat × Nat} (hp : PlainP W p) (hS : ∀ q ∈ S, PlainP W q) (hn : p ∉ S) :
    ∃ W', (Instr.mapUpdate 90 (.map (some M)) (pkey p) (.agg #[])).run Tryz.prog W = .ok () W' ∧ SeenM W' M (S ++ [p]) ∧ W.grownBy W' (some M) := by
  obtain ⟨es, clock, h1, h2, h3⟩ := h
  have hlt : M < W.heap.size := (Array.getElem?_eq_some_iff.1 h1).1
  rcases find_pair W hp es.toList S 0 h2 h3 hS with ⟨e1, e2⟩ | ⟨j, e1, e2⟩
  · refine ⟨{ W with heap := W.heap.setIfInBounds M (.map (es.push { key := pkey p, val := .agg #[], born := clock }) (clock + 1)) }, ?_, ⟨es.push { key := pkey p, val := .agg #[], born := clock }, clock + 1, ?_, ?_, ?_⟩, ⟨rfl, rfl, rfl, by simp, fun k hk hr => ?_⟩⟩
    · unfold Instr.mapUpdate
      simp [run_underlying mapTP, MapKept.run_getObj_map h1, check_pair, findP, e1, MapKept.run_setObj_map _ h1]
    · show (W.heap.setIfInBounds M _)[M]? = _
      rw [Array.getElem?_setIfInBounds_self_of_lt hlt]
    · simp [h2]
    · intro e he
      simp at he
      rcases he with he | rfl
      · exact h3 e (by simpa using he)
      · rfl
    · show (W.heap.setIfInBounds M _)[k]? = _
      rw [Array.getElem?_setIfInBounds_ne (fun e => hr (by rw [e]))]
  · exact absurd e2 hn
end Go.Proofs.YtepohbcpepkboaaGreat

namespace Go.Proofs.YtepohbcpepkboaaGreat
open Go.RowKit Go.Maps Go.WideMaps

set_option maxRecDepth 100000 in
/-- A step of a region that draws its order, behind a guard. -/
theorem step_want {ops : Array Oper} {o : Oper} {a : Act} {w : World} {K : Act → World → Prop} {Q : Exit → Act → World → Prop} {E : Prop} (hw : Region.wanted o (yielded ops a.tmps) = true) (h : Oper.wp Tryz.prog o a w K Q) :
    if Region.wanted o (yielded ops a.tmps) = true then Oper.wp Tryz.prog o a w K Q else E := by
  rw [if_pos hw]
  exact h
set_option maxRecDepth 100000 in
set_option maxHeartbeats 1600000 in
theorem inside_leaf {h : Value} {v : V} (hl : Leaf h v) (w : World) : Calls Tryz.prog 74 #[h] w fun e w' => e = .returned (.tuple #[.pointer none, .slice none 0 0]) ∧ Below w.heap.size w w' := by
  have aG := as_group
  have aT := as_table
  have nG := an_group
  have nT := an_table
  rcases hl with ⟨rfl, rfl⟩ | ⟨rfl, rfl⟩ | ⟨b, rfl, rfl⟩ | ⟨n, rfl, rfl⟩ | ⟨n, m, hn, hm, rfl, rfl⟩ | ⟨s, rfl, rfl⟩
  all_goals
    go_enter Tryz.func74, Tryz.ntmps74
    go_wp2_with fail
    go_ret2
    exact ⟨rfl, Below.refl _ _⟩
set_option maxRecDepth 100000 in
set_option maxHeartbeats 1600000 in
theorem inside_list (B : Nat) (w : World) : Calls Tryz.prog 74 #[.iface 94 (.pointer (some ⟨B, 0, none⟩))] w fun e w' => e = .returned (.tuple #[.pointer (some ⟨B, 0, none⟩), .slice none 0 0]) ∧ Below w.heap.size w w' := by
  have aG := as_group
  have aT := as_table
  go_enter Tryz.func74, Tryz.ntmps74
  go_wp2_with fail
  go_ret2
  exact ⟨rfl, Below.refl _ _⟩
set_option maxRecDepth 100000 in
set_option maxHeartbeats 1600000 in
theorem inside_map (B : Nat) (ka : Option Addr) (n kc : Nat) (w : World) (c5 : w.cell? ⟨B, 5, none⟩ = some (.slice ka n kc)) : Calls Tryz.prog 74 #[.iface 141 (.pointer (some ⟨B, 0, none⟩))] w fun e w' => e = .returned (.tuple #[.pointer (some ⟨B, 0, none⟩), .slice ka n kc]) ∧ Below w.heap.size w w' := by
  have aG := as_group
  have aT := as_table
  go_enter Tryz.func74, Tryz.ntmps74
  go_wp2_with fail
  go_region
  go_wp2_with fail
  go_ret2
  exact ⟨rfl, by repeat (first | exact Below.refl _ _ | apply Below.drew)⟩
set_option maxRecDepth 100000 in
theorem take_grow {q r : List ByteArray} {j : Nat} (hq : j < q.length) (hr : j < r.length) (h : q.take j = r.take j) (he : q[j] = r[j]) : q.take (j + 1) = r.take (j + 1) := by
  rw [List.take_succ_eq_append_getElem hq, List.take_succ_eq_append_getElem hr, h, he]
set_option maxRecDepth 100000 in
set_option maxHeartbeats 3200000 in
theorem equal_any {w : World} {ok ok' : Nat → Prop} {q r : List ByteArray} {a b : Option Addr} (hq : SRow w ok a q) (hr : SRow w ok' b r) (c d : Nat) (hl : q.length ≤ 9223372036854775807) :
    Calls Tryz.prog 78 #[.slice a q.length c, .slice b r.length d] w fun e w' => (∃ x : Bool, e = .returned (.bool x) ∧ (x = true ↔ q = r)) ∧ Below w.heap.size w w' := by
  by_cases hn : q.length = r.length
  · have hn' : ((q.length : Int) == (r.length : Int)) = true := by rw [hn]; simp
    have HN : Hid (q.length = r.length) := hn
    have HQ : Hid (∀ j (hj : j < q.length) (hj' : j < r.length), ∃ kb ko lb lo, a = some ⟨kb, ko, none⟩ ∧ b = some ⟨lb, lo, none⟩ ∧ ∀ W, Below w.heap.size w W → W.cell? ⟨kb, ko + j, none⟩ = some (.string q[j]) ∧ W.cell? ⟨lb, lo + j, none⟩ = some (.string r[j])) := fun j hj hj2 => by
      obtain ⟨kb, ko, e1, -, h1⟩ := hq.2 (by intro e; subst e; simp at hj)
      obtain ⟨lb, lo, e2, -, h2⟩ := hr.2 (by intro e; subst e; simp at hn; subst hn; simp at hj)
      exact ⟨kb, ko, lb, lo, e1, e2, fun W hW => ⟨(hW.cell (p := ⟨kb, ko + j, none⟩) (World.block_lt_of_cell? _ _ (h1 j hj))).trans (h1 j hj), (hW.cell (p := ⟨lb, lo + j, none⟩) (World.block_lt_of_cell? _ _ (h2 j hj2))).trans (h2 j hj2)⟩⟩
    clear hq hr hn
    go_enter Tryz.func78, Tryz.ntmps78
    go_wp2_with fail
    go_loopw [13] (fun si wr => ∃ j : Nat, j ≤ q.length ∧ si = .int .i64 j ∧ Hid (q.take j = r.take j) ∧ Below w.heap.size w wr) (fun si _ => q.length - (intOf si).toNat)
    case atStart => exact ⟨0, by omega, rfl, by show List.take _ _ = _; simp, Below.refl _ _⟩
    case round =>
      obtain ⟨j, hj, rfl, ht, hb⟩ := hrel
      by_cases hlt : j < q.length
      · have hltr : j < r.length := by have := HN.out; omega
        obtain ⟨kb, ko, lb, lo, rfl, rfl, hc⟩ := HQ.out j hlt hltr
        have HR1 : Hid (∀ W, Below wr.heap.size wr W → W.cell? ⟨kb, ko + j, none⟩ = some (.string q[j]) ∧ W.cell? ⟨lb, lo + j, none⟩ = some (.string r[j])) := fun W hW => hc W (hb.trans (hW.mono hb.size))
        by_cases he : q[j] = r[j]
        · have hte := toList_eq he
          have ht2 : Hid (q.take (j + 1) = r.take (j + 1)) := take_grow hlt hltr ht.out he
          generalize q[j] = y1 at *
          generalize r[j] = y2 at *
          clear HQ hc ht he
          go_upto_region 6 with fail
          refine wp_region_held_drew (S := fun w' => Below wr.heap.size wr w') (by kernel_rfl) (Below.drew (Below.refl _ _)) (fun hSS => ?_)
          refine wpAnyH_take (i := 0) (v := ?_) rfl (by kernel_rfl) (by kernel_rfl) (by kernel_rfl) (fun _ _ _ h => h) (Or.inl ⟨by rfl, ?_⟩) hSS ?_
          rotate_left
          · intro wz hSz
            go_simp
            try with_reducible rfl
          simp only [List.getElem_toArray, List.getElem_cons_zero, Act.put, List.setIfInBounds_toArray, List.set_cons_zero, List.set_cons_succ]
          refine wpAnyH_take (i := 1) (v := ?_) rfl (by kernel_rfl) (by kernel_rfl) (by kernel_rfl) (fun _ _ _ h => h) (Or.inl ⟨by rfl, ?_⟩) hSS ?_
          rotate_left
          · intro wz hSz
            go_simp
            try with_reducible rfl
          simp only [List.getElem_toArray, List.getElem_cons_zero, List.getElem_cons_succ, Act.put, List.setIfInBounds_toArray, List.set_cons_zero, List.set_cons_succ]
          refine wpAnyH_take (i := 2) (v := ?_) rfl (by kernel_rfl) (by kernel_rfl) (by kernel_rfl) (fun _ _ _ h => h) (Or.inl ⟨by rfl, ?_⟩) hSS ?_
          rotate_left
          · intro wz hSz
            go_simp
            try with_reducible rfl
          simp only [List.getElem_toArray, List.getElem_cons_zero, List.getElem_cons_succ, Act.put, List.setIfInBounds_toArray, List.set_cons_zero, List.set_cons_succ]
          refine wpAnyH_take (i := 3) (v := ?_) rfl (by kernel_rfl) (by kernel_rfl) (by kernel_rfl) (fun _ _ _ h => h) (Or.inl ⟨by rfl, ?_⟩) hSS ?_
          rotate_left
          · intro wz hSz
            obtain ⟨p0, p1⟩ := HR1.out _ hSz
            go_simp
            try with_reducible rfl
          simp only [List.getElem_toArray, List.getElem_cons_zero, List.getElem_cons_succ, Act.put, List.setIfInBounds_toArray, List.set_cons_zero, List.set_cons_succ]
          refine wpAnyH_take (i := 4) (v := ?_) rfl (by kernel_rfl) (by kernel_rfl) (by kernel_rfl) (fun _ _ _ h => h) (Or.inl ⟨by rfl, ?_⟩) hSS ?_
          rotate_left
          · intro wz hSz
            go_simp
            try with_reducible rfl
          simp only [List.getElem_toArray, List.getElem_cons_zero, List.getElem_cons_succ, Act.put, List.setIfInBounds_toArray, List.set_cons_zero, List.set_cons_succ]
          refine wpAnyH_take (i := 5) (v := ?_) rfl (by kernel_rfl) (by kernel_rfl) (by kernel_rfl) (fun _ _ _ h => h) (Or.inl ⟨by rfl, ?_⟩) hSS ?_
          rotate_left
          · intro wz hSz
            go_simp
            try with_reducible rfl
          simp only [List.getElem_toArray, List.getElem_cons_zero, List.getElem_cons_succ, Act.put, List.setIfInBounds_toArray, List.set_cons_zero, List.set_cons_succ]
          refine wpAnyH_take (i := 6) (v := ?_) rfl (by kernel_rfl) (by kernel_rfl) (by kernel_rfl) (fun _ _ _ h => h) (Or.inl ⟨by rfl, ?_⟩) hSS ?_
          rotate_left
          · intro wz hSz
            go_simp
            try with_reducible rfl
          simp only [List.getElem_toArray, List.getElem_cons_zero, List.getElem_cons_succ, Act.put, List.setIfInBounds_toArray, List.set_cons_zero, List.set_cons_succ]
          refine wpAnyH_take (i := 7) (v := ?_) rfl (by kernel_rfl) (by kernel_rfl) (by kernel_rfl) (fun _ _ _ h => h) (Or.inl ⟨by rfl, ?_⟩) hSS ?_
          rotate_left
          · intro wz hSz
            obtain ⟨p0, p1⟩ := HR1.out _ hSz
            go_simp
            try with_reducible rfl
          simp only [List.getElem_toArray, List.getElem_cons_zero, List.getElem_cons_succ, Act.put, List.setIfInBounds_toArray, List.set_cons_zero, List.set_cons_succ]
          refine wpAnyH_take (i := 8) (v := (.bool false)) rfl (by kernel_rfl) (by kernel_rfl) (by kernel_rfl) (fun _ _ _ h => h) (Or.inl ⟨by rfl, ?_⟩) hSS ?_
          · intro wz hSz
            go_simp
          simp only [List.getElem_toArray, List.getElem_cons_zero, List.getElem_cons_succ, Act.put, List.setIfInBounds_toArray, List.set_cons_zero, List.set_cons_succ]
          refine wpAnyH_done (by kernel_rfl) ?_ _
          go_wp2_with fail
          go_roundw
          case rel => exact ⟨j + 1, by omega, by go_num, ht2, hb.trans (hSS.mono hb.size)⟩
          case measure => simp [intOf]; omega
        · have hte := toList_ne he
          have hne : Hid (q ≠ r) := fun e => he (by simp only [e])
          generalize q[j] = y1 at *
          generalize r[j] = y2 at *
          clear HQ hc ht he
          go_upto_region 6 with fail
          refine wp_region_held_drew (S := fun w' => Below wr.heap.size wr w') (by kernel_rfl) (Below.drew (Below.refl _ _)) (fun hSS => ?_)
          refine wpAnyH_take (i := 0) (v := ?_) rfl (by kernel_rfl) (by kernel_rfl) (by kernel_rfl) (fun _ _ _ h => h) (Or.inl ⟨by rfl, ?_⟩) hSS ?_
          rotate_left
          · intro wz hSz
            go_simp
            try with_reducible rfl
          simp only [List.getElem_toArray, List.getElem_cons_zero, Act.put, List.setIfInBounds_toArray, List.set_cons_zero, List.set_cons_succ]
          refine wpAnyH_take (i := 1) (v := ?_) rfl (by kernel_rfl) (by kernel_rfl) (by kernel_rfl) (fun _ _ _ h => h) (Or.inl ⟨by rfl, ?_⟩) hSS ?_
          rotate_left
          · intro wz hSz
            go_simp
            try with_reducible rfl
          simp only [List.getElem_toArray, List.getElem_cons_zero, List.getElem_cons_succ, Act.put, List.setIfInBounds_toArray, List.set_cons_zero, List.set_cons_succ]
          refine wpAnyH_take (i := 2) (v := ?_) rfl (by kernel_rfl) (by kernel_rfl) (by kernel_rfl) (fun _ _ _ h => h) (Or.inl ⟨by rfl, ?_⟩) hSS ?_
          rotate_left
          · intro wz hSz
            go_simp
            try with_reducible rfl
          simp only [List.getElem_toArray, List.getElem_cons_zero, List.getElem_cons_succ, Act.put, List.setIfInBounds_toArray, List.set_cons_zero, List.set_cons_succ]
          refine wpAnyH_take (i := 3) (v := ?_) rfl (by kernel_rfl) (by kernel_rfl) (by kernel_rfl) (fun _ _ _ h => h) (Or.inl ⟨by rfl, ?_⟩) hSS ?_
          rotate_left
          · intro wz hSz
            obtain ⟨p0, p1⟩ := HR1.out _ hSz
            go_simp
            try with_reducible rfl
          simp only [List.getElem_toArray, List.getElem_cons_zero, List.getElem_cons_succ, Act.put, List.setIfInBounds_toArray, List.set_cons_zero, List.set_cons_succ]
          refine wpAnyH_take (i := 4) (v := ?_) rfl (by kernel_rfl) (by kernel_rfl) (by kernel_rfl) (fun _ _ _ h => h) (Or.inl ⟨by rfl, ?_⟩) hSS ?_
          rotate_left
          · intro wz hSz
            go_simp
            try with_reducible rfl
          simp only [List.getElem_toArray, List.getElem_cons_zero, List.getElem_cons_succ, Act.put, List.setIfInBounds_toArray, List.set_cons_zero, List.set_cons_succ]
          refine wpAnyH_take (i := 5) (v := ?_) rfl (by kernel_rfl) (by kernel_rfl) (by kernel_rfl) (fun _ _ _ h => h) (Or.inl ⟨by rfl, ?_⟩) hSS ?_
          rotate_left
          · intro wz hSz
            go_simp
            try with_reducible rfl
          simp only [List.getElem_toArray, List.getElem_cons_zero, List.getElem_cons_succ, Act.put, List.setIfInBounds_toArray, List.set_cons_zero, List.set_cons_succ]
          refine wpAnyH_take (i := 6) (v := ?_) rfl (by kernel_rfl) (by kernel_rfl) (by kernel_rfl) (fun _ _ _ h => h) (Or.inl ⟨by rfl, ?_⟩) hSS ?_
          rotate_left
          · intro wz hSz
            go_simp
            try with_reducible rfl
          simp only [List.getElem_toArray, List.getElem_cons_zero, List.getElem_cons_succ, Act.put, List.setIfInBounds_toArray, List.set_cons_zero, List.set_cons_succ]
          refine wpAnyH_take (i := 7) (v := ?_) rfl (by kernel_rfl) (by kernel_rfl) (by kernel_rfl) (fun _ _ _ h => h) (Or.inl ⟨by rfl, ?_⟩) hSS ?_
          rotate_left
          · intro wz hSz
            obtain ⟨p0, p1⟩ := HR1.out _ hSz
            go_simp
            try with_reducible rfl
          simp only [List.getElem_toArray, List.getElem_cons_zero, List.getElem_cons_succ, Act.put, List.setIfInBounds_toArray, List.set_cons_zero, List.set_cons_succ]
          refine wpAnyH_take (i := 8) (v := (.bool true)) rfl (by kernel_rfl) (by kernel_rfl) (by kernel_rfl) (fun _ _ _ h => h) (Or.inl ⟨by rfl, ?_⟩) hSS ?_
          · intro wz hSz
            go_simp
          simp only [List.getElem_toArray, List.getElem_cons_zero, List.getElem_cons_succ, Act.put, List.setIfInBounds_toArray, List.set_cons_zero, List.set_cons_succ]
          refine wpAnyH_done (by kernel_rfl) ?_ _
          go_wp2_with fail
          go_ret
          exact ⟨⟨false, rfl, by simpa using hne.out⟩, hb.trans (hSS.mono hb.size)⟩
      · have he : Hid (q = r) := by
          have h1 := ht.out
          rwa [List.take_of_length_le (by omega), List.take_of_length_le (by have := HN.out; omega)] at h1
        clear HQ ht
        go_wp2_with fail
        go_ret
        exact ⟨⟨true, rfl, by simpa using he.out⟩, hb⟩
  · have hn' : ((q.length : Int) == (r.length : Int)) = false := by rw [beq_eq_false_iff_ne]; omega
    have hne : Hid (q ≠ r) := fun e => hn (by rw [e])
    clear hq hr
    go_enter Tryz.func78, Tryz.ntmps78
    go_wp2_with fail
    go_ret
    exact ⟨⟨false, rfl, by simpa using hne.out⟩, Below.refl _ _⟩
end Go.Proofs.YtepohbcpepkboaaGreat

