/- A slice of the document's values that a call makes one by one. No conditions; no function of the program. -/
import Derived.Test.YtigdcnoggjcddaaVOwn
import Derived.Deep.AppendLies
namespace Go.Proofs.Ytigdcnoggjcddaa
open Go.RowKit

def ltB (a b : ByteArray) : Bool := decide (a.data.toList < b.data.toList)
set_option maxRecDepth 100000 in
theorem ltB_iff {a b : ByteArray} : ltB a b = true ↔ ltS a b := by unfold ltB ltS; exact decide_eq_true_iff
/-- How many keys, from the first one on, are less. -/
def below (key : ByteArray) : List ByteArray → Nat
  | [] => 0
  | y :: r => if ltB y key = true then below key r + 1 else 0
set_option maxRecDepth 100000 in
theorem below_le (key : ByteArray) : ∀ ks, below key ks ≤ ks.length
  | [] => Nat.le_refl _
  | y :: r => by unfold below; split <;> simp; exact below_le key r
set_option maxRecDepth 100000 in
theorem below_lt (key : ByteArray) : ∀ (ks : List ByteArray) (i : Nat) (_ : i < below key ks) (hl : i < ks.length), ltS ks[i] key
  | [], i, _, hl => by simp at hl
  | y :: r, 0, h, _ => by
    unfold below at h
    split at h
    · rename_i h1; exact ltB_iff.1 h1
    · omega
  | y :: r, i + 1, h, hl => by
    unfold below at h
    split at h
    · exact below_lt key r i (by omega) (by simpa using hl)
    · omega
set_option maxRecDepth 100000 in
theorem below_at (key : ByteArray) : ∀ (ks : List ByteArray) (hl : below key ks < ks.length), ¬ ltS (ks[below key ks]) key
  | [], hl => by simp at hl
  | y :: r, hl => by
    by_cases h1 : ltB y key = true
    · have e : below key (y :: r) = below key r + 1 := by simp [below, h1]
      have h2 : below key r < r.length := by rw [e] at hl; simpa using hl
      have := below_at key r h2
      simp only [e, List.getElem_cons_succ]
      exact this
    · have e : below key (y :: r) = 0 := by simp [below, h1]
      simp only [e, List.getElem_cons_zero]
      exact fun h => h1 (ltB_iff.2 h)
/-- Is the key there, where it would be put? -/
def hasAt (key : ByteArray) (ks : List ByteArray) : Bool := match ks[below key ks]? with | some y => decide (y = key) | none => false
def insKeys (key : ByteArray) (ks : List ByteArray) : List ByteArray := if hasAt key ks = true then ks else ks.take (below key ks) ++ [key] ++ ks.drop (below key ks)
def insVals (key : ByteArray) (x : V) (ks : List ByteArray) (vs : List V) : List V := if hasAt key ks = true then vs else vs.take (below key ks) ++ [x] ++ vs.drop (below key ks)
def insAll : List (ByteArray × V) → List ByteArray → List V → List ByteArray × List V
  | [], ks, vs => (ks, vs)
  | p :: r, ks, vs => insAll r (insKeys p.1 ks) (insVals p.1 p.2 ks vs)
set_option maxRecDepth 100000 in
theorem insAll_append : ∀ (a b : List (ByteArray × V)) (ks : List ByteArray) (vs : List V), insAll (a ++ b) ks vs = insAll b (insAll a ks vs).1 (insAll a ks vs).2
  | [], b, ks, vs => rfl
  | p :: r, b, ks, vs => by rw [List.cons_append, insAll, insAll_append r b, insAll]
def V.clean : V → V
  | .mk k b n m s l q =>
    if k = 1 then .mk 1 false 0 0 ByteArray.empty [] []
    else if k = 2 then .mk 2 b 0 0 ByteArray.empty [] []
    else if k = 3 then .mk 3 false n 0 ByteArray.empty [] []
    else if k = 4 then .mk 4 false (min (max n (-9007199254740992)) 9007199254740992) (min (max m (-9007199254740992)) 9007199254740992) ByteArray.empty [] []
    else if k = 5 then .mk 5 false 0 0 s [] []
    else if k = 6 then .mk 6 false 0 0 ByteArray.empty (go l) []
    else if k = 7 then .mk 7 false 0 0 ByteArray.empty (insAll (q.zip (go l)) [] []).2 (insAll (q.zip (go l)) [] []).1
    else V.null
  where go : List V → List V
    | [] => []
    | v :: r => v.clean :: go r
set_option maxRecDepth 100000 in
theorem cleanL_map : ∀ l : List V, V.clean.go l = l.map V.clean
  | [] => rfl
  | v :: r => by simp only [V.clean.go, List.map_cons, cleanL_map r]
def sumK (ks : List ByteArray) : Nat := (ks.map (fun x => 1 + x.size)).sum
set_option maxRecDepth 100000 in
theorem sumK_append (a b : List ByteArray) : sumK (a ++ b) = sumK a + sumK b := by simp [sumK]
set_option maxRecDepth 100000 in
theorem insKeys_len (key : ByteArray) (x : V) (ks : List ByteArray) (vs : List V) (h : ks.length = vs.length) : (insKeys key ks).length = (insVals key x ks vs).length := by
  unfold insKeys insVals
  split
  · exact h
  · simp [h]
set_option maxRecDepth 100000 in
theorem insKeys_rising (key : ByteArray) (ks : List ByteArray) (h : Rising ks) : Rising (insKeys key ks) := by
  unfold insKeys
  split
  · exact h
  · rename_i hno
    have hle := below_le key ks
    have h1 : Rising (ks.take (below key ks)) := List.Pairwise.sublist (List.take_sublist _ _) h
    have h2 : Rising (ks.drop (below key ks)) := List.Pairwise.sublist (List.drop_sublist _ _) h
    have hb : ∀ y ∈ ks.take (below key ks), ltS y key := by
      intro y hy
      obtain ⟨i, hi, rfl⟩ := List.mem_iff_getElem.1 hy
      rw [List.getElem_take]
      have hi' : i < below key ks := by simp at hi; omega
      exact below_lt key ks i hi' (by omega)
    have ha : ∀ y ∈ ks.drop (below key ks), ltS key y := by
      intro y hy
      obtain ⟨i, hi, rfl⟩ := List.mem_iff_getElem.1 hy
      have hlt : below key ks < ks.length := by simp at hi; omega
      have h0 : ltS key ks[below key ks] := by
        refine ltS_tri (below_at key ks hlt) (fun e => hno ?_)
        unfold hasAt
        simp [hlt, e]
      rw [List.getElem_drop]
      rcases Nat.eq_zero_or_pos i with rfl | hp
      · exact h0
      · exact ltS_trans h0 (List.pairwise_iff_getElem.1 h (below key ks) (below key ks + i) hlt (by simp at hi; omega) (by omega))
    unfold Rising at *
    rw [List.append_assoc, List.pairwise_append]
    refine ⟨h1, ?_, ?_⟩
    · rw [List.singleton_append, List.pairwise_cons]
      exact ⟨ha, h2⟩
    · intro a hA b hB
      rcases List.mem_append.1 hB with hB | hB
      · simp at hB; subst hB; exact hb a hA
      · exact ltS_trans (hb a hA) (ha b hB)
set_option maxRecDepth 100000 in
theorem insVals_mem (key : ByteArray) (x : V) (ks : List ByteArray) (vs : List V) : ∀ y ∈ insVals key x ks vs, y = x ∨ y ∈ vs := by
  intro y hy
  unfold insVals at hy
  split at hy
  · exact Or.inr hy
  · rcases List.mem_append.1 hy with hy | hy
    · rcases List.mem_append.1 hy with hy | hy
      · exact Or.inr (List.mem_of_mem_take hy)
      · simp at hy; exact Or.inl hy
    · exact Or.inr (List.mem_of_mem_drop hy)
set_option maxRecDepth 100000 in
theorem insVals_bulk (key : ByteArray) (x : V) (ks : List ByteArray) (vs : List V) : V.bulk.go (insVals key x ks vs) ≤ V.bulk.go vs + x.bulk := by
  unfold insVals
  split
  · omega
  · have := bulkL_append (vs.take (below key ks)) (vs.drop (below key ks))
    rw [List.take_append_drop] at this
    rw [bulkL_append, bulkL_append, bulkL_one]; omega
set_option maxRecDepth 100000 in
theorem insKeys_sum (key : ByteArray) (ks : List ByteArray) : sumK (insKeys key ks) ≤ sumK ks + (1 + key.size) := by
  unfold insKeys
  split
  · omega
  · have := sumK_append (ks.take (below key ks)) (ks.drop (below key ks))
    rw [List.take_append_drop] at this
    rw [sumK_append, sumK_append]
    have e : sumK [key] = 1 + key.size := by simp [sumK]
    omega
set_option maxRecDepth 100000 in
theorem insAll_good : ∀ (ps : List (ByteArray × V)) (ks : List ByteArray) (vs : List V), ks.length = vs.length → Rising ks → (∀ y ∈ vs, y.cl) → (∀ p ∈ ps, p.2.cl) →
    (insAll ps ks vs).1.length = (insAll ps ks vs).2.length ∧ Rising (insAll ps ks vs).1 ∧ (∀ y ∈ (insAll ps ks vs).2, y.cl) ∧ V.bulk.go (insAll ps ks vs).2 ≤ V.bulk.go vs + V.bulk.go (ps.map (·.2)) ∧ sumK (insAll ps ks vs).1 ≤ sumK ks + sumK (ps.map (·.1))
  | [], ks, vs, h1, h2, h3, _ => ⟨h1, h2, h3, by simp [insAll, V.bulk.go], by simp [insAll, sumK]⟩
  | p :: r, ks, vs, h1, h2, h3, h4 => by
    have ih := insAll_good r (insKeys p.1 ks) (insVals p.1 p.2 ks vs) (insKeys_len _ _ _ _ h1) (insKeys_rising _ _ h2) (fun y hy => (insVals_mem _ _ _ _ y hy).elim (fun e => by subst e; exact h4 p (by simp)) (h3 y)) (fun p' hp' => h4 p' (by simp [hp']))
    obtain ⟨i1, i2, i3, i4, i5⟩ := ih
    have b1 := insVals_bulk p.1 p.2 ks vs
    have b2 := insKeys_sum p.1 ks
    refine ⟨i1, i2, i3, ?_, ?_⟩
    · simp only [insAll, List.map_cons, V.bulk.go]; omega
    · have e : sumK (List.map (·.1) (p :: r)) = (1 + p.1.size) + sumK (List.map (·.1) r) := by simp [sumK]
      rw [e]; simp only [insAll]; omega
set_option maxRecDepth 100000 in
theorem zip_snd_bulk : ∀ (q : List ByteArray) (l : List V), V.bulk.go ((q.zip l).map (·.2)) ≤ V.bulk.go l
  | [], l => by simp [V.bulk.go]
  | _ :: _, [] => by simp [V.bulk.go]
  | k :: q, v :: l => by simp only [List.zip_cons_cons, List.map_cons, V.bulk.go]; have := zip_snd_bulk q l; omega
set_option maxRecDepth 100000 in
theorem zip_fst_sum : ∀ (q : List ByteArray) (l : List V), sumK ((q.zip l).map (·.1)) ≤ sumK q
  | [], l => by simp [sumK]
  | _ :: _, [] => by simp [sumK]
  | k :: q, v :: l => by
    have := zip_fst_sum q l
    simp only [sumK, List.zip_cons_cons, List.map_cons, List.sum_cons] at *; omega
set_option maxRecDepth 100000 in
theorem clean_good : (∀ v : V, v.clean.cl ∧ v.clean.bulk ≤ v.bulk) ∧ (∀ l : List V, (∀ x ∈ V.clean.go l, x.cl) ∧ V.bulk.go (V.clean.go l) ≤ V.bulk.go l) := by
  have hs : ∀ (k : Int) (b : Bool) (n m : Int) (s : ByteArray) (l : List V) (q : List ByteArray), ((∀ x ∈ V.clean.go l, x.cl) ∧ V.bulk.go (V.clean.go l) ≤ V.bulk.go l) → (V.mk k b n m s l q).clean.cl ∧ (V.mk k b n m s l q).clean.bulk ≤ (V.mk k b n m s l q).bulk := by
    intro k b n m s l q ⟨h1, h2⟩
    have e0 : ByteArray.empty.size = 0 := rfl
    simp only [V.clean]
    split
    · refine ⟨by simp [V.cl, V.cl.go], by simp [V.bulk, V.bulk.go, e0]; omega⟩
    split
    · refine ⟨by simp [V.cl, V.cl.go], by simp [V.bulk, V.bulk.go, e0]; omega⟩
    split
    · refine ⟨by simp [V.cl, V.cl.go], by simp [V.bulk, V.bulk.go, e0]; omega⟩
    split
    · refine ⟨by simp [V.cl, V.cl.go]; omega, by simp [V.bulk, V.bulk.go, e0]; omega⟩
    split
    · refine ⟨by simp [V.cl, V.cl.go], by simp [V.bulk, V.bulk.go]; omega⟩
    split
    · refine ⟨by simp [V.cl]; exact clL_of h1, by simp [V.bulk, e0]; omega⟩
    split
    · obtain ⟨g1, g2, g3, g4, g5⟩ := insAll_good (q.zip (V.clean.go l)) [] [] rfl List.Pairwise.nil (by simp) (fun p hp => h1 _ (List.of_mem_zip hp).2)
      have z1 := zip_snd_bulk q (V.clean.go l)
      have z2 := zip_fst_sum q (V.clean.go l)
      refine ⟨by simp [V.cl]; exact ⟨⟨g1, g2⟩, clL_of g3⟩, ?_⟩
      have e1 : V.bulk.go ([] : List V) = 0 := rfl
      have e2 : sumK [] = 0 := rfl
      simp only [V.bulk, e0]
      unfold sumK at *
      omega
    · refine ⟨by simp [V.null, V.cl, V.cl.go], by simp [V.null, V.bulk, V.bulk.go, e0]; omega⟩
  refine ⟨?_, ?_⟩
  · intro v
    exact V.rec (motive_1 := fun v => v.clean.cl ∧ v.clean.bulk ≤ v.bulk) (motive_2 := fun l => (∀ x ∈ V.clean.go l, x.cl) ∧ V.bulk.go (V.clean.go l) ≤ V.bulk.go l)
      (fun k b n m s l q ih => hs k b n m s l q ih) ⟨by simp [V.clean.go], by simp [V.clean.go]⟩ (fun x r h1 h2 => ⟨(fun y hy => by simp only [V.clean.go, List.mem_cons] at hy; exact hy.elim (fun e => by rw [e]; exact h1.1) (h2.1 y)), by simp only [V.clean.go, V.bulk.go]; omega⟩) v
  · intro l
    exact V.rec_1 (motive_1 := fun v => v.clean.cl ∧ v.clean.bulk ≤ v.bulk) (motive_2 := fun l => (∀ x ∈ V.clean.go l, x.cl) ∧ V.bulk.go (V.clean.go l) ≤ V.bulk.go l)
      (fun k b n m s l q ih => hs k b n m s l q ih) ⟨by simp [V.clean.go], by simp [V.clean.go]⟩ (fun x r h1 h2 => ⟨(fun y hy => by simp only [V.clean.go, List.mem_cons] at hy; exact hy.elim (fun e => by rw [e]; exact h1.1) (h2.1 y)), by simp only [V.clean.go, V.bulk.go]; omega⟩) l
set_option maxRecDepth 100000 in
theorem clean_cl (v : V) : v.clean.cl := (clean_good.1 v).1
set_option maxRecDepth 100000 in
theorem clean_bulk (v : V) : v.clean.bulk ≤ v.bulk := (clean_good.1 v).2
end Go.Proofs.Ytigdcnoggjcddaa

namespace Go.Proofs.Ytigdcnoggjcddaa
open Go.RowKit Go.Maps Go.WideMaps

set_option maxRecDepth 100000 in
theorem infoV : (Try.prog.info? 25).map (fun i => (i.zero, i.size, i.bytes)) = some (some (.agg #[.int .i64 0, .bool false, .int .i64 0, .int .i64 0, .string ByteArray.empty, .slice none 0 0, .slice none 0 0]), 7, 96) := by kernel_rfl
set_option maxRecDepth 100000 in
theorem info_parts7 {E : TypeId} {z : Value} {sz by_ : Nat} (h : (Try.prog.info? E).map (fun i => (i.zero, i.size, i.bytes)) = some (some z, sz, by_)) : ∃ i, Try.prog.info? E = some i ∧ i.zero = some z ∧ i.size = sz ∧ i.bytes = by_ := by
  obtain ⟨i, hi, hzz⟩ := Option.map_eq_some_iff.1 h
  simp only [Prod.mk.injEq] at hzz
  exact ⟨i, hi, hzz.1, hzz.2.1, hzz.2.2⟩
set_option maxRecDepth 100000 in
theorem VIn.low {w : World} {ok : Nat → Prop} {v : V} {p : VP} (h : VIn w ok v p) : VIn w (fun b => ok b ∧ b < w.heap.size) v p := h.mono (fun _ h1 h2 => ⟨h1, h2⟩)
set_option maxRecDepth 100000 in
theorem cells_len (v : V) (p : VP) : (v.cells p).length = 7 := rfl
def vcells (ps : List (V × VP)) : List Value := (ps.map (fun p => p.1.cells p.2)).flatten
set_option maxRecDepth 100000 in
theorem vcells_snoc (ps : List (V × VP)) (x : V × VP) : vcells (ps ++ [x]) = vcells ps ++ x.1.cells x.2 := by simp [vcells]
set_option maxRecDepth 100000 in
theorem vcells_append (a b : List (V × VP)) : vcells (a ++ b) = vcells a ++ vcells b := by simp [vcells]
set_option maxRecDepth 100000 in
theorem vcells_cons (p : V × VP) (r : List (V × VP)) : vcells (p :: r) = p.1.cells p.2 ++ vcells r := rfl
set_option maxRecDepth 100000 in
theorem vcells_len : ∀ ps : List (V × VP), (vcells ps).length = ps.length * 7
  | [] => rfl
  | p :: r => by rw [vcells_cons, List.length_append, vcells_len r, cells_len, List.length_cons]; omega
set_option maxRecDepth 100000 in
theorem vcells_at : ∀ (ps : List (V × VP)) (j i : Nat) (hj : j < ps.length), i < 7 → (vcells ps)[j * 7 + i]? = (ps[j].1.cells ps[j].2)[i]?
  | p :: r, 0, i, _, hi => by
    simp only [vcells, List.map_cons, List.flatten_cons, Nat.zero_mul, Nat.zero_add, List.getElem_cons_zero]
    exact List.getElem?_append_left (by rw [cells_len]; exact hi)
  | p :: r, j + 1, i, hj, hi => by
    have ih := vcells_at r j i (by simpa using hj) hi
    have e : (j + 1) * 7 + i = (p.1.cells p.2).length + (j * 7 + i) := by rw [cells_len]; omega
    rw [show vcells (p :: r) = p.1.cells p.2 ++ vcells r from rfl, e, List.getElem?_append_right (by omega)]
    simpa using ih
set_option maxRecDepth 100000 in
theorem vcells_one (ps : List (V × VP)) : ∀ u ∈ vcells ps, u.oneCell' = true := by
  intro u hu
  simp only [vcells, List.mem_flatten, List.mem_map] at hu
  obtain ⟨c, ⟨p, -, rfl⟩, hc⟩ := hu
  simp only [V.cells, List.mem_cons, List.not_mem_nil, or_false] at hc
  rcases hc with rfl | rfl | rfl | rfl | rfl | rfl | rfl <;> rfl
/-- Values in a row of the call's own; what they lead to lies elsewhere. -/
def VLOwn (W : World) (n : Nat) (sv : Value) (l : List V) : Prop :=
  ∃ ps : List (V × VP), ps.map (·.1) = l ∧ W.ownsRow n 25 7 sv l.length (vcells ps) ∧ ∀ p ∈ ps, VIn W (fun b => n ≤ b ∧ sv.ownBlock ≠ some b) p.1 p.2
set_option maxRecDepth 100000 in
theorem own_below7 {w w' : World} {base n sz : Nat} {E : TypeId} {v : Value} {xs : List Value} (h : w.ownsRow base E sz v n xs) (hb : Below w.heap.size w w') : w'.ownsRow base E sz v n xs :=
  h.kept (row := none) ⟨hb.os, hb.tape, hb.output, hb.size, fun k hk _ => hb.block k hk⟩ (by cases hv : v.ownBlock with | none => exact Or.inl rfl | some k => exact Or.inr (by simp))
set_option maxRecDepth 100000 in
theorem VLOwn.nil (W : World) (n : Nat) : VLOwn W n (.slice none 0 0) [] := ⟨[], rfl, World.ownsRow_nil _ _ _ _, by simp⟩
set_option maxRecDepth 100000 in
theorem VLOwn.below {W W' : World} {n : Nat} {sv : Value} {l : List V} (h : VLOwn W n sv l) (hb : Below W.heap.size W W') : VLOwn W' n sv l := by
  obtain ⟨ps, h1, h2, h3⟩ := h
  exact ⟨ps, h1, own_below7 h2 hb, fun p hp => (h3 p hp).stays hb⟩
set_option maxRecDepth 100000 in
/-- A world in which only another row of the call's own has grown, or a cell beneath. -/
theorem VLOwn.grown {W W' : World} {n : Nat} {sv : Value} {l : List V} (h : VLOwn W n sv l) {row : Option Nat} (hg : W.grownBy W' row) (hr : ∀ k, row = some k → sv.ownBlock ≠ some k) (hd : ∀ b, row = some b → b < n ∨ W.heap.size ≤ b) : VLOwn W' n sv l := by
  obtain ⟨ps, h1, h2, h3⟩ := h
  refine ⟨ps, h1, h2.kept hg ?_, fun p hp => ?_⟩
  · cases hv : sv.ownBlock with
    | none => exact Or.inl rfl
    | some k => exact Or.inr (fun e => hr k e.symm hv)
  · have h4 := (h3 p hp).low
    have h5 : VIn W' (fun b => (n ≤ b ∧ sv.ownBlock ≠ some b) ∧ b < W.heap.size) p.1 p.2 := h4.agree (fun b hb hlt => hg.block b hlt (fun e => by rcases hd b e.symm with h | h <;> omega))
    exact h5.mono (fun b hb _ => hb.1)
set_option maxRecDepth 100000 in
theorem VLOwn.snoc {W1 W2 W4 : World} {n : Nat} {sv v' : Value} {l : List V} {x : V} {xp : VP} {ps : List (V × VP)} (h1 : ps.map (·.1) = l) (ho : W1.ownsRow n 25 7 sv l.length (vcells ps)) (hr : ∀ p ∈ ps, VIn W1 (fun b => n ≤ b ∧ sv.ownBlock ≠ some b) p.1 p.2)
    (hb : Below W1.heap.size W1 W2) (hu : VIn W2 (fun b => W1.heap.size ≤ b) x xp) (hn : n ≤ W1.heap.size) (o : Obj)
    (h4 : W4.ownsRow n 25 7 v' (l.length + 1) (vcells ps ++ x.cells xp)) (hg : (W2.alloc o).grownBy W4 sv.ownBlock) (ha : v'.ownBlock = sv.ownBlock ∨ v'.ownBlock = some (W2.alloc o).heap.size) : VLOwn W4 n v' (l ++ [x]) := by
  have hb3 : Below W1.heap.size W1 (W2.alloc o) := hb.alloc hb.size _
  have hs := hb3.size
  refine ⟨ps ++ [(x, xp)], by simp [h1], by rw [List.length_append, vcells_snoc]; exact h4, fun p hp => ?_⟩
  rcases List.mem_append.1 hp with hp | hp
  · have h2 := (hr p hp).low.stays hb3
    have h3 : VIn W4 (fun b => (n ≤ b ∧ sv.ownBlock ≠ some b) ∧ b < W1.heap.size) p.1 p.2 := h2.agree (fun b hb' _ => hg.block b (by omega) (fun e => hb'.1.2 e.symm))
    exact h3.mono (fun b hb' _ => ⟨hb'.1.1, fun e => by
      rcases ha with ha | ha
      · exact hb'.1.2 (ha ▸ e)
      · rw [ha] at e; injection e with e; omega⟩)
  · simp only [List.mem_singleton] at hp
    subst hp
    have h2 := hu.low.stays ((Below.refl _ W2).alloc (Nat.le_refl _) o)
    have h3 : VIn W4 (fun b => W1.heap.size ≤ b ∧ b < W2.heap.size) x xp := h2.agree (fun b hb' _ => hg.block b (by simp; omega) (fun e => by have := (ho.lt b e.symm).2; omega))
    exact h3.mono (fun b hb' _ => ⟨by omega, fun e => by
      rcases ha with ha | ha
      · rw [ha] at e; have := (ho.lt b e).2; omega
      · rw [ha] at e; injection e with e; simp at e; omega⟩)
set_option maxRecDepth 100000 in
/-- A store beneath. -/
theorem VLOwn.setBelow {W : World} {n : Nat} {sv : Value} {l : List V} (h : VLOwn W n sv l) {k i : Nat} (hk : k < n) (u : Value) : VLOwn (W.setCell ⟨k, i, none⟩ u) n sv l := by
  obtain ⟨ps, h1, h2, h3⟩ := h
  exact ⟨ps, h1, ownsRow_setCell_below h2 hk u, fun p hp => (h3 p hp).agree (Agree.setCell u (fun hh => by omega))⟩
set_option maxRecDepth 100000 in
theorem VLOwn.row {W : World} {n : Nat} {sv : Value} {l : List V} (h : VLOwn W n sv l) : ∃ a c, sv = .slice a l.length c ∧ SliceOk a l.length c ∧ VRow W (fun b => n ≤ b) a l := by
  obtain ⟨ps, h1, h2, h3⟩ := h
  have hlen : ps.length = l.length := by rw [← h1]; simp
  rcases h2.2 with ⟨hv, h0⟩ | ⟨g, cap, cur, hv, hg, hblk, hc, hm, hcur⟩
  · have hl : l = [] := List.eq_nil_of_length_eq_zero h0
    subst hl
    exact ⟨none, 0, hv, ⟨fun _ => ⟨rfl, rfl⟩, Nat.le_refl _, by simp [maxLen]⟩, VRow.nil _ _ _⟩
  · refine ⟨some ⟨g, 0, none⟩, cap, hv, ⟨(fun h => by cases h), hc, hm⟩, fun j => (ps[j]?.getD (V.null, ⟨none, 0, none, 0⟩)).2, fun hz => ⟨g, 0, rfl, hg, fun j hj => ?_⟩, fun j hj => ?_⟩
    · have hj' : j < ps.length := by omega
      have hcell : ∀ i, i < 7 → W.cell? ⟨g, 0 + j * 7 + i, none⟩ = (ps[j].1.cells ps[j].2)[i]? := fun i hi => by
        have h5 := h2.cells (g := g) (by rw [hv]; rfl)
        have h6 := vcells_at ps j i hj' hi
        have hi7 : i < (ps[j].1.cells ps[j].2).length := by rw [cells_len]; exact hi
        obtain ⟨u, hu⟩ : ∃ u, (ps[j].1.cells ps[j].2)[i]? = some u := ⟨_, getElem?_pos (ps[j].1.cells ps[j].2) i hi7⟩
        have h7 := h5 (j * 7 + i) u (by rw [h6, hu])
        rw [hu, ← h7, Addr.add_lit]
        simp
      have e1 : ps[j].1 = l[j] := by simp only [← h1, List.getElem_map]
      have e2 : (ps[j]?.getD (V.null, ⟨none, 0, none, 0⟩)).2 = ps[j].2 := by simp [hj']
      dsimp only
      rw [e2, ← e1]
      exact ⟨hcell 0 (by omega), hcell 1 (by omega), hcell 2 (by omega), hcell 3 (by omega), hcell 4 (by omega), hcell 5 (by omega), hcell 6 (by omega)⟩
    · have hj' : j < ps.length := by omega
      have e1 : ps[j].1 = l[j] := by simp only [← h1, List.getElem_map]
      have e2 : (ps[j]?.getD (V.null, ⟨none, 0, none, 0⟩)).2 = ps[j].2 := by simp [hj']
      dsimp only
      rw [e2, ← e1]
      exact (h3 _ (List.getElem_mem hj')).mono (fun b hb _ => hb.1)
end Go.Proofs.Ytigdcnoggjcddaa

