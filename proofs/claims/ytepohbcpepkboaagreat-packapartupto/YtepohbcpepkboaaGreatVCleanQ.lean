/- What Clean's maps lean on: the order of texts as the program tells it, keys put in one by one, cuts of slices of texts and of values. No conditions; no function of the program. -/
import Derived.Test.YtepohbcpepkboaaGreatVCleanP
import Derived.Deep.AppendLies
import Derived.Sort.Walk0
namespace Go.Proofs.YtepohbcpepkboaaGreat
open Go.RowKit Go.Maps Go.WideMaps

set_option maxRecDepth 100000 in
theorem infoV : (Tryz.prog.info? 25).map (fun i => (i.zero, i.size, i.bytes)) = some (some (.agg #[.int .i64 0, .bool false, .int .i64 0, .int .i64 0, .string ByteArray.empty, .slice none 0 0, .slice none 0 0]), 7, 96) := by kernel_rfl
set_option maxRecDepth 100000 in
theorem info_parts7 {E : TypeId} {z : Value} {sz by_ : Nat} (h : (Tryz.prog.info? E).map (fun i => (i.zero, i.size, i.bytes)) = some (some z, sz, by_)) : ∃ i, Tryz.prog.info? E = some i ∧ i.zero = some z ∧ i.size = sz ∧ i.bytes = by_ := by
  obtain ⟨i, hi, hzz⟩ := Option.map_eq_some_iff.1 h
  simp only [Prod.mk.injEq] at hzz
  exact ⟨i, hi, hzz.1, hzz.2.1, hzz.2.2⟩
set_option maxRecDepth 100000 in
theorem VIn.low {w : World} {ok : Nat → Prop} {v : V} {p : VP} (h : VIn w ok v p) : VIn w (fun b => ok b ∧ b < w.heap.size) v p := h.mono (fun _ h1 h2 => ⟨h1, h2⟩)
set_option maxRecDepth 100000 in
theorem cells_len (v : V) (p : VP) : (v.cells p).length = 7 := rfl
def vcells (ps : List (V × VP)) : List Value := (ps.map (fun p => p.1.cells p.2)).flatten
set_option maxRecDepth 100000 in
theorem vcells_snoc (ps : List (V × VP)) (x : V × VP) : vcells (ps ++ [x]) = vcells ps ++ x.1.cells x.2 := by simp [vcells]
set_option maxRecDepth 100000 in
theorem vcells_append (a b : List (V × VP)) : vcells (a ++ b) = vcells a ++ vcells b := by simp [vcells]
set_option maxRecDepth 100000 in
theorem vcells_cons (p : V × VP) (r : List (V × VP)) : vcells (p :: r) = p.1.cells p.2 ++ vcells r := rfl
set_option maxRecDepth 100000 in
theorem vcells_len : ∀ ps : List (V × VP), (vcells ps).length = ps.length * 7
  | [] => rfl
  | p :: r => by rw [vcells_cons, List.length_append, vcells_len r, cells_len, List.length_cons]; omega
set_option maxRecDepth 100000 in
theorem vcells_at : ∀ (ps : List (V × VP)) (j i : Nat) (hj : j < ps.length), i < 7 → (vcells ps)[j * 7 + i]? = (ps[j].1.cells ps[j].2)[i]?
  | p :: r, 0, i, _, hi => by
    simp only [vcells, List.map_cons, List.flatten_cons, Nat.zero_mul, Nat.zero_add, List.getElem_cons_zero]
    exact List.getElem?_append_left (by rw [cells_len]; exact hi)
  | p :: r, j + 1, i, hj, hi => by
    have ih := vcells_at r j i (by simpa using hj) hi
    have e : (j + 1) * 7 + i = (p.1.cells p.2).length + (j * 7 + i) := by rw [cells_len]; omega
    rw [show vcells (p :: r) = p.1.cells p.2 ++ vcells r from rfl, e, List.getElem?_append_right (by omega)]
    simpa using ih
set_option maxRecDepth 100000 in
theorem vcells_one (ps : List (V × VP)) : ∀ u ∈ vcells ps, u.oneCell' = true := by
  intro u hu
  simp only [vcells, List.mem_flatten, List.mem_map] at hu
  obtain ⟨c, ⟨p, -, rfl⟩, hc⟩ := hu
  simp only [V.cells, List.mem_cons, List.not_mem_nil, or_false] at hc
  rcases hc with rfl | rfl | rfl | rfl | rfl | rfl | rfl <;> rfl
/-- Values in a row of the call's own; what they lead to lies elsewhere. -/
def VLOwn (W : World) (n : Nat) (sv : Value) (l : List V) : Prop :=
  ∃ ps : List (V × VP), ps.map (·.1) = l ∧ W.ownsRow n 25 7 sv l.length (vcells ps) ∧ ∀ p ∈ ps, VIn W (fun b => n ≤ b ∧ sv.ownBlock ≠ some b) p.1 p.2
set_option maxRecDepth 100000 in
theorem own_below7 {w w' : World} {base n sz : Nat} {E : TypeId} {v : Value} {xs : List Value} (h : w.ownsRow base E sz v n xs) (hb : Below w.heap.size w w') : w'.ownsRow base E sz v n xs :=
  h.kept (row := none) ⟨hb.os, hb.tape, hb.output, hb.size, fun k hk _ => hb.block k hk⟩ (by cases hv : v.ownBlock with | none => exact Or.inl rfl | some k => exact Or.inr (by simp))
set_option maxRecDepth 100000 in
theorem VLOwn.nil (W : World) (n : Nat) : VLOwn W n (.slice none 0 0) [] := ⟨[], rfl, World.ownsRow_nil _ _ _ _, by simp⟩
set_option maxRecDepth 100000 in
theorem VLOwn.below {W W' : World} {n : Nat} {sv : Value} {l : List V} (h : VLOwn W n sv l) (hb : Below W.heap.size W W') : VLOwn W' n sv l := by
  obtain ⟨ps, h1, h2, h3⟩ := h
  exact ⟨ps, h1, own_below7 h2 hb, fun p hp => (h3 p hp).stays hb⟩
set_option maxRecDepth 100000 in
/-- A world in which only another row of the call's own has grown, or a cell beneath. -/
theorem VLOwn.grown {W W' : World} {n : Nat} {sv : Value} {l : List V} (h : VLOwn W n sv l) {row : Option Nat} (hg : W.grownBy W' row) (hr : ∀ k, row = some k → sv.ownBlock ≠ some k) (hd : ∀ b, row = some b → b < n ∨ W.heap.size ≤ b) : VLOwn W' n sv l := by
  obtain ⟨ps, h1, h2, h3⟩ := h
  refine ⟨ps, h1, h2.kept hg ?_, fun p hp => ?_⟩
  · cases hv : sv.ownBlock with
    | none => exact Or.inl rfl
    | some k => exact Or.inr (fun e => hr k e.symm hv)
  · have h4 := (h3 p hp).low
    have h5 : VIn W' (fun b => (n ≤ b ∧ sv.ownBlock ≠ some b) ∧ b < W.heap.size) p.1 p.2 := h4.agree (fun b hb hlt => hg.block b hlt (fun e => by rcases hd b e.symm with h | h <;> omega))
    exact h5.mono (fun b hb _ => hb.1)
set_option maxRecDepth 100000 in
theorem VLOwn.snoc {W1 W2 W4 : World} {n : Nat} {sv v' : Value} {l : List V} {x : V} {xp : VP} {ps : List (V × VP)} (h1 : ps.map (·.1) = l) (ho : W1.ownsRow n 25 7 sv l.length (vcells ps)) (hr : ∀ p ∈ ps, VIn W1 (fun b => n ≤ b ∧ sv.ownBlock ≠ some b) p.1 p.2)
    (hb : Below W1.heap.size W1 W2) (hu : VIn W2 (fun b => W1.heap.size ≤ b) x xp) (hn : n ≤ W1.heap.size) (o : Obj)
    (h4 : W4.ownsRow n 25 7 v' (l.length + 1) (vcells ps ++ x.cells xp)) (hg : (W2.alloc o).grownBy W4 sv.ownBlock) (ha : v'.ownBlock = sv.ownBlock ∨ v'.ownBlock = some (W2.alloc o).heap.size) : VLOwn W4 n v' (l ++ [x]) := by
  have hb3 : Below W1.heap.size W1 (W2.alloc o) := hb.alloc hb.size _
  have hs := hb3.size
  refine ⟨ps ++ [(x, xp)], by simp [h1], by rw [List.length_append, vcells_snoc]; exact h4, fun p hp => ?_⟩
  rcases List.mem_append.1 hp with hp | hp
  · have h2 := (hr p hp).low.stays hb3
    have h3 : VIn W4 (fun b => (n ≤ b ∧ sv.ownBlock ≠ some b) ∧ b < W1.heap.size) p.1 p.2 := h2.agree (fun b hb' _ => hg.block b (by omega) (fun e => hb'.1.2 e.symm))
    exact h3.mono (fun b hb' _ => ⟨hb'.1.1, fun e => by
      rcases ha with ha | ha
      · exact hb'.1.2 (ha ▸ e)
      · rw [ha] at e; injection e with e; omega⟩)
  · simp only [List.mem_singleton] at hp
    subst hp
    have h2 := hu.low.stays ((Below.refl _ W2).alloc (Nat.le_refl _) o)
    have h3 : VIn W4 (fun b => W1.heap.size ≤ b ∧ b < W2.heap.size) x xp := h2.agree (fun b hb' _ => hg.block b (by simp; omega) (fun e => by have := (ho.lt b e.symm).2; omega))
    exact h3.mono (fun b hb' _ => ⟨by omega, fun e => by
      rcases ha with ha | ha
      · rw [ha] at e; have := (ho.lt b e).2; omega
      · rw [ha] at e; injection e with e; simp at e; omega⟩)
set_option maxRecDepth 100000 in
/-- A store beneath. -/
theorem VLOwn.setBelow {W : World} {n : Nat} {sv : Value} {l : List V} (h : VLOwn W n sv l) {k i : Nat} (hk : k < n) (u : Value) : VLOwn (W.setCell ⟨k, i, none⟩ u) n sv l := by
  obtain ⟨ps, h1, h2, h3⟩ := h
  exact ⟨ps, h1, ownsRow_setCell_below h2 hk u, fun p hp => (h3 p hp).agree (Agree.setCell u (fun hh => by omega))⟩
set_option maxRecDepth 100000 in
theorem VLOwn.row {W : World} {n : Nat} {sv : Value} {l : List V} (h : VLOwn W n sv l) : ∃ a c, sv = .slice a l.length c ∧ SliceOk a l.length c ∧ VRow W (fun b => n ≤ b) a l := by
  obtain ⟨ps, h1, h2, h3⟩ := h
  have hlen : ps.length = l.length := by rw [← h1]; simp
  rcases h2.2 with ⟨hv, h0⟩ | ⟨g, cap, cur, hv, hg, hblk, hc, hm, hcur⟩
  · have hl : l = [] := List.eq_nil_of_length_eq_zero h0
    subst hl
    exact ⟨none, 0, hv, ⟨fun _ => ⟨rfl, rfl⟩, Nat.le_refl _, by simp [maxLen]⟩, VRow.nil _ _ _⟩
  · refine ⟨some ⟨g, 0, none⟩, cap, hv, ⟨(fun h => by cases h), hc, hm⟩, fun j => (ps[j]?.getD (V.null, ⟨none, 0, none, 0⟩)).2, fun hz => ⟨g, 0, rfl, hg, fun j hj => ?_⟩, fun j hj => ?_⟩
    · have hj' : j < ps.length := by omega
      have hcell : ∀ i, i < 7 → W.cell? ⟨g, 0 + j * 7 + i, none⟩ = (ps[j].1.cells ps[j].2)[i]? := fun i hi => by
        have h5 := h2.cells (g := g) (by rw [hv]; rfl)
        have h6 := vcells_at ps j i hj' hi
        have hi7 : i < (ps[j].1.cells ps[j].2).length := by rw [cells_len]; exact hi
        obtain ⟨u, hu⟩ : ∃ u, (ps[j].1.cells ps[j].2)[i]? = some u := ⟨_, getElem?_pos (ps[j].1.cells ps[j].2) i hi7⟩
        have h7 := h5 (j * 7 + i) u (by rw [h6, hu])
        rw [hu, ← h7, Addr.add_lit]
        simp
      have e1 : ps[j].1 = l[j] := by simp only [← h1, List.getElem_map]
      have e2 : (ps[j]?.getD (V.null, ⟨none, 0, none, 0⟩)).2 = ps[j].2 := by simp [hj']
      dsimp only
      rw [e2, ← e1]
      exact ⟨hcell 0 (by omega), hcell 1 (by omega), hcell 2 (by omega), hcell 3 (by omega), hcell 4 (by omega), hcell 5 (by omega), hcell 6 (by omega)⟩
    · have hj' : j < ps.length := by omega
      have e1 : ps[j].1 = l[j] := by simp only [← h1, List.getElem_map]
      have e2 : (ps[j]?.getD (V.null, ⟨none, 0, none, 0⟩)).2 = ps[j].2 := by simp [hj']
      dsimp only
      rw [e2, ← e1]
      exact (h3 _ (List.getElem_mem hj')).mono (fun b hb _ => hb.1)
end Go.Proofs.YtepohbcpepkboaaGreat

namespace Go.Proofs.YtepohbcpepkboaaGreat
open Go.RowKit Go.Maps Go.WideMaps

set_option maxRecDepth 100000 in
theorem lessB (a b : ByteArray) : Op.bytesLess a.toList b.toList = ltB a b := by
  rw [bytesLess_eq, ByteArray.toList_eq, ByteArray.toList_eq]; rfl
set_option maxRecDepth 100000 in
theorem toList_eq {a b : ByteArray} (h : a = b) : (a.toList == b.toList) = true := by subst h; simp
set_option maxRecDepth 100000 in
theorem insAll_take {ps : List (ByteArray × V)} {j : Nat} {ks : List ByteArray} {vs : List V} (hj : j < ps.length) (h : insAll (ps.take j) [] [] = (ks, vs)) :
    insAll (ps.take (j + 1)) [] [] = (insKeys ps[j].1 ks, insVals ps[j].1 ps[j].2 ks vs) := by
  rw [List.take_succ_eq_append_getElem hj, insAll_append, h]; rfl
set_option maxRecDepth 100000 in
theorem hasAt_yes {key : ByteArray} {ks : List ByteArray} (hl : below key ks < ks.length) (h : ks[below key ks] = key) : hasAt key ks = true := by
  unfold hasAt; simp [hl, h]
set_option maxRecDepth 100000 in
theorem hasAt_no {key : ByteArray} {ks : List ByteArray} (hl : below key ks < ks.length) (h : ks[below key ks] ≠ key) : hasAt key ks = false := by
  unfold hasAt; simp [hl, h]
set_option maxRecDepth 100000 in
theorem hasAt_end {key : ByteArray} {ks : List ByteArray} (hl : ¬ below key ks < ks.length) : hasAt key ks = false := by
  unfold hasAt; simp [hl]
set_option maxRecDepth 100000 in
theorem insAll_len : ∀ (ps : List (ByteArray × V)) (ks : List ByteArray) (vs : List V), ks.length = vs.length → (insAll ps ks vs).1.length = (insAll ps ks vs).2.length ∧ (insAll ps ks vs).1.length ≤ ks.length + ps.length
  | [], ks, vs, h => ⟨h, by simp [insAll]⟩
  | p :: r, ks, vs, h => by
    have ih := insAll_len r (insKeys p.1 ks) (insVals p.1 p.2 ks vs) (insKeys_len _ _ _ _ h)
    have hk : (insKeys p.1 ks).length ≤ ks.length + 1 := by
      unfold insKeys
      split
      · omega
      · have := below_le p.1 ks
        simp only [List.length_append, List.length_take, List.length_drop, List.length_singleton]; omega
    refine ⟨ih.1, ?_⟩
    have := ih.2
    simp only [insAll, List.length_cons]; omega
/-- Where a cut of a slice of elements of s cells lies. -/
def cutN (a : Option Addr) (cap i s : Nat) : Option Addr := if cap = i then a else a.map (·.add (i * s))
set_option maxRecDepth 100000 in
theorem cutN_nil {a : Option Addr} {cap n : Nat} (i s : Nat) (hnil : a = none → n = 0 ∧ cap = 0) (h : cutN a cap i s = none) : n = 0 ∧ cap = 0 := by
  unfold cutN at h
  split at h
  · exact hnil h
  · exact hnil (by simpa using h)
set_option maxRecDepth 100000 in
theorem sizeSS : ∀ W, (sizeOf (Tryz.prog.elem 23)).run Tryz.prog W = .ok 1 W := fun W => by
  have e : Tryz.prog.elem 23 = 9 := by kernel_rfl
  rw [e]; simp [go_sem]
set_option maxRecDepth 100000 in
theorem sizeVS : ∀ W, (sizeOf (Tryz.prog.elem 22)).run Tryz.prog W = .ok 7 W := fun W => by
  have e : Tryz.prog.elem 22 = 25 := by kernel_rfl
  rw [e]; simp [go_sem]
set_option maxRecDepth 100000 in
theorem cutS_h (a : Option Addr) (n cap j : Nat) (hj : j ≤ cap) (W : World) : (Instr.slice 23 (.slice a n cap) none (some (.int .i64 (j : Int))) none).run Tryz.prog W = .ok (.slice (cutN a cap 0 1) j cap) W := by
  rw [run_slice_h W 23 a n cap Tryz.underlying23 .i64 (j : Int) (by omega) (by omega), sizeSS]
  simp [Result.andThen, sliced, cutN]
set_option maxRecDepth 100000 in
theorem cutS_l (a : Option Addr) (n cap i : Nat) (hi : i ≤ n) (W : World) : (Instr.slice 23 (.slice a n cap) (some (.int .i64 (i : Int))) none none).run Tryz.prog W = .ok (.slice (cutN a cap i 1) (n - i) (cap - i)) W := by
  rw [run_slice_l W 23 a n cap Tryz.underlying23 .i64 (i : Int) (by omega) (by omega), sizeSS]
  simp [Result.andThen, sliced, cutN]
set_option maxRecDepth 100000 in
theorem cutV_h (a : Option Addr) (n cap j : Nat) (hj : j ≤ cap) (W : World) : (Instr.slice 22 (.slice a n cap) none (some (.int .i64 (j : Int))) none).run Tryz.prog W = .ok (.slice (cutN a cap 0 7) j cap) W := by
  rw [run_slice_h W 22 a n cap Tryz.underlying22 .i64 (j : Int) (by omega) (by omega), sizeVS]
  simp [Result.andThen, sliced, cutN]
set_option maxRecDepth 100000 in
theorem cutV_l (a : Option Addr) (n cap i : Nat) (hi : i ≤ n) (W : World) : (Instr.slice 22 (.slice a n cap) (some (.int .i64 (i : Int))) none none).run Tryz.prog W = .ok (.slice (cutN a cap i 7) (n - i) (cap - i)) W := by
  rw [run_slice_l W 22 a n cap Tryz.underlying22 .i64 (i : Int) (by omega) (by omega), sizeVS]
  simp [Result.andThen, sliced, cutN]
set_option maxRecDepth 100000 in
/-- A cut of texts. -/
theorem SRow.cut {W : World} {ok : Nat → Prop} {a : Option Addr} {q : List ByteArray} {cap : Nat} (h : SRow W ok a q) (hc : q.length ≤ cap) (i k : Nat) : SRow W ok (cutN a cap i 1) ((q.drop i).take k) := by
  refine ⟨fun x hx => h.1 x (List.mem_of_mem_drop (List.mem_of_mem_take hx)), fun hz => ?_⟩
  have hz1 : q.drop i ≠ [] := by intro e; rw [e] at hz; simp at hz
  have hi : i < q.length := by
    by_cases h : i < q.length
    · exact h
    · exact absurd (List.drop_eq_nil_of_le (by omega)) hz1
  obtain ⟨b, off, rfl, hb, hcc⟩ := h.2 (by intro e; subst e; simp at hi)
  refine ⟨b, off + i, ?_, hb, fun j hj => ?_⟩
  · unfold cutN
    rw [if_neg (by omega)]
    simp [Addr.add_lit]
  · have hj' : i + j < q.length := by simp at hj; omega
    have := hcc (i + j) hj'
    rw [List.getElem_take, List.getElem_drop, Nat.add_assoc]
    exact this
set_option maxRecDepth 100000 in
/-- A cut of values. -/
theorem VRow.cut {W : World} {ok : Nat → Prop} {a : Option Addr} {l : List V} {cap : Nat} (h : VRow W ok a l) (hc : l.length ≤ cap) (i k : Nat) : VRow W ok (cutN a cap i 7) ((l.drop i).take k) := by
  obtain ⟨P, hcl, hin⟩ := h
  refine ⟨fun j => P (i + j), fun hz => ?_, fun j hj => ?_⟩
  · have hz1 : l.drop i ≠ [] := by intro e; rw [e] at hz; simp at hz
    have hi : i < l.length := by
      by_cases h : i < l.length
      · exact h
      · exact absurd (List.drop_eq_nil_of_le (by omega)) hz1
    obtain ⟨b, off, rfl, hb, hcc⟩ := hcl (by intro e; subst e; simp at hi)
    refine ⟨b, off + i * 7, ?_, hb, fun j hj => ?_⟩
    · unfold cutN
      rw [if_neg (by omega)]
      simp [Addr.add_lit]
    · have hj' : i + j < l.length := by simp at hj; omega
      have := hcc (i + j) hj'
      rw [List.getElem_take, List.getElem_drop]
      unfold VAt at *
      have e : off + i * 7 + j * 7 = off + (i + j) * 7 := by omega
      rw [e]
      exact this
  · have hj' : i + j < l.length := by simp at hj; omega
    rw [List.getElem_take, List.getElem_drop]
    exact hin (i + j) hj'
end Go.Proofs.YtepohbcpepkboaaGreat

