/- The document's Clean, in plain mathematics: what is clean, no greater, rising keys. No conditions; no program. -/
import Derived.Test.YtepohbcpepkboaaGreatVGoTo
import Derived.Test.YtepohbcpepkboaaGreatVFits
import Derived.Maps.AppendAt
namespace Go.Proofs.YtepohbcpepkboaaGreat
open Go.RowKit Go.Maps Go.WideMaps

set_option maxRecDepth 100000 in
theorem sortK_of {q : List ByteArray} (h : Rising q) : sortK q = q := rising_ext (sortK_rising q h.nodup) h (sortK_perm q)
set_option maxRecDepth 100000 in
theorem pick_of {q : List ByteArray} {l : List V} (h : Rising q) (hl : q.length = l.length) : pick q l = l := by
  unfold pick
  rw [sortK_of h]
  apply List.ext_getElem (by simpa using hl)
  intro j h3 h4
  rw [List.getElem_map, posK_nodup h.nodup]
  simp [h4]
/-- Values, in a row of the call's own; what they hold lies elsewhere. -/
def VOwn (W : World) (n : Nat) (sv : Value) (l : List V) : Prop :=
  ∃ us : List Value, W.ownsRow n 34 1 sv l.length us ∧ us.length = l.length ∧ ∀ i (hi : i < us.length) (hl : i < l.length), Rep W (fun b => n ≤ b ∧ sv.ownBlock ≠ some b) us[i] l[i]
set_option maxRecDepth 100000 in
theorem VOwn.nil (W : World) (n : Nat) : VOwn W n (.slice none 0 0) [] := ⟨[], World.ownsRow_nil _ _ _ _, rfl, fun i hi _ => by simp at hi⟩
set_option maxRecDepth 100000 in
theorem VOwn.below {W W' : World} {n : Nat} {sv : Value} {l : List V} (h : VOwn W n sv l) (hb : Below W.heap.size W W') : VOwn W' n sv l := by
  obtain ⟨us, h1, h2, h3⟩ := h
  exact ⟨us, cown_below h1 hb, h2, fun i hi hl => (h3 i hi hl).stays hb⟩
set_option maxRecDepth 100000 in
theorem VOwn.snoc {W1 W2 W4 : World} {n : Nat} {sv v' u : Value} {l : List V} {x : V} {us : List Value} (hr : ∀ i (hi : i < us.length) (hl : i < l.length), Rep W1 (fun b => n ≤ b ∧ sv.ownBlock ≠ some b) us[i] l[i]) (hlen : us.length = l.length) (ho : W1.ownsRow n 34 1 sv l.length us)
    (hb : Below W1.heap.size W1 W2) (hu : Rep W2 (fun b => W1.heap.size ≤ b) u x) (hn : n ≤ W1.heap.size)
    (h4 : W4.ownsRow n 34 1 v' (l.length + 1) (us ++ [u])) (hg : (W2.alloc (.cells #[u] 34)).grownBy W4 sv.ownBlock) (ha : v'.ownBlock = sv.ownBlock ∨ v'.ownBlock = some (W2.alloc (.cells #[u] 34)).heap.size) : VOwn W4 n v' (l ++ [x]) := by
  have hb3 : Below W1.heap.size W1 (W2.alloc (.cells #[u] 34)) := hb.alloc hb.size _
  have hs := hb3.size
  refine ⟨us ++ [u], by rw [List.length_append]; exact h4, by simp [hlen], fun i hi hl => ?_⟩
  by_cases hlt : i < us.length
  · have h1 := (hr i hlt (by omega)).low
    have h2 := h1.stays hb3
    have h3 : Rep W4 (fun b => (n ≤ b ∧ sv.ownBlock ≠ some b) ∧ b < W1.heap.size) us[i] l[i] := h2.agree (fun b hb' _ => hg.block b (by omega) (fun e => hb'.1.2 e.symm))
    have h5 := h3.mono (ok' := fun b => n ≤ b ∧ v'.ownBlock ≠ some b) (fun b hb' _ => ⟨hb'.1.1, fun e => by
      rcases ha with ha | ha
      · exact hb'.1.2 (ha ▸ e)
      · rw [ha] at e; injection e with e; omega⟩)
    rw [List.getElem_append_left hlt, List.getElem_append_left (by omega)]
    exact h5
  · obtain rfl : i = us.length := by simp at hi; omega
    have h2 := hu.low.stays ((Below.refl _ W2).alloc (Nat.le_refl _) (.cells #[u] 34))
    have h3 : Rep W4 (fun b => W1.heap.size ≤ b ∧ b < W2.heap.size) u x := h2.agree (fun b hb' _ => hg.block b (by simp; omega) (fun e => by have := (ho.lt b e.symm).2; omega))
    have h5 := h3.mono (ok' := fun b => n ≤ b ∧ v'.ownBlock ≠ some b) (fun b hb' _ => ⟨by omega, fun e => by
      rcases ha with ha | ha
      · rw [ha] at e; have := (ho.lt b e).2; omega
      · rw [ha] at e; injection e with e; simp at e; omega⟩)
    rw [List.getElem_append_right (Nat.le_refl _), List.getElem_append_right (by omega)]
    simpa [hlen] using h5
set_option maxRecDepth 100000 in
theorem VOwn.row {W : World} {n : Nat} {sv : Value} {l : List V} (h : VOwn W n sv l) : ∃ a c, sv = .slice a l.length c ∧ RRow W (fun b => n ≤ b) a l ∧ SliceOk a l.length c := by
  obtain ⟨us, h1, h2, h3⟩ := h
  obtain ⟨a, c, rfl, hc, hk, -⟩ := own_crow h1 (ok := fun b => n ≤ b) (fun b hb => hb)
  refine ⟨a, c, rfl, ⟨fun i => us[i]?.getD undef, fun hn => ?_, fun i hi => ?_⟩, hk⟩
  · obtain ⟨b, off, e, hb, hcc⟩ := hc (by intro e; rw [e] at h2; simp at h2; omega)
    refine ⟨b, off, e, hb, fun j hj => hcc j _ ?_⟩
    have hj' : j < us.length := by omega
    simp [hj']
  · have hi' : i < us.length := by omega
    have := (h3 i hi' hi).mono (ok' := fun b => n ≤ b) (fun b hb _ => hb.1)
    simpa [hi'] using this
end Go.Proofs.YtepohbcpepkboaaGreat

namespace Go.Proofs.YtepohbcpepkboaaGreat
open Go.RowKit

def ltB (a b : ByteArray) : Bool := decide (a.data.toList < b.data.toList)
set_option maxRecDepth 100000 in
theorem ltB_iff {a b : ByteArray} : ltB a b = true ↔ ltS a b := by unfold ltB ltS; exact decide_eq_true_iff
/-- How many keys, from the first one on, are less. -/
def below (key : ByteArray) : List ByteArray → Nat
  | [] => 0
  | y :: r => if ltB y key = true then below key r + 1 else 0
set_option maxRecDepth 100000 in
theorem below_le (key : ByteArray) : ∀ ks, below key ks ≤ ks.length
  | [] => Nat.le_refl _
  | y :: r => by unfold below; split <;> simp; exact below_le key r
set_option maxRecDepth 100000 in
theorem below_lt (key : ByteArray) : ∀ (ks : List ByteArray) (i : Nat) (_ : i < below key ks) (hl : i < ks.length), ltS ks[i] key
  | [], i, _, hl => by simp at hl
  | y :: r, 0, h, _ => by
    unfold below at h
    split at h
    · rename_i h1; exact ltB_iff.1 h1
    · omega
  | y :: r, i + 1, h, hl => by
    unfold below at h
    split at h
    · exact below_lt key r i (by omega) (by simpa using hl)
    · omega
set_option maxRecDepth 100000 in
theorem below_at (key : ByteArray) : ∀ (ks : List ByteArray) (hl : below key ks < ks.length), ¬ ltS (ks[below key ks]) key
  | [], hl => by simp at hl
  | y :: r, hl => by
    by_cases h1 : ltB y key = true
    · have e : below key (y :: r) = below key r + 1 := by simp [below, h1]
      have h2 : below key r < r.length := by rw [e] at hl; simpa using hl
      have := below_at key r h2
      simp only [e, List.getElem_cons_succ]
      exact this
    · have e : below key (y :: r) = 0 := by simp [below, h1]
      simp only [e, List.getElem_cons_zero]
      exact fun h => h1 (ltB_iff.2 h)
/-- Is the key there, where it would be put? -/
def hasAt (key : ByteArray) (ks : List ByteArray) : Bool := match ks[below key ks]? with | some y => decide (y = key) | none => false
def insKeys (key : ByteArray) (ks : List ByteArray) : List ByteArray := if hasAt key ks = true then ks else ks.take (below key ks) ++ [key] ++ ks.drop (below key ks)
def insVals (key : ByteArray) (x : V) (ks : List ByteArray) (vs : List V) : List V := if hasAt key ks = true then vs else vs.take (below key ks) ++ [x] ++ vs.drop (below key ks)
def insAll : List (ByteArray × V) → List ByteArray → List V → List ByteArray × List V
  | [], ks, vs => (ks, vs)
  | p :: r, ks, vs => insAll r (insKeys p.1 ks) (insVals p.1 p.2 ks vs)
set_option maxRecDepth 100000 in
theorem insAll_append : ∀ (a b : List (ByteArray × V)) (ks : List ByteArray) (vs : List V), insAll (a ++ b) ks vs = insAll b (insAll a ks vs).1 (insAll a ks vs).2
  | [], b, ks, vs => rfl
  | p :: r, b, ks, vs => by rw [List.cons_append, insAll, insAll_append r b, insAll]
def V.clean : V → V
  | .mk k b n m s l q =>
    if k = 1 then .mk 1 false 0 0 ByteArray.empty [] []
    else if k = 2 then .mk 2 b 0 0 ByteArray.empty [] []
    else if k = 3 then .mk 3 false n 0 ByteArray.empty [] []
    else if k = 4 then .mk 4 false (min (max n (-9007199254740992)) 9007199254740992) (min (max m (-9007199254740992)) 9007199254740992) ByteArray.empty [] []
    else if k = 5 then .mk 5 false 0 0 s [] []
    else if k = 6 then .mk 6 false 0 0 ByteArray.empty (go l) []
    else if k = 7 then .mk 7 false 0 0 ByteArray.empty (insAll (q.zip (go l)) [] []).2 (insAll (q.zip (go l)) [] []).1
    else V.null
  where go : List V → List V
    | [] => []
    | v :: r => v.clean :: go r
set_option maxRecDepth 100000 in
theorem cleanL_map : ∀ l : List V, V.clean.go l = l.map V.clean
  | [] => rfl
  | v :: r => by simp only [V.clean.go, List.map_cons, cleanL_map r]
def sumK (ks : List ByteArray) : Nat := (ks.map (fun x => 1 + x.size)).sum
set_option maxRecDepth 100000 in
theorem sumK_append (a b : List ByteArray) : sumK (a ++ b) = sumK a + sumK b := by simp [sumK]
set_option maxRecDepth 100000 in
theorem insKeys_len (key : ByteArray) (x : V) (ks : List ByteArray) (vs : List V) (h : ks.length = vs.length) : (insKeys key ks).length = (insVals key x ks vs).length := by
  unfold insKeys insVals
  split
  · exact h
  · simp [h]
set_option maxRecDepth 100000 in
theorem insKeys_rising (key : ByteArray) (ks : List ByteArray) (h : Rising ks) : Rising (insKeys key ks) := by
  unfold insKeys
  split
  · exact h
  · rename_i hno
    have hle := below_le key ks
    have h1 : Rising (ks.take (below key ks)) := List.Pairwise.sublist (List.take_sublist _ _) h
    have h2 : Rising (ks.drop (below key ks)) := List.Pairwise.sublist (List.drop_sublist _ _) h
    have hb : ∀ y ∈ ks.take (below key ks), ltS y key := by
      intro y hy
      obtain ⟨i, hi, rfl⟩ := List.mem_iff_getElem.1 hy
      rw [List.getElem_take]
      have hi' : i < below key ks := by simp at hi; omega
      exact below_lt key ks i hi' (by omega)
    have ha : ∀ y ∈ ks.drop (below key ks), ltS key y := by
      intro y hy
      obtain ⟨i, hi, rfl⟩ := List.mem_iff_getElem.1 hy
      have hlt : below key ks < ks.length := by simp at hi; omega
      have h0 : ltS key ks[below key ks] := by
        refine ltS_tri (below_at key ks hlt) (fun e => hno ?_)
        unfold hasAt
        simp [hlt, e]
      rw [List.getElem_drop]
      rcases Nat.eq_zero_or_pos i with rfl | hp
      · exact h0
      · exact ltS_trans h0 (List.pairwise_iff_getElem.1 h (below key ks) (below key ks + i) hlt (by simp at hi; omega) (by omega))
    unfold Rising at *
    rw [List.append_assoc, List.pairwise_append]
    refine ⟨h1, ?_, ?_⟩
    · rw [List.singleton_append, List.pairwise_cons]
      exact ⟨ha, h2⟩
    · intro a hA b hB
      rcases List.mem_append.1 hB with hB | hB
      · simp at hB; subst hB; exact hb a hA
      · exact ltS_trans (hb a hA) (ha b hB)
set_option maxRecDepth 100000 in
theorem insVals_mem (key : ByteArray) (x : V) (ks : List ByteArray) (vs : List V) : ∀ y ∈ insVals key x ks vs, y = x ∨ y ∈ vs := by
  intro y hy
  unfold insVals at hy
  split at hy
  · exact Or.inr hy
  · rcases List.mem_append.1 hy with hy | hy
    · rcases List.mem_append.1 hy with hy | hy
      · exact Or.inr (List.mem_of_mem_take hy)
      · simp at hy; exact Or.inl hy
    · exact Or.inr (List.mem_of_mem_drop hy)
set_option maxRecDepth 100000 in
theorem insVals_bulk (key : ByteArray) (x : V) (ks : List ByteArray) (vs : List V) : V.bulk.go (insVals key x ks vs) ≤ V.bulk.go vs + x.bulk := by
  unfold insVals
  split
  · omega
  · have := bulkL_append (vs.take (below key ks)) (vs.drop (below key ks))
    rw [List.take_append_drop] at this
    rw [bulkL_append, bulkL_append, bulkL_one]; omega
set_option maxRecDepth 100000 in
theorem insKeys_sum (key : ByteArray) (ks : List ByteArray) : sumK (insKeys key ks) ≤ sumK ks + (1 + key.size) := by
  unfold insKeys
  split
  · omega
  · have := sumK_append (ks.take (below key ks)) (ks.drop (below key ks))
    rw [List.take_append_drop] at this
    rw [sumK_append, sumK_append]
    have e : sumK [key] = 1 + key.size := by simp [sumK]
    omega
set_option maxRecDepth 100000 in
theorem insAll_good : ∀ (ps : List (ByteArray × V)) (ks : List ByteArray) (vs : List V), ks.length = vs.length → Rising ks → (∀ y ∈ vs, y.cl) → (∀ p ∈ ps, p.2.cl) →
    (insAll ps ks vs).1.length = (insAll ps ks vs).2.length ∧ Rising (insAll ps ks vs).1 ∧ (∀ y ∈ (insAll ps ks vs).2, y.cl) ∧ V.bulk.go (insAll ps ks vs).2 ≤ V.bulk.go vs + V.bulk.go (ps.map (·.2)) ∧ sumK (insAll ps ks vs).1 ≤ sumK ks + sumK (ps.map (·.1))
  | [], ks, vs, h1, h2, h3, _ => ⟨h1, h2, h3, by simp [insAll, V.bulk.go], by simp [insAll, sumK]⟩
  | p :: r, ks, vs, h1, h2, h3, h4 => by
    have ih := insAll_good r (insKeys p.1 ks) (insVals p.1 p.2 ks vs) (insKeys_len _ _ _ _ h1) (insKeys_rising _ _ h2) (fun y hy => (insVals_mem _ _ _ _ y hy).elim (fun e => by subst e; exact h4 p (by simp)) (h3 y)) (fun p' hp' => h4 p' (by simp [hp']))
    obtain ⟨i1, i2, i3, i4, i5⟩ := ih
    have b1 := insVals_bulk p.1 p.2 ks vs
    have b2 := insKeys_sum p.1 ks
    refine ⟨i1, i2, i3, ?_, ?_⟩
    · simp only [insAll, List.map_cons, V.bulk.go]; omega
    · have e : sumK (List.map (·.1) (p :: r)) = (1 + p.1.size) + sumK (List.map (·.1) r) := by simp [sumK]
      rw [e]; simp only [insAll]; omega
set_option maxRecDepth 100000 in
theorem zip_snd_bulk : ∀ (q : List ByteArray) (l : List V), V.bulk.go ((q.zip l).map (·.2)) ≤ V.bulk.go l
  | [], l => by simp [V.bulk.go]
  | _ :: _, [] => by simp [V.bulk.go]
  | k :: q, v :: l => by simp only [List.zip_cons_cons, List.map_cons, V.bulk.go]; have := zip_snd_bulk q l; omega
set_option maxRecDepth 100000 in
theorem zip_fst_sum : ∀ (q : List ByteArray) (l : List V), sumK ((q.zip l).map (·.1)) ≤ sumK q
  | [], l => by simp [sumK]
  | _ :: _, [] => by simp [sumK]
  | k :: q, v :: l => by
    have := zip_fst_sum q l
    simp only [sumK, List.zip_cons_cons, List.map_cons, List.sum_cons] at *; omega
set_option maxRecDepth 100000 in
theorem clean_good : (∀ v : V, v.clean.cl ∧ v.clean.bulk ≤ v.bulk) ∧ (∀ l : List V, (∀ x ∈ V.clean.go l, x.cl) ∧ V.bulk.go (V.clean.go l) ≤ V.bulk.go l) := by
  have hs : ∀ (k : Int) (b : Bool) (n m : Int) (s : ByteArray) (l : List V) (q : List ByteArray), ((∀ x ∈ V.clean.go l, x.cl) ∧ V.bulk.go (V.clean.go l) ≤ V.bulk.go l) → (V.mk k b n m s l q).clean.cl ∧ (V.mk k b n m s l q).clean.bulk ≤ (V.mk k b n m s l q).bulk := by
    intro k b n m s l q ⟨h1, h2⟩
    have e0 : ByteArray.empty.size = 0 := rfl
    simp only [V.clean]
    split
    · refine ⟨by simp [V.cl, V.cl.go], by simp [V.bulk, V.bulk.go, e0]; omega⟩
    split
    · refine ⟨by simp [V.cl, V.cl.go], by simp [V.bulk, V.bulk.go, e0]; omega⟩
    split
    · refine ⟨by simp [V.cl, V.cl.go], by simp [V.bulk, V.bulk.go, e0]; omega⟩
    split
    · refine ⟨by simp [V.cl, V.cl.go]; omega, by simp [V.bulk, V.bulk.go, e0]; omega⟩
    split
    · refine ⟨by simp [V.cl, V.cl.go], by simp [V.bulk, V.bulk.go]; omega⟩
    split
    · refine ⟨by simp [V.cl]; exact clL_of h1, by simp [V.bulk, e0]; omega⟩
    split
    · obtain ⟨g1, g2, g3, g4, g5⟩ := insAll_good (q.zip (V.clean.go l)) [] [] rfl List.Pairwise.nil (by simp) (fun p hp => h1 _ (List.of_mem_zip hp).2)
      have z1 := zip_snd_bulk q (V.clean.go l)
      have z2 := zip_fst_sum q (V.clean.go l)
      refine ⟨by simp [V.cl]; exact ⟨⟨g1, g2⟩, clL_of g3⟩, ?_⟩
      have e1 : V.bulk.go ([] : List V) = 0 := rfl
      have e2 : sumK [] = 0 := rfl
      simp only [V.bulk, e0]
      unfold sumK at *
      omega
    · refine ⟨by simp [V.null, V.cl, V.cl.go], by simp [V.null, V.bulk, V.bulk.go, e0]; omega⟩
  refine ⟨?_, ?_⟩
  · intro v
    exact V.rec (motive_1 := fun v => v.clean.cl ∧ v.clean.bulk ≤ v.bulk) (motive_2 := fun l => (∀ x ∈ V.clean.go l, x.cl) ∧ V.bulk.go (V.clean.go l) ≤ V.bulk.go l)
      (fun k b n m s l q ih => hs k b n m s l q ih) ⟨by simp [V.clean.go], by simp [V.clean.go]⟩ (fun x r h1 h2 => ⟨(fun y hy => by simp only [V.clean.go, List.mem_cons] at hy; exact hy.elim (fun e => by rw [e]; exact h1.1) (h2.1 y)), by simp only [V.clean.go, V.bulk.go]; omega⟩) v
  · intro l
    exact V.rec_1 (motive_1 := fun v => v.clean.cl ∧ v.clean.bulk ≤ v.bulk) (motive_2 := fun l => (∀ x ∈ V.clean.go l, x.cl) ∧ V.bulk.go (V.clean.go l) ≤ V.bulk.go l)
      (fun k b n m s l q ih => hs k b n m s l q ih) ⟨by simp [V.clean.go], by simp [V.clean.go]⟩ (fun x r h1 h2 => ⟨(fun y hy => by simp only [V.clean.go, List.mem_cons] at hy; exact hy.elim (fun e => by rw [e]; exact h1.1) (h2.1 y)), by simp only [V.clean.go, V.bulk.go]; omega⟩) l
set_option maxRecDepth 100000 in
theorem clean_cl (v : V) : v.clean.cl := (clean_good.1 v).1
set_option maxRecDepth 100000 in
theorem clean_bulk (v : V) : v.clean.bulk ≤ v.bulk := (clean_good.1 v).2
end Go.Proofs.YtepohbcpepkboaaGreat

