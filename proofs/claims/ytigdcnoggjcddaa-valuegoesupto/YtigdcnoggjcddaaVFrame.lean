/- What a value of the document's that came in shows, as the contracts want it; that its bulk is at most the reading's. No conditions. -/
import Derived.Test.YtigdcnoggjcddaaVWith
import Derived.Test.YtigdcnoggjcddaaVRWithA
import Derived.Test.YtigdcnoggjcddaaVRWithB
import Derived.Test.YtigdcnoggjcddaaVWithC
import Derived.Test.YtigdcnoggjcddaaVRWithD
import Derived.Test.YtigdcnoggjcddaaVRWithE
import Derived.Test.YtigdcnoggjcddaaVRWithF
import Derived.Test.YtigdcnoggjcddaaVFloat
import Derived.OpenShut
import Derived.JoinedCond
import Derived.SliceStrings
import Derived.ChangeMaps5
import Derived.Deep.Slices
import Derived.ProofKit
namespace Go.Proofs.Ytigdcnoggjcddaa
open Go.RowKit

/-- How many steps and letters. -/
def sumSt (l : List St) : Nat := (l.map (fun s => 1 + s.key.size)).sum
set_option maxRecDepth 100000 in
theorem sumSt_cons (s : St) (l : List St) : sumSt (s :: l) = 1 + s.key.size + sumSt l := by simp [sumSt]
set_option maxRecDepth 100000 in
theorem sumSt_len : ∀ l : List St, l.length ≤ sumSt l
  | [] => by simp
  | s :: l => by rw [sumSt_cons]; have := sumSt_len l; simp only [List.length_cons]; omega
set_option maxRecDepth 100000 in
theorem sumSt_mem : ∀ (l : List St), ∀ s ∈ l, 1 + s.key.size ≤ sumSt l
  | [], s, h => by cases h
  | t :: l, s, h => by
    rw [sumSt_cons]
    rcases List.mem_cons.1 h with rfl | h
    · omega
    · have := sumSt_mem l s h; omega
/-- Do two steps that are not the same lead elsewhere? -/
def leadB (s t : St) : Bool := decide (s.key ≠ t.key) || (decide (s.key = ByteArray.empty) && decide (0 ≤ s.at_) && decide (0 ≤ t.at_))
set_option maxRecDepth 100000 in
theorem puts_part {v x : V} {l m : List St} (hv : v.cl) (hx : x.cl) (k : Nat) (h1 : k < l.length) (h2 : k < m.length) (h3 : l.take k = m.take k) (h4 : l[k] ≠ m[k]) (h5 : leadB l[k] m[k] = true) (h6 : (v.withR x l).2 = 0) (h7 : (v.goTo m).2 = 0) : (v.withR x l).1.goTo m = v.goTo m := by
  have e1 : l = l.take k ++ l[k] :: l.drop (k + 1) := by rw [← List.drop_eq_getElem_cons h1, List.take_append_drop]
  have e2 : m = l.take k ++ m[k] :: m.drop (k + 1) := by rw [h3, ← List.drop_eq_getElem_cons h2, List.take_append_drop]
  have hl : l[k].key ≠ m[k].key ∨ l[k].key = ByteArray.empty ∧ 0 ≤ l[k].at_ ∧ 0 ≤ m[k].at_ := by
    unfold leadB at h5
    simpa [and_assoc] using h5
  have := withR_part hx l[k] m[k] (l.drop (k + 1)) (m.drop (k + 1)) h4 hl (l.take k) hv (by rw [← e1]; exact h6) (by rw [← e2]; exact h7)
  rw [← e1, ← e2] at this
  exact this
set_option maxRecDepth 100000 in
theorem withR_null {v x : V} (l : List St) (h : (v.withR x l).2 ≠ 0) : (v.withR x l).1 = V.null := by
  cases l with
  | nil => exact absurd rfl h
  | cons s r =>
    rw [V.withR] at h ⊢
    split at h <;> rename_i h1
    · rw [if_pos h1, put_err h]
    · rw [if_neg h1]
      split at h <;> rename_i h2
      · rw [if_pos h2]
        split at h <;> rename_i h3
        · rw [if_pos h3, put_err h]
        · rw [if_neg h3]
      · rw [if_neg h2]
set_option maxRecDepth 100000 in
theorem goTo_bulk : ∀ {v : V} (_ : v.cl) (l : List St), (v.goTo l).1.bulk ≤ v.bulk
  | v, h, [] => Nat.le_refl _
  | v, h, s :: r => by
    unfold V.goTo
    split
    · exact Nat.le_trans (goTo_bulk (follow_cl h s) r) (follow_bulk h s)
    · rw [bulk_null]; exact v.bulk_pos
end Go.Proofs.Ytigdcnoggjcddaa

namespace Go.Proofs.Ytigdcnoggjcddaa
open Go.RowKit Go.Maps Go.WideMaps

set_option maxRecDepth 100000 in
theorem follow_errs {v : V} {s : St} (h0 : (v.follow s).2 = 0) : ∃ i : Nat, v.placeK s = i := by
  obtain ⟨i, hi⟩ : ∃ i : Int, v.placeK s = i := ⟨_, rfl⟩
  have hnn : 0 ≤ v.placeK s := by
    unfold V.placeK
    rw [if_neg (by rw [h0]; simp)]
    cases hb : s.byKey
    · rw [if_neg (by simp)]
      have hn : ¬ s.at_ < 0 := fun h => by unfold St.byKey at hb; simp [h] at hb
      omega
    · rw [if_pos rfl]; omega
  exact ⟨(v.placeK s).toNat, by omega⟩
set_option maxRecDepth 100000 in
theorem new_bulk (v x : V) (key : ByteArray) : (V.mk 7 false 0 0 ByteArray.empty (v.l ++ [x]) (v.keys ++ [key])).bulk ≤ v.bulk + x.bulk + (1 + key.size) := by
  obtain ⟨k, b, n, m, t, l, q⟩ := v
  simp only [V.bulk, bulkL_append, bulkL_one, List.map_append, List.sum_append]
  simp
  omega
set_option maxRecDepth 100000 in
theorem rwith_any {w0 : World} {ok : Nat → Prop} {x : V} {xp : VP} (hx : VIn w0 ok x xp) (hxc : x.cl) (hlow : ∀ b, ok b → b < w0.heap.size) : ∀ (l : List St) {v : V} {p : VP}, VIn w0 ok v p → v.cl → v.bulk + x.bulk + sumSt l ≤ 1048576 →
    ∀ (w : World), Below w0.heap.size w0 w → ∀ (ao : Option Addr) (c : Nat), StRow w ao l → SliceOk ao l.length c →
    Calls Try.prog 26 #[v.val p, x.val xp, .slice ao l.length c] w fun e w' => ∃ p', e = .returned (.tuple #[(v.withR x l).1.val p', .int .i64 (v.withR x l).2]) ∧ VIn w' (fun b => (ok b ∧ b < w.heap.size) ∨ w.heap.size ≤ b) (v.withR x l).1 p' ∧ Below w.heap.size w w' := by
  intro l
  induction l with
  | nil =>
    intro v p hv hc hb w hb0 ao c hl hso
    exact (rwith_none (v := v) (p := p) hx w hb0 ao c).mono fun e w' ⟨h1, h2, h3⟩ => ⟨xp, by rw [h1]; rfl, h2, h3⟩
  | cons s r ih =>
    intro v p hv hc hb w hb0 ao c hl hso
    rw [sumSt_cons] at hb
    have hrl := sumSt_len r
    have hvp := v.bulk_pos
    have hvb : v.bulk ≤ 1048576 := by omega
    have hn : r.length ≤ 1048575 := by omega
    have hnil : ∀ W, VIn W (fun b => (ok b ∧ b < w.heap.size) ∨ w.heap.size ≤ b) V.null nilp := fun W => VIn.nul _ _
    by_cases h0 : (v.follow s).2 = 0
    · have hcb := follow_bulk hc s
      have hcc := follow_cl hc s
      obtain ⟨i, hpi⟩ := follow_errs h0
      have hR := withR_in hc h0 hpi x r
      by_cases hE : ((v.follow s).1.withR x r).2 = 0
      · rw [if_pos hE] at hR
        rw [hR]
        exact rwith_inside hv w hb0 hvb hc ao s r c hl hso hn h0 hlow i hpi (fun W cp ao' c' hW hcv hst hs' => ih hcv hcc (by omega) W hW ao' c' hst hs') hE
      · rw [if_neg hE] at hR
        rw [hR]
        exact (rwith_below (x := x) (xp := xp) hv w hb0 hvb hc ao s r c hl hso hn h0 (fun W cp ao' c' hW hcv hst hs' => (ih hcv hcc (by omega) W hW ao' c' hst hs').mono fun e w' ⟨yp, h1, h2, h3⟩ => ⟨yp, h1, h3⟩) hE).mono fun e w' ⟨h1, h2⟩ => ⟨nilp, h1, hnil _, h2⟩
    · by_cases hone : r = [] ∧ ((v.follow s).2 = 8 ∨ ((v.follow s).2 = 2 ∧ s.at_ = v.l.length))
      · obtain ⟨rfl, hk⟩ := hone
        rcases hk with h8 | ⟨h2, hat⟩
        · have hR := (withR_new hc hxc h8).2
          rw [hR]
          have hks : s.key.size ≤ maxLen := by
            have e : maxLen = 9223372036854775807 := rfl
            omega
          exact (rwith_new hv hx w hb0 hvb hc ao s c hl h8 hks (by have := new_bulk v x s.key; simp [sumSt] at hb; omega)).mono fun e w' ⟨p', h1, h2, h3⟩ => ⟨p', h1, h2.mono (fun b hb _ => Or.inr hb), h3⟩
        · have hR := withR_next (x := x) h2 hat
          rw [hR]
          exact rwith_next hv hx w hb0 hvb hc ao s c hl h2 hat
      · have h : r ≠ [] ∨ ((v.follow s).2 ≠ 8 ∧ ((v.follow s).2 = 2 → s.at_ ≠ v.l.length)) := by
          by_cases hr : r = []
          · refine Or.inr ⟨fun h => hone ⟨hr, Or.inl h⟩, fun h1 h2 => hone ⟨hr, Or.inr ⟨h1, h2⟩⟩⟩
          · exact Or.inl hr
        have hR := withR_first (x := x) h0 h
        rw [hR]
        exact (rwith_err (x := x) (xp := xp) hv w hb0 hvb hc ao s r c hl hn h0 h).mono fun e w' ⟨h1, h2⟩ => ⟨nilp, h1, hnil _, h2⟩
end Go.Proofs.Ytigdcnoggjcddaa

namespace Go.Proofs.Ytigdcnoggjcddaa
open Go.ChangeShapes Go.WideShapes Go.ChangeAt Go.RowKit Go.Deep

set_option maxRecDepth 100000 in
theorem own_knob4 : ownKnob Try.prog.godebug = none := by kernel_rfl
set_option maxRecDepth 100000 in
theorem laid_out4 : laidOutB Try.prog = true := by kernel_rfl
set_option maxRecDepth 100000 in
theorem i64_wf {a : Int} (h : (Lit.int .i64 a).wf = true) : I64 a := by
  have := (by simpa [Lit.wf, IntKind.min, IntKind.max, IntKind.signed, IntKind.bits] using h : -9223372036854775808 ≤ a ∧ a ≤ 9223372036854775807)
  unfold I64; omega
set_option maxRecDepth 100000 in
theorem bulk_all {H : Type} : ∀ (l : List V) (ds : List (DataW H)), l.length = ds.length → (∀ j (hj : j < l.length) (hd : j < ds.length), l[j].bulk ≤ Rows.uptoBulk ds[j]) → V.bulk.go l ≤ Rows.uptoBulkAll ds
  | [], [], _, _ => by simp [V.bulk.go, Rows.uptoBulkAll]
  | v :: r, d :: e, hl, h => by
    have h0 := h 0 (by simp) (by simp)
    have h1 := bulk_all r e (by simpa using hl) (fun j hj hd => h (j + 1) (Nat.succ_lt_succ hj) (Nat.succ_lt_succ hd))
    simp only [List.getElem_cons_zero] at h0
    simp only [V.bulk.go, Rows.uptoBulkAll]; omega
set_option maxRecDepth 100000 in
theorem bulk_strs {H : Type} : ∀ ss : List ByteArray, Rows.uptoBulkAll (H := H) (strs ss) = (ss.map (fun s => 1 + s.size)).sum
  | [] => by simp [strs, Rows.uptoBulkAll]
  | s :: r => by
    have := bulk_strs (H := H) r
    simp only [strs, List.map_cons, Rows.uptoBulkAll, List.sum_cons] at *
    rw [this]
    simp [Rows.uptoBulk]
    omega
section
variable {H : Type} {tok : TypeId × Value → H} {W : World} {base : Nat} {sp : Nat → Bool} {held : Bool}
set_option maxRecDepth 100000 in
theorem cellsV : Try.prog.cellsOf 25 = 7 := by kernel_rfl
set_option maxRecDepth 100000 in
/-- Texts that came in. -/
theorem texts_of {fuel : Nat} {cs : List Value} {x : DataW H × List MemPlace} (hf : DataW.trod tok Try.prog W base sp held fuel 23 cs = some x) :
    ∃ (q : List ByteArray) (a : Option Addr) (c : Nat), cs = [.slice a q.length c] ∧ SliceOk a q.length c ∧ SRow W (fun _ => True) a q ∧ (q.map (fun s => 1 + s.size)).sum + 1 ≤ Rows.uptoBulk x.1 := by
  rcases open_strings Try.underlying23 Try.underlying9 (by kernel_rfl) hf with ⟨rfl, rfl⟩ | ⟨a, len, cap, ss, rfl, _, hl, hm, hss, rfl, hcc, hmx⟩
  · exact ⟨[], none, 0, rfl, ⟨fun _ => ⟨rfl, rfl⟩, Nat.le_refl _, by simp [maxLen]⟩, SRow.nil _ _ _, by simp [Rows.uptoBulk]⟩
  · have hle : len ≤ ss.length := by rw [hss]; split <;> omega
    have hlen : (ss.take len).length = len := by simp; omega
    refine ⟨ss.take len, some a, cap, by rw [hlen], ⟨(fun h => by cases h), by rw [hlen]; exact hl, hm⟩, ⟨fun s hs => hmx s (List.mem_of_mem_take hs), fun hne => ?_⟩, ?_⟩
    · have h0 : 0 < len := by
        rcases Nat.eq_zero_or_pos len with h | h
        · subst h; simp at hne
        · exact h
      obtain ⟨b, off, spot⟩ := a
      have hc0 := hcc 0 (by omega)
      have hspot : spot = none := by simpa [Addr.add] using World.cell?_spot hc0
      subst hspot
      refine ⟨b, off, rfl, trivial, fun j hj => ?_⟩
      have := hcc j (by rw [hlen] at hj; omega)
      rw [Addr.add_lit] at this
      rw [this]
      have hj' : j < ss.length := by rw [hlen] at hj; omega
      simp [List.getD, hj']
    · simp only [Rows.uptoBulk]
      have h1 := bulk_strs (H := H) (ss.take len)
      omega
set_option maxRecDepth 100000 in
/-- A slice of values that came in, if each of them is as it should. -/
theorem vs_of {fuel : Nat} {cs : List Value} {x : DataW H × List MemPlace}
    (ih : ∀ m, m < fuel → ∀ (cs : List Value) (x : DataW H × List MemPlace), DataW.trod tok Try.prog W base sp held m 25 cs = some x → ∃ (v : V) (p : VP), cs = v.cells p ∧ VIn W (fun _ => True) v p ∧ v.bulk ≤ Rows.uptoBulk x.1)
    (hf : DataW.trod tok Try.prog W base sp held fuel 22 cs = some x) :
    ∃ (l : List V) (a : Option Addr) (c : Nat) (P : Nat → VP), cs = [.slice a l.length c] ∧ SliceOk a l.length c ∧ VCells W (fun _ => True) a l P ∧ (∀ j (hj : j < l.length), VIn W (fun _ => True) l[j] (P j)) ∧ V.bulk.go l + 1 ≤ Rows.uptoBulk x.1 := by
  rcases DataW.trod_slice Try.underlying22 hf with ⟨rfl, rfl⟩ | ⟨ad, len, cap, elems, rest, n, rfl, rfl, rfl, _, hl, hm, hlen, hel, -, -⟩
  · exact ⟨[], none, 0, fun _ => ⟨none, 0, none, 0⟩, rfl, ⟨fun _ => ⟨rfl, rfl⟩, Nat.le_refl _, by simp [maxLen]⟩, fun h => absurd rfl h, fun j hj => by simp at hj, by simp [Rows.uptoBulk, V.bulk.go]⟩
  · rw [cellsV] at hel
    have hall : ∀ i, i < len → ∃ q : V × VP, (∀ j, j < 7 → W.cell? ((ad.add (i * 7)).add j) = (q.1.cells q.2)[j]?) ∧ VIn W (fun _ => True) q.1 q.2 ∧ ∀ (hi : i < elems.length), q.1.bulk ≤ Rows.uptoBulk elems[i].1 := fun i hi => by
      have hi' : i < elems.length := by omega
      have h1 := hel i hi
      rw [List.getElem?_eq_getElem hi'] at h1
      obtain ⟨cs', h2, h3⟩ := Option.bind_eq_some_iff.1 h1
      obtain ⟨v, p, rfl, h4, h5⟩ := ih n (by omega) cs' _ h3
      obtain ⟨_, _, hc⟩ := World.cells?_some h2
      exact ⟨(v, p), hc, h4, fun _ => h5⟩
    have : Inhabited (V × VP) := ⟨(V.mk 0 false 0 0 ByteArray.empty [] [], ⟨none, 0, none, 0⟩)⟩
    obtain ⟨F, hF⟩ := choose_lt hall
    have hl2 : ((List.range len).map (fun i => (F i).1)).length = len := by simp
    refine ⟨(List.range len).map (fun i => (F i).1), some ad, cap, fun i => (F i).2, by rw [hl2], ⟨(fun h => by cases h), by rw [hl2]; exact hl, hm⟩, fun hne => ?_, fun j hj => ?_, ?_⟩
    · have h0 : 0 < len := by
        rcases Nat.eq_zero_or_pos len with h | h
        · subst h; simp at hne
        · exact h
      obtain ⟨b, off, spot⟩ := ad
      have hc0 := (hF 0 h0).1 0 (by omega)
      have hspot : spot = none := by
        have h1 : W.cell? ((Addr.add ⟨b, off, spot⟩ (0 * 7)).add 0) = some (.int .i64 (F 0).1.k) := by rw [hc0]; rfl
        simpa [Addr.add] using World.cell?_spot h1
      subst hspot
      refine ⟨b, off, rfl, trivial, fun j hj => ?_⟩
      have hj' : j < len := by rw [hl2] at hj; exact hj
      have hcell : ∀ i, i < 7 → W.cell? ⟨b, off + j * 7 + i, none⟩ = ((F j).1.cells (F j).2)[i]? := fun i hi => by
        have := (hF j hj').1 i hi
        rwa [Addr.add_lit, Addr.add_lit] at this
      have hget : ((List.range len).map (fun i => (F i).1))[j] = (F j).1 := by simp
      rw [hget]
      exact ⟨hcell 0 (by omega), hcell 1 (by omega), hcell 2 (by omega), hcell 3 (by omega), hcell 4 (by omega), hcell 5 (by omega), hcell 6 (by omega)⟩
    · have hj' : j < len := by rw [hl2] at hj; exact hj
      have hget : ((List.range len).map (fun i => (F i).1))[j] = (F j).1 := by simp
      rw [hget]
      exact (hF j hj').2.1
    · have h1 := bulk_all ((List.range len).map (fun i => (F i).1)) (elems.map (·.1)) (by rw [hl2]; simp [hlen]) (fun j hj hd => by
        have hj' : j < len := by rw [hl2] at hj; exact hj
        have := (hF j hj').2.2 (by omega)
        simpa using this)
      simp only [Rows.uptoBulk]
      omega
set_option maxRecDepth 100000 in
/-- A value that came in. -/
theorem v_in : ∀ (fuel : Nat) (cs : List Value) (x : DataW H × List MemPlace), DataW.trod tok Try.prog W base sp held fuel 25 cs = some x → ∃ (v : V) (p : VP), cs = v.cells p ∧ VIn W (fun _ => True) v p ∧ v.bulk ≤ Rows.uptoBulk x.1 := by
  intro fuel
  induction fuel using Nat.strongRecOn with
  | _ fuel ih =>
    intro cs x hf
    obtain ⟨xs, n, rfl, rfl, hl, hlen, hfd⟩ := DataW.trod_struct Try.underlying25 hf
    rw [cellsV] at hl
    obtain ⟨c0, c1, c2, c3, c4, c5, c6, rfl⟩ : ∃ c0 c1 c2 c3 c4 c5 c6, cs = [c0, c1, c2, c3, c4, c5, c6] := by
      match cs, hl with
      | [c0, c1, c2, c3, c4, c5, c6], _ => exact ⟨c0, c1, c2, c3, c4, c5, c6, rfl⟩
    obtain ⟨y0, y1, y2, y3, y4, y5, y6, rfl⟩ : ∃ y0 y1 y2 y3 y4 y5 y6, xs = [y0, y1, y2, y3, y4, y5, y6] := by
      match xs, hlen with
      | [y0, y1, y2, y3, y4, y5, y6], _ => exact ⟨y0, y1, y2, y3, y4, y5, y6, rfl⟩
    have k0 : Try.prog.cellsOf 3 = 1 := by kernel_rfl
    have k1 : Try.prog.cellsOf 4 = 1 := by kernel_rfl
    have k2 : Try.prog.cellsOf 9 = 1 := by kernel_rfl
    have k3 : Try.prog.cellsOf 22 = 1 := by kernel_rfl
    have k4 : Try.prog.cellsOf 23 = 1 := by kernel_rfl
    have h0 := hfd 0 _ rfl
    have h1 := hfd 1 _ rfl
    have h2 := hfd 2 _ rfl
    have h3 := hfd 3 _ rfl
    have h4 := hfd 4 _ rfl
    have h5 := hfd 5 _ rfl
    have h6 := hfd 6 _ rfl
    simp [k0, k1, k2, k3, k4] at h0 h1 h2 h3 h4 h5 h6
    obtain ⟨K, e0, f0, w0⟩ := DataW.trod_int Try.underlying3 h0
    obtain ⟨B, e1, f1⟩ := DataW.trod_bool Try.underlying4 h1
    obtain ⟨N, e2, f2, w2⟩ := DataW.trod_int Try.underlying3 h2
    obtain ⟨M, e3, f3, w3⟩ := DataW.trod_int Try.underlying3 h3
    obtain ⟨S, e4, f4, w4⟩ := DataW.trod_string Try.underlying9 h4
    obtain ⟨l, la, lc, P, e5, g1, g2, g3, g4⟩ := vs_of (fun m hm => ih m (by omega)) h5
    obtain ⟨q, ka, kc, e6, j1, j2, j3⟩ := texts_of h6
    simp at e0 e1 e2 e3 e4 e5 e6
    subst e0 e1 e2 e3 e4 e5 e6
    subst f0 f1 f2 f3 f4
    refine ⟨.mk K B N M S l q, ⟨la, lc, ka, kc⟩, rfl, VIn.mk K B N M S l q ⟨la, lc, ka, kc⟩ P (i64_wf w0) (i64_wf w2) (i64_wf w3) w4 g1 j1 j2 g2 g3, ?_⟩
    simp only [List.map_cons, List.map_nil, Rows.uptoBulk, Rows.uptoBulkAll, V.bulk]
    simp
    omega
set_option maxRecDepth 100000 in
theorem v_arg {r : Reach} {b0 : Nat} {v0 : Value} {d : DataW H} {ps : List MemPlace} (hval : Value.okWide Try.prog W r b0 25 v0) (h : DataW.Trod tok Try.prog W base sp held 25 v0 d ps) : ∃ (v : V) (p : VP), v0 = v.val p ∧ VIn W (fun _ => True) v p ∧ v.bulk ≤ Rows.uptoBulk d := by
  obtain ⟨cs, rfl, -⟩ := okWide_struct Try.underlying25 hval
  obtain ⟨fuel, hf⟩ := h
  obtain ⟨v, p, e, h1, h2⟩ := v_in fuel _ _ hf
  refine ⟨v, p, ?_, h1, h2⟩
  have : cs.toList = v.cells p := by simpa [Value.cells] using e
  have e2 : cs = (v.cells p).toArray := by rw [← this]
  rw [e2]; rfl
set_option maxRecDepth 100000 in
theorem strs_arg {r : Reach} {b0 : Nat} {v0 : Value} {d : DataW H} {ps : List MemPlace} (hval : Value.okWide Try.prog W r b0 23 v0) (h : DataW.Trod tok Try.prog W base sp held 23 v0 d ps) :
    ∃ (q : List ByteArray) (a : Option Addr) (c : Nat), v0 = .slice a q.length c ∧ (SRow W (fun _ => True) a q ∧ SliceOk a q.length c) ∧ (q.map (fun s => 1 + s.size)).sum + 1 ≤ Rows.uptoBulk d := by
  obtain ⟨a, n, c, rfl⟩ := okWide_slice Try.underlying23 hval
  obtain ⟨fuel, hf⟩ := h
  obtain ⟨q, a', c', e, h1, h2, h3⟩ := texts_of hf
  simp [Value.cells] at e
  obtain ⟨rfl, rfl, rfl⟩ := e
  exact ⟨q, a, c, rfl, ⟨h2, h1⟩, h3⟩
set_option maxRecDepth 100000 in
theorem vs_arg {r : Reach} {b0 : Nat} {v0 : Value} {d : DataW H} {ps : List MemPlace} (hval : Value.okWide Try.prog W r b0 22 v0) (h : DataW.Trod tok Try.prog W base sp held 22 v0 d ps) :
    ∃ (l : List V) (a : Option Addr) (c : Nat), v0 = .slice a l.length c ∧ (VRow W (fun _ => True) a l ∧ SliceOk a l.length c) ∧ V.bulk.go l + 1 ≤ Rows.uptoBulk d := by
  obtain ⟨a, n, c, rfl⟩ := okWide_slice Try.underlying22 hval
  obtain ⟨fuel, hf⟩ := h
  obtain ⟨l, a', c', P, e, h1, h2, h3, h4⟩ := vs_of (fun m _ => v_in m) hf
  simp [Value.cells] at e
  obtain ⟨rfl, rfl, rfl⟩ := e
  exact ⟨l, a, c, rfl, ⟨⟨P, h2, h3⟩, h1⟩, h4⟩
set_option maxRecDepth 100000 in
theorem str_bulk (s : ByteArray) : s.size < Rows.uptoBulk (DataW.lit (H := H) (.string s.data.toList)) := by
  simp [Rows.uptoBulk]
end
end Go.Proofs.Ytigdcnoggjcddaa

