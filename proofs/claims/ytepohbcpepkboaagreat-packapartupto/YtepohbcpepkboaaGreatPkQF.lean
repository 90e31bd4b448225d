/- PackApart: for every two values that hold together at most 1048576 values and letters it returns true, and leaves both as they were: unlike values have unlike bytes. -/
import Derived.Test.YtepohbcpepkboaaGreatVTree
import Derived.OpenShut
import Derived.JoinedCond
import Derived.SliceStrings
import Derived.ChangeMaps5
import Derived.Deep.Slices
import Derived.ProofKit
import Derived.Test.YtepohbcpepkboaaGreatPkQ
namespace Go.Proofs.YtepohbcpepkboaaGreat
open Go.ChangeShapes Go.WideShapes Go.ChangeAt Go.RowKit Go.Deep

set_option maxRecDepth 100000 in
theorem own_knob4 : ownKnob Tryz.prog.godebug = none := by kernel_rfl
set_option maxRecDepth 100000 in
theorem laid_out4 : laidOutB Tryz.prog = true := by kernel_rfl
set_option maxRecDepth 100000 in
theorem i64_wf {a : Int} (h : (Lit.int .i64 a).wf = true) : I64 a := by
  have := (by simpa [Lit.wf, IntKind.min, IntKind.max, IntKind.signed, IntKind.bits] using h : -9223372036854775808 ≤ a ∧ a ≤ 9223372036854775807)
  unfold I64; omega
set_option maxRecDepth 100000 in
theorem bulk_all {H : Type} : ∀ (l : List V) (ds : List (DataW H)), l.length = ds.length → (∀ j (hj : j < l.length) (hd : j < ds.length), l[j].bulk ≤ Rows.uptoBulk ds[j]) → V.bulk.go l ≤ Rows.uptoBulkAll ds
  | [], [], _, _ => by simp [V.bulk.go, Rows.uptoBulkAll]
  | v :: r, d :: e, hl, h => by
    have h0 := h 0 (by simp) (by simp)
    have h1 := bulk_all r e (by simpa using hl) (fun j hj hd => h (j + 1) (Nat.succ_lt_succ hj) (Nat.succ_lt_succ hd))
    simp only [List.getElem_cons_zero] at h0
    simp only [V.bulk.go, Rows.uptoBulkAll]; omega
set_option maxRecDepth 100000 in
theorem bulk_strs {H : Type} : ∀ ss : List ByteArray, Rows.uptoBulkAll (H := H) (strs ss) = (ss.map (fun s => 1 + s.size)).sum
  | [] => by simp [strs, Rows.uptoBulkAll]
  | s :: r => by
    have := bulk_strs (H := H) r
    simp only [strs, List.map_cons, Rows.uptoBulkAll, List.sum_cons] at *
    rw [this]
    simp [Rows.uptoBulk]
    omega
section
variable {H : Type} {tok : TypeId × Value → H} {W : World} {base : Nat} {sp : Nat → Bool} {held : Bool}
set_option maxRecDepth 100000 in
theorem cellsV : Tryz.prog.cellsOf 25 = 7 := by kernel_rfl
set_option maxRecDepth 100000 in
/-- Texts that came in. -/
theorem texts_of {fuel : Nat} {cs : List Value} {x : DataW H × List MemPlace} (hf : DataW.trod tok Tryz.prog W base sp held fuel 23 cs = some x) :
    ∃ (q : List ByteArray) (a : Option Addr) (c : Nat), cs = [.slice a q.length c] ∧ SliceOk a q.length c ∧ SRow W (fun _ => True) a q ∧ (q.map (fun s => 1 + s.size)).sum + 1 ≤ Rows.uptoBulk x.1 := by
  rcases open_strings Tryz.underlying23 Tryz.underlying9 (by kernel_rfl) hf with ⟨rfl, rfl⟩ | ⟨a, len, cap, ss, rfl, _, hl, hm, hss, rfl, hcc, hmx⟩
  · exact ⟨[], none, 0, rfl, ⟨fun _ => ⟨rfl, rfl⟩, Nat.le_refl _, by simp [maxLen]⟩, SRow.nil _ _ _, by simp [Rows.uptoBulk]⟩
  · have hle : len ≤ ss.length := by rw [hss]; split <;> omega
    have hlen : (ss.take len).length = len := by simp; omega
    refine ⟨ss.take len, some a, cap, by rw [hlen], ⟨(fun h => by cases h), by rw [hlen]; exact hl, hm⟩, ⟨fun s hs => hmx s (List.mem_of_mem_take hs), fun hne => ?_⟩, ?_⟩
    · have h0 : 0 < len := by
        rcases Nat.eq_zero_or_pos len with h | h
        · subst h; simp at hne
        · exact h
      obtain ⟨b, off, spot⟩ := a
      have hc0 := hcc 0 (by omega)
      have hspot : spot = none := by simpa [Addr.add] using World.cell?_spot hc0
      subst hspot
      refine ⟨b, off, rfl, trivial, fun j hj => ?_⟩
      have := hcc j (by rw [hlen] at hj; omega)
      rw [Addr.add_lit] at this
      rw [this]
      have hj' : j < ss.length := by rw [hlen] at hj; omega
      simp [List.getD, hj']
    · simp only [Rows.uptoBulk]
      have h1 := bulk_strs (H := H) (ss.take len)
      omega
set_option maxRecDepth 100000 in
/-- A slice of values that came in, if each of them is as it should. -/
theorem vs_of {fuel : Nat} {cs : List Value} {x : DataW H × List MemPlace}
    (ih : ∀ m, m < fuel → ∀ (cs : List Value) (x : DataW H × List MemPlace), DataW.trod tok Tryz.prog W base sp held m 25 cs = some x → ∃ (v : V) (p : VP), cs = v.cells p ∧ VIn W (fun _ => True) v p ∧ v.bulk ≤ Rows.uptoBulk x.1)
    (hf : DataW.trod tok Tryz.prog W base sp held fuel 22 cs = some x) :
    ∃ (l : List V) (a : Option Addr) (c : Nat) (P : Nat → VP), cs = [.slice a l.length c] ∧ SliceOk a l.length c ∧ VCells W (fun _ => True) a l P ∧ (∀ j (hj : j < l.length), VIn W (fun _ => True) l[j] (P j)) ∧ V.bulk.go l + 1 ≤ Rows.uptoBulk x.1 := by
  rcases DataW.trod_slice Tryz.underlying22 hf with ⟨rfl, rfl⟩ | ⟨ad, len, cap, elems, rest, n, rfl, rfl, rfl, _, hl, hm, hlen, hel, -, -⟩
  · exact ⟨[], none, 0, fun _ => ⟨none, 0, none, 0⟩, rfl, ⟨fun _ => ⟨rfl, rfl⟩, Nat.le_refl _, by simp [maxLen]⟩, fun h => absurd rfl h, fun j hj => by simp at hj, by simp [Rows.uptoBulk, V.bulk.go]⟩
  · rw [cellsV] at hel
    have hall : ∀ i, i < len → ∃ q : V × VP, (∀ j, j < 7 → W.cell? ((ad.add (i * 7)).add j) = (q.1.cells q.2)[j]?) ∧ VIn W (fun _ => True) q.1 q.2 ∧ ∀ (hi : i < elems.length), q.1.bulk ≤ Rows.uptoBulk elems[i].1 := fun i hi => by
      have hi' : i < elems.length := by omega
      have h1 := hel i hi
      rw [List.getElem?_eq_getElem hi'] at h1
      obtain ⟨cs', h2, h3⟩ := Option.bind_eq_some_iff.1 h1
      obtain ⟨v, p, rfl, h4, h5⟩ := ih n (by omega) cs' _ h3
      obtain ⟨_, _, hc⟩ := World.cells?_some h2
      exact ⟨(v, p), hc, h4, fun _ => h5⟩
    have : Inhabited (V × VP) := ⟨(V.mk 0 false 0 0 ByteArray.empty [] [], ⟨none, 0, none, 0⟩)⟩
    obtain ⟨F, hF⟩ := choose_lt hall
    have hl2 : ((List.range len).map (fun i => (F i).1)).length = len := by simp
    refine ⟨(List.range len).map (fun i => (F i).1), some ad, cap, fun i => (F i).2, by rw [hl2], ⟨(fun h => by cases h), by rw [hl2]; exact hl, hm⟩, fun hne => ?_, fun j hj => ?_, ?_⟩
    · have h0 : 0 < len := by
        rcases Nat.eq_zero_or_pos len with h | h
        · subst h; simp at hne
        · exact h
      obtain ⟨b, off, spot⟩ := ad
      have hc0 := (hF 0 h0).1 0 (by omega)
      have hspot : spot = none := by
        have h1 : W.cell? ((Addr.add ⟨b, off, spot⟩ (0 * 7)).add 0) = some (.int .i64 (F 0).1.k) := by rw [hc0]; rfl
        simpa [Addr.add] using World.cell?_spot h1
      subst hspot
      refine ⟨b, off, rfl, trivial, fun j hj => ?_⟩
      have hj' : j < len := by rw [hl2] at hj; exact hj
      have hcell : ∀ i, i < 7 → W.cell? ⟨b, off + j * 7 + i, none⟩ = ((F j).1.cells (F j).2)[i]? := fun i hi => by
        have := (hF j hj').1 i hi
        rwa [Addr.add_lit, Addr.add_lit] at this
      have hget : ((List.range len).map (fun i => (F i).1))[j] = (F j).1 := by simp
      rw [hget]
      exact ⟨hcell 0 (by omega), hcell 1 (by omega), hcell 2 (by omega), hcell 3 (by omega), hcell 4 (by omega), hcell 5 (by omega), hcell 6 (by omega)⟩
    · have hj' : j < len := by rw [hl2] at hj; exact hj
      have hget : ((List.range len).map (fun i => (F i).1))[j] = (F j).1 := by simp
      rw [hget]
      exact (hF j hj').2.1
    · have h1 := bulk_all ((List.range len).map (fun i => (F i).1)) (elems.map (·.1)) (by rw [hl2]; simp [hlen]) (fun j hj hd => by
        have hj' : j < len := by rw [hl2] at hj; exact hj
        have := (hF j hj').2.2 (by omega)
        simpa using this)
      simp only [Rows.uptoBulk]
      omega
set_option maxRecDepth 100000 in
/-- A value that came in. -/
theorem v_in : ∀ (fuel : Nat) (cs : List Value) (x : DataW H × List MemPlace), DataW.trod tok Tryz.prog W base sp held fuel 25 cs = some x → ∃ (v : V) (p : VP), cs = v.cells p ∧ VIn W (fun _ => True) v p ∧ v.bulk ≤ Rows.uptoBulk x.1 := by
  intro fuel
  induction fuel using Nat.strongRecOn with
  | _ fuel ih =>
    intro cs x hf
    obtain ⟨xs, n, rfl, rfl, hl, hlen, hfd⟩ := DataW.trod_struct Tryz.underlying25 hf
    rw [cellsV] at hl
    obtain ⟨c0, c1, c2, c3, c4, c5, c6, rfl⟩ : ∃ c0 c1 c2 c3 c4 c5 c6, cs = [c0, c1, c2, c3, c4, c5, c6] := by
      match cs, hl with
      | [c0, c1, c2, c3, c4, c5, c6], _ => exact ⟨c0, c1, c2, c3, c4, c5, c6, rfl⟩
    obtain ⟨y0, y1, y2, y3, y4, y5, y6, rfl⟩ : ∃ y0 y1 y2 y3 y4 y5 y6, xs = [y0, y1, y2, y3, y4, y5, y6] := by
      match xs, hlen with
      | [y0, y1, y2, y3, y4, y5, y6], _ => exact ⟨y0, y1, y2, y3, y4, y5, y6, rfl⟩
    have k0 : Tryz.prog.cellsOf 3 = 1 := by kernel_rfl
    have k1 : Tryz.prog.cellsOf 4 = 1 := by kernel_rfl
    have k2 : Tryz.prog.cellsOf 9 = 1 := by kernel_rfl
    have k3 : Tryz.prog.cellsOf 22 = 1 := by kernel_rfl
    have k4 : Tryz.prog.cellsOf 23 = 1 := by kernel_rfl
    have h0 := hfd 0 _ rfl
    have h1 := hfd 1 _ rfl
    have h2 := hfd 2 _ rfl
    have h3 := hfd 3 _ rfl
    have h4 := hfd 4 _ rfl
    have h5 := hfd 5 _ rfl
    have h6 := hfd 6 _ rfl
    simp [k0, k1, k2, k3, k4] at h0 h1 h2 h3 h4 h5 h6
    obtain ⟨K, e0, f0, w0⟩ := DataW.trod_int Tryz.underlying3 h0
    obtain ⟨B, e1, f1⟩ := DataW.trod_bool Tryz.underlying4 h1
    obtain ⟨N, e2, f2, w2⟩ := DataW.trod_int Tryz.underlying3 h2
    obtain ⟨M, e3, f3, w3⟩ := DataW.trod_int Tryz.underlying3 h3
    obtain ⟨S, e4, f4, w4⟩ := DataW.trod_string Tryz.underlying9 h4
    obtain ⟨l, la, lc, P, e5, g1, g2, g3, g4⟩ := vs_of (fun m hm => ih m (by omega)) h5
    obtain ⟨q, ka, kc, e6, j1, j2, j3⟩ := texts_of h6
    simp at e0 e1 e2 e3 e4 e5 e6
    subst e0 e1 e2 e3 e4 e5 e6
    subst f0 f1 f2 f3 f4
    refine ⟨.mk K B N M S l q, ⟨la, lc, ka, kc⟩, rfl, VIn.mk K B N M S l q ⟨la, lc, ka, kc⟩ P (i64_wf w0) (i64_wf w2) (i64_wf w3) w4 g1 j1 j2 g2 g3, ?_⟩
    simp only [List.map_cons, List.map_nil, Rows.uptoBulk, Rows.uptoBulkAll, V.bulk]
    simp
    omega
set_option maxRecDepth 100000 in
theorem v_arg {r : Reach} {b0 : Nat} {v0 : Value} {d : DataW H} {ps : List MemPlace} (hval : Value.okWide Tryz.prog W r b0 25 v0) (h : DataW.Trod tok Tryz.prog W base sp held 25 v0 d ps) : ∃ (v : V) (p : VP), v0 = v.val p ∧ VIn W (fun _ => True) v p ∧ v.bulk ≤ Rows.uptoBulk d := by
  obtain ⟨cs, rfl, -⟩ := okWide_struct Tryz.underlying25 hval
  obtain ⟨fuel, hf⟩ := h
  obtain ⟨v, p, e, h1, h2⟩ := v_in fuel _ _ hf
  refine ⟨v, p, ?_, h1, h2⟩
  have : cs.toList = v.cells p := by simpa [Value.cells] using e
  have e2 : cs = (v.cells p).toArray := by rw [← this]
  rw [e2]; rfl
set_option maxRecDepth 100000 in
theorem strs_arg {r : Reach} {b0 : Nat} {v0 : Value} {d : DataW H} {ps : List MemPlace} (hval : Value.okWide Tryz.prog W r b0 23 v0) (h : DataW.Trod tok Tryz.prog W base sp held 23 v0 d ps) :
    ∃ (q : List ByteArray) (a : Option Addr) (c : Nat), v0 = .slice a q.length c ∧ (SRow W (fun _ => True) a q ∧ SliceOk a q.length c) ∧ (q.map (fun s => 1 + s.size)).sum + 1 ≤ Rows.uptoBulk d := by
  obtain ⟨a, n, c, rfl⟩ := okWide_slice Tryz.underlying23 hval
  obtain ⟨fuel, hf⟩ := h
  obtain ⟨q, a', c', e, h1, h2, h3⟩ := texts_of hf
  simp [Value.cells] at e
  obtain ⟨rfl, rfl, rfl⟩ := e
  exact ⟨q, a, c, rfl, ⟨h2, h1⟩, h3⟩
set_option maxRecDepth 100000 in
theorem vs_arg {r : Reach} {b0 : Nat} {v0 : Value} {d : DataW H} {ps : List MemPlace} (hval : Value.okWide Tryz.prog W r b0 22 v0) (h : DataW.Trod tok Tryz.prog W base sp held 22 v0 d ps) :
    ∃ (l : List V) (a : Option Addr) (c : Nat), v0 = .slice a l.length c ∧ (VRow W (fun _ => True) a l ∧ SliceOk a l.length c) ∧ V.bulk.go l + 1 ≤ Rows.uptoBulk d := by
  obtain ⟨a, n, c, rfl⟩ := okWide_slice Tryz.underlying22 hval
  obtain ⟨fuel, hf⟩ := h
  obtain ⟨l, a', c', P, e, h1, h2, h3, h4⟩ := vs_of (fun m _ => v_in m) hf
  simp [Value.cells] at e
  obtain ⟨rfl, rfl, rfl⟩ := e
  exact ⟨l, a, c, rfl, ⟨⟨P, h2, h3⟩, h1⟩, h4⟩
set_option maxRecDepth 100000 in
theorem str_bulk (s : ByteArray) : s.size < Rows.uptoBulk (DataW.lit (H := H) (.string s.data.toList)) := by
  simp [Rows.uptoBulk]
end
end Go.Proofs.YtepohbcpepkboaaGreat

namespace Go.Proofs.YtepohbcpepkboaaGreat
open Go.ChangeShapes Go.WideShapes Go.ChangeAt Go.RowKit

set_option maxRecDepth 100000 in
theorem packApart_upto_lifted (os : Os) (started : os.Started) (H : Type) (tok : TypeId × Value → H) (F : Stop.Interp) :
    ReturnsInHanded {} Tryz.checked os 6 .any ((Rows.OpenSpec.upto Rows.packApartSpec).pre6 tok Tryz.prog Tryz.f6 Rows.packApartUptoRow.domain false) (((Rows.OpenSpec.upto Rows.packApartSpec).at F).post tok Tryz.prog Tryz.f6 false true false false) := by
  refine returnsInHanded_of_cond (C := Tryz.checked) (s := Rows.OpenSpec.upto Rows.packApartSpec) (k := Rows.uptoSmall) rfl own_knob4 started (by kernel_rfl) Tryz.func6
    (OpenSpec.witness (enc := tok) (C := Tryz.checked) (s := Rows.OpenSpec.upto Rows.packApartSpec) (k := Rows.uptoSmall) rfl false ⟨#[], #[.agg #[.int .i64 0, .bool false, .int .i64 0, .int .i64 0, .string ByteArray.empty, .slice none 0 0, .slice none 0 0], .agg #[.int .i64 0, .bool false, .int .i64 0, .int .i64 0, .string ByteArray.empty, .slice none 0 0, .slice none 0 0]], []⟩ 8 (by kernel_rfl) (by kernel_rfl) (by kernel_rfl)
      (x := ([.agg [.lit (.int .i64 0), .lit (.bool false), .lit (.int .i64 0), .lit (.int .i64 0), .lit (.string []), .nil, .nil], .agg [.lit (.int .i64 0), .lit (.bool false), .lit (.int .i64 0), .lit (.int .i64 0), .lit (.string []), .nil, .nil]], [], [])) (by kernel_rfl) rfl (by kernel_rfl)) ?_
  intro W base args ds gs before hval0 hW _ hk _
  have hval : ∀ (j : Nat) t v, Tryz.f6.params[j]? = some t → args[j]? = some v → Value.okWide Tryz.prog W .any base t v := hval0
  have hW' := hW
  obtain ⟨p, q, hA0, hV, rfl, hfz, hnd⟩ := hW
  have hA : DataW.TrodAll tok Tryz.prog W 0 (fun _ => true) true Tryz.f6.params.toList args.toList ds p := hA0
  rw [Tryz.params6] at hA hval
  obtain ⟨v0, vs0, d0, ds0, p0, q0, hargs, rfl, rfl, h0, r0⟩ := trodAll_cons hA
  obtain ⟨v1, vs1, d1, ds1, p1, q1, rfl, rfl, rfl, h1, r1⟩ := trodAll_cons r0
  obtain ⟨rfl, rfl, rfl⟩ := trodAll_nil r1
  obtain rfl : args = #[v0, v1] := by cases args; simp_all
  obtain ⟨rfl, rfl⟩ := trodVars_none hV
  have hkk := of_decide_eq_true hk
  simp only [List.append_nil, Rows.uptoBulkAll] at hkk
  have k0 := h0
  have lt0 : ∀ x ∈ p0, x.block < W.heap.size := by obtain ⟨m, hm⟩ := k0; exact DataW.trod_lt m _ _ _ hm
  obtain ⟨a0, ap0, rfl, w0, b0⟩ := v_arg (hval 0 25 v0 rfl rfl) h0
  have k1 := h1
  have lt1 : ∀ x ∈ p1, x.block < W.heap.size := by obtain ⟨m, hm⟩ := k1; exact DataW.trod_lt m _ _ _ hm
  obtain ⟨a1, ap1, rfl, w1, b1⟩ := v_arg (hval 1 25 v1 rfl rfl) h1
  clear hA0 hval0
  refine (apart_law w0 w1 (by first | omega | (simp only [Rows.uptoBulk] at *; omega))).mono fun e W' ⟨he, bel⟩ => ?_
  subst he
  exact ⟨_, rfl, _, _, _, [], _, [], hW', trodAll_mk1 (shut_bool Tryz.underlying4 _), (trodAll_cons_mk (Below.trod laid_out4 (by kernel_rfl) (of_decide_eq_true (by kernel_rfl)) k0 bel lt0) (trodAll_cons_mk (Below.trod laid_out4 (by kernel_rfl) (of_decide_eq_true (by kernel_rfl)) k1 bel lt1) trodAll_mk0)), rfl, bel.frame _, fun h => by cases h⟩

set_option maxRecDepth 100000 in
theorem packApartUpto_holds : Rows.PackApartUptoSaid :=
  OpenClaim.holds_of_cond 6 Tryz.f6 rfl rfl rfl rfl rfl rfl rfl ⟨rfl, rfl, rfl, rfl, rfl⟩ rfl rfl rfl rfl rfl (by kernel_rfl) Tryz.func6 (by kernel_rfl)
    (of_decide_eq_true (by kernel_rfl)) (by unfold Func.isWrapper; first | (rw [if_pos (by decide +kernel)]; kernel_rfl) | (rw [if_neg (by decide +kernel)]; exact ⟨rfl, rfl⟩))
    (fun os started H tok _ F => packApart_upto_lifted os started H tok F)
#print axioms packApartUpto_holds
end Go.Proofs.YtepohbcpepkboaaGreat

