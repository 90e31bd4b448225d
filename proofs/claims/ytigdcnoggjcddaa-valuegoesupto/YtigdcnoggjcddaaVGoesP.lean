/- What ValueGoes wants beside the contracts: how great With's answer is, where Go leads; the document's steps, made one by one. No conditions. -/
import Derived.Test.YtigdcnoggjcddaaVFrame
import Derived.Test.YtigdcnoggjcddaaVCleanR
namespace Go.Proofs.Ytigdcnoggjcddaa
open Go.ChangeShapes Go.WideShapes Go.ChangeAt Go.RowKit Go.Deep
section
variable {H : Type} {tok : TypeId × Value → H} {W : World} {base : Nat} {sp : Nat → Bool} {held : Bool}
set_option maxRecDepth 100000 in
theorem cellsSt : Try.prog.cellsOf 42 = 2 := by kernel_rfl
set_option maxRecDepth 100000 in
theorem st_in {fuel : Nat} {cs : List Value} {x : DataW H × List MemPlace} (hf : DataW.trod tok Try.prog W base sp held fuel 42 cs = some x) : ∃ s : St, cs = [.string s.key, .int .i64 s.at_] ∧ s.ok ∧ 1 + s.key.size ≤ Rows.uptoBulk x.1 := by
  obtain ⟨xs, n, rfl, rfl, hl, hlen, hfd⟩ := DataW.trod_struct Try.underlying42 hf
  rw [cellsSt] at hl
  obtain ⟨c0, c1, rfl⟩ : ∃ c0 c1, cs = [c0, c1] := by
    match cs, hl with
    | [c0, c1], _ => exact ⟨c0, c1, rfl⟩
  obtain ⟨y0, y1, rfl⟩ : ∃ y0 y1, xs = [y0, y1] := by
    match xs, hlen with
    | [y0, y1], _ => exact ⟨y0, y1, rfl⟩
  have k0 : Try.prog.cellsOf 3 = 1 := by kernel_rfl
  have k2 : Try.prog.cellsOf 9 = 1 := by kernel_rfl
  have h0 := hfd 0 _ rfl
  have h1 := hfd 1 _ rfl
  simp [k0, k2] at h0 h1
  obtain ⟨S, e0, f0, w0⟩ := DataW.trod_string Try.underlying9 h0
  obtain ⟨K, e1, f1, w1⟩ := DataW.trod_int Try.underlying3 h1
  simp at e0 e1
  subst e0 e1
  subst f0 f1
  refine ⟨⟨S, K⟩, rfl, ⟨w0, i64_wf w1⟩, ?_⟩
  simp only [List.map_cons, List.map_nil, Rows.uptoBulk, Rows.uptoBulkAll]
  simp
  omega
set_option maxRecDepth 100000 in
theorem sumSt_all : ∀ (l : List St) (ds : List (DataW H)), l.length = ds.length → (∀ j (hj : j < l.length) (hd : j < ds.length), 1 + l[j].key.size ≤ Rows.uptoBulk ds[j]) → sumSt l ≤ Rows.uptoBulkAll ds
  | [], [], _, _ => by simp [sumSt]
  | s :: r, d :: e, hl, h => by
    have h0 := h 0 (by simp) (by simp)
    have h1 := sumSt_all r e (by simpa using hl) (fun j hj hd => h (j + 1) (Nat.succ_lt_succ hj) (Nat.succ_lt_succ hd))
    simp only [List.getElem_cons_zero] at h0
    rw [sumSt_cons]
    simp only [Rows.uptoBulkAll]; omega
set_option maxRecDepth 100000 in
theorem steps_arg {r : Reach} {b0 : Nat} {v0 : Value} {d : DataW H} {ps : List MemPlace} (hval : Value.okWide Try.prog W r b0 39 v0) (h : DataW.Trod tok Try.prog W base sp held 39 v0 d ps) :
    ∃ (l : List St) (a : Option Addr) (c : Nat), v0 = .slice a l.length c ∧ (StRow W a l ∧ SliceOk a l.length c) ∧ sumSt l + 1 ≤ Rows.uptoBulk d := by
  obtain ⟨a0, n0, c0, rfl⟩ := okWide_slice Try.underlying39 hval
  obtain ⟨fuel, hf⟩ := h
  simp only [Value.cells] at hf
  rcases DataW.trod_slice Try.underlying39 hf with ⟨e, e2⟩ | ⟨ad, len, cap, elems, rest, n, rfl, e, e2, _, hl, hm, hlen, hel, -, -⟩
  · simp at e
    obtain ⟨rfl, rfl, rfl⟩ := e
    refine ⟨[], none, 0, rfl, ⟨⟨(fun s hs => by cases hs), fun h => absurd rfl h⟩, fun _ => ⟨rfl, rfl⟩, Nat.le_refl _, by simp [maxLen]⟩, ?_⟩
    obtain ⟨rfl, -⟩ := Prod.mk.inj e2
    simp [Rows.uptoBulk, sumSt]
  · simp at e
    obtain ⟨rfl, rfl, rfl⟩ := e
    obtain ⟨rfl, rfl⟩ := Prod.mk.inj e2
    rw [cellsSt] at hel
    have hall : ∀ i, i < n0 → ∃ q : St, (∀ j, j < 2 → W.cell? ((ad.add (i * 2)).add j) = [Value.string q.key, Value.int .i64 q.at_][j]?) ∧ q.ok ∧ ∀ (hi : i < elems.length), 1 + q.key.size ≤ Rows.uptoBulk elems[i].1 := fun i hi => by
      have hi' : i < elems.length := by omega
      have h1 := hel i hi
      rw [List.getElem?_eq_getElem hi'] at h1
      obtain ⟨cs', h2, h3⟩ := Option.bind_eq_some_iff.1 h1
      obtain ⟨q, rfl, h4, h5⟩ := st_in h3
      obtain ⟨_, _, hc⟩ := World.cells?_some h2
      exact ⟨q, hc, h4, fun _ => h5⟩
    have : Inhabited St := ⟨⟨ByteArray.empty, 0⟩⟩
    obtain ⟨F, hF⟩ := choose_lt hall
    have hl2 : ((List.range n0).map F).length = n0 := by simp
    refine ⟨(List.range n0).map F, some ad, c0, by rw [hl2], ⟨⟨fun s hs => ?_, fun hne => ?_⟩, (fun h => by cases h), by rw [hl2]; exact hl, hm⟩, ?_⟩
    · obtain ⟨i, hi, rfl⟩ := List.mem_map.1 hs
      exact (hF i (List.mem_range.1 hi)).2.1
    · have h0 : 0 < n0 := by
        rcases Nat.eq_zero_or_pos n0 with h | h
        · subst h; simp at hne
        · exact h
      obtain ⟨b, off, spot⟩ := ad
      have hc0 := (hF 0 h0).1 0 (by omega)
      have hspot : spot = none := by
        have h1 : W.cell? ((Addr.add ⟨b, off, spot⟩ (0 * 2)).add 0) = some (.string (F 0).key) := by rw [hc0]; rfl
        simpa [Addr.add] using World.cell?_spot h1
      subst hspot
      refine ⟨b, off, rfl, fun j hj => ?_⟩
      have hj' : j < n0 := by rw [hl2] at hj; exact hj
      have hcell : ∀ i, i < 2 → W.cell? ⟨b, off + j * 2 + i, none⟩ = [Value.string (F j).key, Value.int .i64 (F j).at_][i]? := fun i hi => by
        have := (hF j hj').1 i hi
        rwa [Addr.add_lit, Addr.add_lit] at this
      have hget : ((List.range n0).map F)[j] = F j := by simp
      rw [hget]
      exact ⟨hcell 0 (by omega), hcell 1 (by omega)⟩
    · have h1 := sumSt_all ((List.range n0).map F) (elems.map (·.1)) (by rw [hl2]; simp [hlen]) (fun j hj hd => by
        have hj' : j < n0 := by rw [hl2] at hj; exact hj
        have := (hF j hj').2.2 (by omega)
        simpa using this)
      simp only [Rows.uptoBulk]
      omega
end
end Go.Proofs.Ytigdcnoggjcddaa

namespace Go.Proofs.Ytigdcnoggjcddaa
open Go.RowKit Go.Maps Go.WideMaps

set_option maxRecDepth 100000 in
theorem goTo_cl : ∀ {v : V} (_ : v.cl) (l : List St), (v.goTo l).1.cl
  | v, h, [] => h
  | v, h, s :: r => by
    unfold V.goTo
    split
    · exact goTo_cl (follow_cl h s) r
    · rename_i h0
      have h1 := follow_cl h s
      rw [follow_err h0] at h1
      exact h1
set_option maxRecDepth 100000 in
theorem withR_bulk {x : V} : ∀ (l : List St) {v : V}, v.cl → (v.withR x l).1.bulk ≤ v.bulk + x.bulk + sumSt l
  | [], v, _ => by show x.bulk ≤ _; omega
  | s :: r, v, h => by
    by_cases h0 : (v.withR x (s :: r)).2 = 0
    · obtain ⟨y, e, -, e1, e2⟩ := withR_cons h0
      rw [e, sumSt_cons]
      by_cases hr : r = []
      · subst hr
        obtain rfl := e1 rfl
        have := put_bulk v y s
        omega
      · obtain ⟨hf, hy⟩ := e2 hr
        have h1 := put_bulk2 h y s hf
        have h2 := withR_bulk r (v := (v.follow s).1) (x := x) (follow_cl h s)
        rw [hy] at h2
        have h3 : y.bulk ≤ (v.follow s).1.bulk + x.bulk + sumSt r := h2
        omega
    · rw [withR_null _ h0, bulk_null]
      have := v.bulk_pos
      omega
/-- Steps in a row of the call's own. -/
def stcells (l : List St) : List Value := (l.map (fun s => [Value.string s.key, Value.int .i64 s.at_])).flatten
set_option maxRecDepth 100000 in
theorem stcells_snoc (l : List St) (s : St) : stcells (l ++ [s]) = stcells l ++ [.string s.key, .int .i64 s.at_] := by simp [stcells]
set_option maxRecDepth 100000 in
theorem stcells_get : ∀ (l : List St) (j : Nat) (hj : j < l.length) (i : Nat), i < 2 → (stcells l)[j * 2 + i]? = [Value.string l[j].key, Value.int .i64 l[j].at_][i]?
  | [], j, hj, _, _ => by simp at hj
  | s :: l, 0, hj, i, hi => by
    have e : stcells (s :: l) = [.string s.key, .int .i64 s.at_] ++ stcells l := by simp [stcells]
    rw [e, Nat.zero_mul, Nat.zero_add, List.getElem?_append_left (by simpa using hi)]; rfl
  | s :: l, j + 1, hj, i, hi => by
    have e : stcells (s :: l) = [.string s.key, .int .i64 s.at_] ++ stcells l := by simp [stcells]
    rw [e, List.getElem?_append_right (by simp; omega)]
    have e2 : (j + 1) * 2 + i - [Value.string s.key, Value.int .i64 s.at_].length = j * 2 + i := by simp; omega
    rw [e2]
    exact stcells_get l j (by simpa using hj) i hi
def TOwn (W : World) (X : Nat) (sv : Value) (l : List St) : Prop := W.ownsRow X 43 2 sv l.length (stcells l) ∧ ∀ s ∈ l, s.ok
set_option maxRecDepth 100000 in
theorem TOwn.nil (W : World) (X : Nat) : TOwn W X (.slice none 0 0) [] := ⟨World.ownsRow_nil _ _ _ _, by simp⟩
set_option maxRecDepth 100000 in
theorem TOwn.below {W W' : World} {X : Nat} {sv : Value} {l : List St} (h : TOwn W X sv l) (hb : Below W.heap.size W W') : TOwn W' X sv l := ⟨own_below7 h.1 hb, h.2⟩
set_option maxRecDepth 100000 in
theorem TOwn.own {W : World} {X : Nat} {sv : Value} {l : List St} (h : TOwn W X sv l) : ∀ k, sv.ownBlock = some k → X ≤ k ∧ k < W.heap.size := fun k hk => h.1.lt k hk
set_option maxRecDepth 100000 in
theorem infoT : (Try.prog.info? 43).map (fun i => (i.zero, i.size, i.bytes)) = some (some (.agg #[.string ByteArray.empty, .int .i64 0]), 2, 24) := by kernel_rfl
set_option maxRecDepth 100000 in
theorem append_step {W : World} {X : Nat} {sv : Value} {l : List St} (h : TOwn W X sv l) {b : Nat} {s : St} {T : TypeId} {fr : Nat × Nat} (hs : s.ok) (hb : W.heap[b]? = some (.cells #[.string s.key, .int .i64 s.at_] T fr)) (hX : X ≤ W.heap.size) (hl : l.length ≤ 1048576) (ty : TypeId) :
    ∃ sv' W', (Builtin.append_ #[40, 40] ty #[sv, .slice (some ⟨b, 0, none⟩) 1 1]).run Try.prog W = .ok sv' W' ∧ TOwn W' X sv' (l ++ [s]) ∧ W.grownBy W' sv.ownBlock := by
  obtain ⟨i0, hi, hz0, hz1, hz2⟩ := info_parts7 infoT
  obtain ⟨v', w', h2, h3, h4, -⟩ := run_append_any W X 40 ty 43 i0 _ 2 24 Try.underlying40 hi hz0 hz1 hz2 rfl (by omega) sv l.length _ h.1 (some ⟨b, 0, none⟩) 1 1 [.string s.key, .int .i64 s.at_] rfl (by intro e; cases e) (fun ad e j u hu => by
    injection e with e
    subst e
    rw [Addr.add_lit]
    have hj : j < 2 := by have := (List.getElem?_eq_some_iff.1 hu).1; simpa using this
    have e3 : (⟨b, 0 + j, none⟩ : Addr) = ⟨b, j, none⟩ := by simp
    rw [e3, cell_of_row _ _ _ _ _ _ hb]
    match j, hj with
    | 0, _ => simpa using hu
    | 1, _ => simpa using hu) (by simp [Value.oneCell']) (by simp [maxLen]; omega) (by omega) hX
  refine ⟨v', w', h2, ⟨?_, fun t ht => ?_⟩, h4⟩
  · rw [stcells_snoc, List.length_append]
    exact h3
  · rcases List.mem_append.1 ht with ht | ht
    · exact h.2 t ht
    · simp at ht; subst ht; exact hs
set_option maxRecDepth 100000 in
theorem TOwn.row {W : World} {X : Nat} {sv : Value} {l : List St} (h : TOwn W X sv l) : ∃ a c, sv = .slice a l.length c ∧ StRow W a l ∧ SliceOk a l.length c := by
  rcases h.1.2 with ⟨hv, h0⟩ | ⟨g, cap, cur, hv, hg, hblk, hc, hm, hcur⟩
  · have hl : l = [] := List.eq_nil_of_length_eq_zero h0
    subst hl
    exact ⟨none, 0, hv, ⟨by simp, fun h => absurd rfl h⟩, ⟨fun _ => ⟨rfl, rfl⟩, Nat.le_refl _, by simp [maxLen]⟩⟩
  · refine ⟨some ⟨g, 0, none⟩, cap, hv, ⟨h.2, fun hz => ⟨g, 0, rfl, fun j hj => ?_⟩⟩, ⟨(fun h => by cases h), hc, hm⟩⟩
    have h5 := h.1.cells (g := g) (by rw [hv]; rfl)
    have h0 := h5 (j * 2 + 0) (.string l[j].key) (by rw [stcells_get l j hj 0 (by omega)]; rfl)
    have h1 := h5 (j * 2 + 1) (.int .i64 l[j].at_) (by rw [stcells_get l j hj 1 (by omega)]; rfl)
    rw [Addr.add_lit] at h0 h1
    exact ⟨by simpa using h0, by simpa [Nat.add_assoc] using h1⟩
end Go.Proofs.Ytigdcnoggjcddaa

