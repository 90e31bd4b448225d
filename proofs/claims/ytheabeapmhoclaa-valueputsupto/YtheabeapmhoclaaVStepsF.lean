/- What a slice of steps that came in shows, as the contracts want it; how many letters it has. No conditions. -/
import Derived.Test.YtheabeapmhoclaaVPutsP
import Derived.Test.YtheabeapmhoclaaVFrame
namespace Go.Proofs.Ytheabeapmhoclaa
open Go.ChangeShapes Go.WideShapes Go.ChangeAt Go.RowKit Go.Deep
section
variable {H : Type} {tok : TypeId × Value → H} {W : World} {base : Nat} {sp : Nat → Bool} {held : Bool}
set_option maxRecDepth 100000 in
theorem cellsSt : Try.prog.cellsOf 42 = 2 := by kernel_rfl
set_option maxRecDepth 100000 in
theorem st_in {fuel : Nat} {cs : List Value} {x : DataW H × List MemPlace} (hf : DataW.trod tok Try.prog W base sp held fuel 42 cs = some x) : ∃ s : St, cs = [.string s.key, .int .i64 s.at_] ∧ s.ok ∧ 1 + s.key.size ≤ Rows.uptoBulk x.1 := by
  obtain ⟨xs, n, rfl, rfl, hl, hlen, hfd⟩ := DataW.trod_struct Try.underlying42 hf
  rw [cellsSt] at hl
  obtain ⟨c0, c1, rfl⟩ : ∃ c0 c1, cs = [c0, c1] := by
    match cs, hl with
    | [c0, c1], _ => exact ⟨c0, c1, rfl⟩
  obtain ⟨y0, y1, rfl⟩ : ∃ y0 y1, xs = [y0, y1] := by
    match xs, hlen with
    | [y0, y1], _ => exact ⟨y0, y1, rfl⟩
  have k0 : Try.prog.cellsOf 3 = 1 := by kernel_rfl
  have k2 : Try.prog.cellsOf 9 = 1 := by kernel_rfl
  have h0 := hfd 0 _ rfl
  have h1 := hfd 1 _ rfl
  simp [k0, k2] at h0 h1
  obtain ⟨S, e0, f0, w0⟩ := DataW.trod_string Try.underlying9 h0
  obtain ⟨K, e1, f1, w1⟩ := DataW.trod_int Try.underlying3 h1
  simp at e0 e1
  subst e0 e1
  subst f0 f1
  refine ⟨⟨S, K⟩, rfl, ⟨w0, i64_wf w1⟩, ?_⟩
  simp only [List.map_cons, List.map_nil, Rows.uptoBulk, Rows.uptoBulkAll]
  simp
  omega
set_option maxRecDepth 100000 in
theorem sumSt_all : ∀ (l : List St) (ds : List (DataW H)), l.length = ds.length → (∀ j (hj : j < l.length) (hd : j < ds.length), 1 + l[j].key.size ≤ Rows.uptoBulk ds[j]) → sumSt l ≤ Rows.uptoBulkAll ds
  | [], [], _, _ => by simp [sumSt]
  | s :: r, d :: e, hl, h => by
    have h0 := h 0 (by simp) (by simp)
    have h1 := sumSt_all r e (by simpa using hl) (fun j hj hd => h (j + 1) (Nat.succ_lt_succ hj) (Nat.succ_lt_succ hd))
    simp only [List.getElem_cons_zero] at h0
    rw [sumSt_cons]
    simp only [Rows.uptoBulkAll]; omega
set_option maxRecDepth 100000 in
theorem steps_arg {r : Reach} {b0 : Nat} {v0 : Value} {d : DataW H} {ps : List MemPlace} (hval : Value.okWide Try.prog W r b0 39 v0) (h : DataW.Trod tok Try.prog W base sp held 39 v0 d ps) :
    ∃ (l : List St) (a : Option Addr) (c : Nat), v0 = .slice a l.length c ∧ (StRow W a l ∧ SliceOk a l.length c) ∧ sumSt l + 1 ≤ Rows.uptoBulk d := by
  obtain ⟨a0, n0, c0, rfl⟩ := okWide_slice Try.underlying39 hval
  obtain ⟨fuel, hf⟩ := h
  simp only [Value.cells] at hf
  rcases DataW.trod_slice Try.underlying39 hf with ⟨e, e2⟩ | ⟨ad, len, cap, elems, rest, n, rfl, e, e2, _, hl, hm, hlen, hel, -, -⟩
  · simp at e
    obtain ⟨rfl, rfl, rfl⟩ := e
    refine ⟨[], none, 0, rfl, ⟨⟨(fun s hs => by cases hs), fun h => absurd rfl h⟩, fun _ => ⟨rfl, rfl⟩, Nat.le_refl _, by simp [maxLen]⟩, ?_⟩
    obtain ⟨rfl, -⟩ := Prod.mk.inj e2
    simp [Rows.uptoBulk, sumSt]
  · simp at e
    obtain ⟨rfl, rfl, rfl⟩ := e
    obtain ⟨rfl, rfl⟩ := Prod.mk.inj e2
    rw [cellsSt] at hel
    have hall : ∀ i, i < n0 → ∃ q : St, (∀ j, j < 2 → W.cell? ((ad.add (i * 2)).add j) = [Value.string q.key, Value.int .i64 q.at_][j]?) ∧ q.ok ∧ ∀ (hi : i < elems.length), 1 + q.key.size ≤ Rows.uptoBulk elems[i].1 := fun i hi => by
      have hi' : i < elems.length := by omega
      have h1 := hel i hi
      rw [List.getElem?_eq_getElem hi'] at h1
      obtain ⟨cs', h2, h3⟩ := Option.bind_eq_some_iff.1 h1
      obtain ⟨q, rfl, h4, h5⟩ := st_in h3
      obtain ⟨_, _, hc⟩ := World.cells?_some h2
      exact ⟨q, hc, h4, fun _ => h5⟩
    have : Inhabited St := ⟨⟨ByteArray.empty, 0⟩⟩
    obtain ⟨F, hF⟩ := choose_lt hall
    have hl2 : ((List.range n0).map F).length = n0 := by simp
    refine ⟨(List.range n0).map F, some ad, c0, by rw [hl2], ⟨⟨fun s hs => ?_, fun hne => ?_⟩, (fun h => by cases h), by rw [hl2]; exact hl, hm⟩, ?_⟩
    · obtain ⟨i, hi, rfl⟩ := List.mem_map.1 hs
      exact (hF i (List.mem_range.1 hi)).2.1
    · have h0 : 0 < n0 := by
        rcases Nat.eq_zero_or_pos n0 with h | h
        · subst h; simp at hne
        · exact h
      obtain ⟨b, off, spot⟩ := ad
      have hc0 := (hF 0 h0).1 0 (by omega)
      have hspot : spot = none := by
        have h1 : W.cell? ((Addr.add ⟨b, off, spot⟩ (0 * 2)).add 0) = some (.string (F 0).key) := by rw [hc0]; rfl
        simpa [Addr.add] using World.cell?_spot h1
      subst hspot
      refine ⟨b, off, rfl, fun j hj => ?_⟩
      have hj' : j < n0 := by rw [hl2] at hj; exact hj
      have hcell : ∀ i, i < 2 → W.cell? ⟨b, off + j * 2 + i, none⟩ = [Value.string (F j).key, Value.int .i64 (F j).at_][i]? := fun i hi => by
        have := (hF j hj').1 i hi
        rwa [Addr.add_lit, Addr.add_lit] at this
      have hget : ((List.range n0).map F)[j] = F j := by simp
      rw [hget]
      exact ⟨hcell 0 (by omega), hcell 1 (by omega)⟩
    · have h1 := sumSt_all ((List.range n0).map F) (elems.map (·.1)) (by rw [hl2]; simp [hlen]) (fun j hj hd => by
        have hj' : j < n0 := by rw [hl2] at hj; exact hj
        have := (hF j hj').2.2 (by omega)
        simpa using this)
      simp only [Rows.uptoBulk]
      omega
end
end Go.Proofs.Ytheabeapmhoclaa
