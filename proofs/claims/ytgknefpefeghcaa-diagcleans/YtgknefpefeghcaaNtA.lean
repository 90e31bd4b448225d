/- What a slice of notes that came in shows, as the contracts want it. No conditions. -/
import Derived.Test.YtgknefpefeghcaaStrA
import Derived.ProofKit
import Derived.OpenShut
import Derived.Deep.Slices
namespace Go.Proofs.Ytgknefpefeghcaa
open Go.ChangeShapes Go.WideShapes Go.ChangeAt Go.RowKit Go.Deep

/-- A slice of notes that came in: is it an error, its text. -/
structure NotesIn (W : World) (a : Option Addr) (cap : Nat) (l : List (Bool × ByteArray)) : Prop where
  hnil : a = none → l.length = 0 ∧ cap = 0
  hcap : l.length ≤ cap
  hrow : l ≠ [] → ∃ b off, a = some ⟨b, off, none⟩ ∧ ∀ (j : Nat) (hj : j < l.length), W.cell? ⟨b, off + j * 2, none⟩ = some (.bool l[j].1) ∧ W.cell? ⟨b, off + j * 2 + 1, none⟩ = some (.string l[j].2)
set_option maxRecDepth 100000 in
theorem NotesIn.below {W W' : World} {a : Option Addr} {cap : Nat} {l : List (Bool × ByteArray)} (h : NotesIn W a cap l) (hb : Below W.heap.size W W') : NotesIn W' a cap l := by
  refine ⟨h.hnil, h.hcap, fun hne => ?_⟩
  obtain ⟨b, off, rfl, hc⟩ := h.hrow hne
  exact ⟨b, off, rfl, fun j hj => ⟨(hb.cell (p := ⟨b, off + j * 2, none⟩) (World.block_lt_of_cell? _ _ (hc j hj).1)).trans (hc j hj).1, (hb.cell (p := ⟨b, off + j * 2 + 1, none⟩) (World.block_lt_of_cell? _ _ (hc j hj).2)).trans (hc j hj).2⟩⟩
structure NotesArg (W : World) (a : Option Addr) (len cap : Nat) (l : List (Bool × ByteArray)) : Prop where
  hlen : l.length = len
  hin : NotesIn W a cap l
  hmax : cap ≤ maxLen
section
variable {H : Type} {tok : TypeId × Value → H} {W : World} {base : Nat} {sp : Nat → Bool} {held : Bool}
set_option maxRecDepth 100000 in
theorem cellsNt : Try.prog.cellsOf 31 = 2 := by kernel_rfl
set_option maxRecDepth 100000 in
theorem note_of_trod {fuel : Nat} {cs : List Value} {x : DataW H × List MemPlace} (hf : DataW.trod tok Try.prog W base sp held fuel 31 cs = some x) : ∃ q : Bool × ByteArray, cs = [.bool q.1, .string q.2] := by
  obtain ⟨xs, n, rfl, rfl, hl, hlen, hfd⟩ := DataW.trod_struct Try.underlying31 hf
  rw [cellsNt] at hl
  obtain ⟨c0, c1, rfl⟩ : ∃ c0 c1, cs = [c0, c1] := by
    match cs, hl with
    | [c0, c1], _ => exact ⟨c0, c1, rfl⟩
  obtain ⟨y0, y1, rfl⟩ : ∃ y0 y1, xs = [y0, y1] := by
    match xs, hlen with
    | [y0, y1], _ => exact ⟨y0, y1, rfl⟩
  have k0 : Try.prog.cellsOf 4 = 1 := by kernel_rfl
  have k1 : Try.prog.cellsOf 9 = 1 := by kernel_rfl
  have h0 := hfd 0 _ rfl
  have h1 := hfd 1 _ rfl
  simp [k0, k1] at h0 h1
  obtain ⟨K, e0, f0⟩ := DataW.trod_bool Try.underlying4 h0
  obtain ⟨S, e1, f1, w1⟩ := DataW.trod_string Try.underlying9 h1
  simp at e0 e1
  subst e0 e1
  exact ⟨(K, S), rfl⟩
set_option maxRecDepth 100000 in
theorem notes_in {a0 : Option Addr} {len0 cap0 : Nat} {fuel : Nat} {x : DataW H × List MemPlace}
    (hf : DataW.trod tok Try.prog W base sp held fuel 28 (Value.slice a0 len0 cap0).cells.toList = some x) : ∃ l, NotesArg W a0 len0 cap0 l := by
  rcases open_slice Try.underlying28 hf with ⟨hcs, _⟩ | ⟨ad, l, c, m, n, D, Pl, hcs, _, hl, hm, hmm, _, hx⟩
  · simp [Value.cells] at hcs
    obtain ⟨rfl, rfl, rfl⟩ := hcs
    exact ⟨[], rfl, ⟨fun _ => ⟨rfl, rfl⟩, Nat.le_refl _, fun h => absurd rfl h⟩, by simp [maxLen]⟩
  · simp [Value.cells] at hcs
    obtain ⟨rfl, rfl, rfl⟩ := hcs
    have hml : len0 ≤ m := by rw [hmm]; split <;> omega
    rw [cellsNt] at hx
    have hall : ∀ i, i < len0 → ∃ q : Bool × ByteArray, ∀ j, j < 2 → W.cell? ((ad.add (i * 2)).add j) = [Value.bool q.1, .string q.2][j]? := fun i hi => by
      obtain ⟨cs', h1, h2⟩ := hx i (by omega)
      obtain ⟨q, rfl⟩ := note_of_trod h2
      obtain ⟨_, _, hc⟩ := World.cells?_some h1
      exact ⟨q, hc⟩
    have : Inhabited (Bool × ByteArray) := ⟨(false, ByteArray.empty)⟩
    obtain ⟨F, hF⟩ := choose_lt hall
    have hlen : ((List.range len0).map F).length = len0 := by simp
    refine ⟨(List.range len0).map F, hlen, ⟨(fun h => by cases h), by rw [hlen]; exact hl, fun hne => ?_⟩, hm⟩
    have h0 : 0 < len0 := by
      rcases Nat.eq_zero_or_pos len0 with h | h
      · subst h; simp at hne
      · exact h
    obtain ⟨b, off, spot⟩ := ad
    have hc0 := hF 0 h0 0 (by omega)
    have hspot : spot = none := by simpa [Addr.add] using World.cell?_spot hc0
    subst hspot
    refine ⟨b, off, rfl, fun j hj => ?_⟩
    have hj' : j < len0 := by rw [hlen] at hj; exact hj
    have hc := hF j hj'
    have hcell : ∀ i, i < 2 → W.cell? ⟨b, off + j * 2 + i, none⟩ = [Value.bool (F j).1, .string (F j).2][i]? := fun i hi => by
      have := hc i hi
      rwa [Addr.add_lit, Addr.add_lit] at this
    have hget : ((List.range len0).map F)[j] = F j := by simp
    rw [hget]
    exact ⟨hcell 0 (by omega), hcell 1 (by omega)⟩
end
end Go.Proofs.Ytgknefpefeghcaa
