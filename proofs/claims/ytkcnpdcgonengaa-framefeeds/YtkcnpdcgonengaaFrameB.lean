/- What a slice of slices of bytes that came in shows, as the contracts want it. No conditions. -/
import Derived.Test.YtkcnpdcgonengaaFrame
import Derived.Test.YtkcnpdcgonengaaFrA
import Derived.Deep.Slices
namespace Go.Proofs.Ytkcnpdcgonengaa
open Go.ChangeShapes Go.WideShapes Go.ChangeAt Go.RowKit Go.Deep

/-- In the world w the cells from address a on hold slices that show bs. -/
def BsRow (w : World) (a : Option Addr) (bs : List (List Int)) : Prop := bs ≠ [] → ∃ b off, a = some ⟨b, off, none⟩ ∧ ∀ j (hj : j < bs.length), ∃ x c, w.cell? ⟨b, off + j, none⟩ = some (.slice x bs[j].length c) ∧ Shown w x bs[j] c
set_option maxRecDepth 100000 in
theorem BsRow.below {w w' : World} {a : Option Addr} {bs : List (List Int)} (h : BsRow w a bs) (hb : Below w.heap.size w w') : BsRow w' a bs := fun hz => by
  obtain ⟨b, off, rfl, hc⟩ := h hz
  refine ⟨b, off, rfl, fun j hj => ?_⟩
  obtain ⟨x, c, h1, h2⟩ := hc j hj
  exact ⟨x, c, (hb.cell (p := ⟨b, off + j, none⟩) (World.block_lt_of_cell? w ⟨b, off + j, none⟩ h1)).trans h1, h2.below hb⟩
/-- A slice of slices of bytes that came in. -/
structure BytessIn (w : World) (a : Option Addr) (len cap : Nat) (bs : List (List Int)) : Prop where
  hlen : bs.length = len
  hrow : BsRow w a bs
  hcap : bs.length ≤ cap
  hmax : cap ≤ maxLen

set_option maxRecDepth 100000 in
theorem cellsB : Try.prog.cellsOf 29 = 1 := by kernel_rfl
set_option maxRecDepth 100000 in
theorem bytess_in {H : Type} {tok : TypeId × Value → H} {W : World} {a0 : Option Addr} {len0 cap0 : Nat} {base : Nat} {sp : Nat → Bool} {held : Bool} {fuel : Nat} {x : DataW H × List MemPlace}
    (hf : DataW.trod tok Try.prog W base sp held fuel 32 (Value.slice a0 len0 cap0).cells.toList = some x) : ∃ bs, BytessIn W a0 len0 cap0 bs := by
  rcases open_slice Try.underlying32 hf with ⟨hcs, _⟩ | ⟨ad, l, c, m, n, D, Pl, hcs, _, hl, hm, hmm, _, hx⟩
  · simp [Value.cells] at hcs
    obtain ⟨rfl, rfl, rfl⟩ := hcs
    exact ⟨[], rfl, fun h => absurd rfl h, Nat.le_refl _, by simp [maxLen]⟩
  · simp [Value.cells] at hcs
    obtain ⟨rfl, rfl, rfl⟩ := hcs
    have hml : len0 ≤ m := by rw [hmm]; split <;> omega
    rw [cellsB] at hx
    have hall : ∀ i, i < len0 → ∃ p : List Int × Option Addr × Nat, W.cell? (ad.add i) = some (.slice p.2.1 p.1.length p.2.2) ∧ Shown W p.2.1 p.1 p.2.2 := fun i hi => by
      obtain ⟨cs', h1, h2⟩ := hx i (by omega)
      rcases open_ints Try.underlying29 Try.underlying5 (by kernel_rfl) h2 with ⟨hcs, _⟩ | ⟨ad', l, c, zs, hcs, _⟩
      · subst hcs
        obtain ⟨_, _, hc⟩ := World.cells?_some h1
        have h0 := hc 0 (by omega)
        refine ⟨([], none, 0), ?_, Shown.nil _⟩
        have e : (ad.add (i * 1)).add 0 = ad.add i := by unfold Addr.add; split <;> simp_all
        rw [e] at h0; exact h0
      · subst hcs
        obtain ⟨zs', hb⟩ := bytes_in (a0 := some ad') (len0 := l) (cap0 := c) (by simpa [Value.cells] using h2)
        obtain ⟨_, _, hc⟩ := World.cells?_some h1
        have h0 := hc 0 (by omega)
        refine ⟨(zs', some ad', c), ?_, ⟨hb.hrow, hb.hnil, hb.hcap, hb.hmax⟩⟩
        have e : (ad.add (i * 1)).add 0 = ad.add i := by unfold Addr.add; split <;> simp_all
        rw [e] at h0
        rw [h0, hb.hlen]; rfl
    have : Inhabited (List Int × Option Addr × Nat) := ⟨([], none, 0)⟩
    obtain ⟨F, hF⟩ := choose_lt hall
    have hlen : ((List.range len0).map (fun i => (F i).1)).length = len0 := by simp
    refine ⟨(List.range len0).map (fun i => (F i).1), hlen, ?_, by rw [hlen]; exact hl, hm⟩
    intro hne
    have h0 : 0 < len0 := by
      rcases Nat.eq_zero_or_pos len0 with h | h
      · subst h; simp at hne
      · exact h
    obtain ⟨b, off, spot⟩ := ad
    have hc0 := (hF 0 h0).1
    have hspot : spot = none := by simpa [Addr.add] using World.cell?_spot hc0
    subst hspot
    refine ⟨b, off, rfl, fun j hj => ?_⟩
    have hj' : j < len0 := by rw [hlen] at hj; exact hj
    obtain ⟨hc, hsh⟩ := hF j hj'
    have hget : ((List.range len0).map (fun i => (F i).1))[j] = (F j).1 := by simp
    rw [hget]
    rw [Addr.add_lit] at hc
    exact ⟨(F j).2.1, (F j).2.2, hc, hsh⟩
end Go.Proofs.Ytkcnpdcgonengaa
