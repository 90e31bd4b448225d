/- What a slice of ints that came in shows, as the contracts want it. No conditions. -/
import Derived.Test.YtjnipkeadlemiaaFrame
import Derived.Test.YtjnipkeadlemiaaFindC
namespace Go.Proofs.Ytjnipkeadlemiaa
open Go.ChangeShapes Go.WideShapes Go.ChangeAt Go.RowKit

/-- A slice of ints that came in. -/
structure IntsIn (w : World) (a : Option Addr) (len cap : Nat) (zs : List Int) : Prop where
  hlen : zs.length = len
  hrow : IRow w a zs
  hcap : zs.length ≤ cap
  hmax : cap ≤ maxLen

set_option maxRecDepth 100000 in
theorem ints_in {H : Type} {tok : TypeId × Value → H} {W : World} {a0 : Option Addr} {len0 cap0 : Nat} {base : Nat} {sp : Nat → Bool} {held : Bool} {fuel : Nat} {x : DataW H × List MemPlace}
    (hf : DataW.trod tok Try.prog W base sp held fuel 23 (Value.slice a0 len0 cap0).cells.toList = some x) : ∃ zs, IntsIn W a0 len0 cap0 zs := by
  rcases open_ints Try.underlying23 Try.underlying3 (by kernel_rfl) hf with ⟨hcs, _⟩ | ⟨ad, l, c, zs, hcs, _, hl, hm, hz, _, hcell, hwz⟩
  · simp [Value.cells] at hcs
    obtain ⟨rfl, rfl, rfl⟩ := hcs
    exact ⟨[], rfl, fun h => absurd rfl h, Nat.le_refl _, by simp [maxLen]⟩
  · simp [Value.cells] at hcs
    obtain ⟨rfl, rfl, rfl⟩ := hcs
    have hzl : len0 ≤ zs.length := by rw [hz]; split <;> omega
    have hlen : (zs.take len0).length = len0 := by simp; omega
    refine ⟨zs.take len0, hlen, ?_, by rw [hlen]; exact hl, hm⟩
    intro hne
    have h0 : 0 < len0 := by
      rcases Nat.eq_zero_or_pos len0 with h | h
      · subst h; simp at hne
      · exact h
    obtain ⟨b, off, spot⟩ := ad
    have hc0 := hcell 0 (by omega)
    have hspot : spot = none := by simpa [Addr.add] using World.cell?_spot hc0
    subst hspot
    refine ⟨b, off, rfl, fun j hj => ?_⟩
    have := hcell j (by omega)
    rw [Addr.add_lit] at this
    have hjl : j < len0 := by omega
    rw [this, List.getElem_take]
    simp [List.getElem?_eq_getElem (show j < zs.length by omega)]
end Go.Proofs.Ytjnipkeadlemiaa
