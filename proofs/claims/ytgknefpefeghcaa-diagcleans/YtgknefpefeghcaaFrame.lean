/- What a slice of bytes that came in shows, as the contracts want it. No conditions. -/
import Derived.Test.YtgknefpefeghcaaRow
import Derived.ProofKit
import Derived.OpenShut
namespace Go.Proofs.Ytgknefpefeghcaa
open Go.ChangeShapes Go.WideShapes Go.ChangeAt Go.RowKit

set_option maxRecDepth 100000 in
theorem own_knob : ownKnob Try.prog.godebug = none := by kernel_rfl
set_option maxRecDepth 100000 in
theorem laid_out : laidOutB Try.prog = true := by kernel_rfl

/-- A slice of bytes that came in. -/
structure BytesIn (w : World) (a : Option Addr) (len cap : Nat) (zs : List Int) : Prop where
  hlen : zs.length = len
  hrow : Row w a zs
  hnil : a = none → zs.length = 0 ∧ cap = 0
  hcap : zs.length ≤ cap
  hmax : cap ≤ maxLen

set_option maxRecDepth 100000 in
theorem bytes_in {H : Type} {tok : TypeId × Value → H} {W : World} {a0 : Option Addr} {len0 cap0 : Nat} {base : Nat} {sp : Nat → Bool} {held : Bool} {fuel : Nat} {x : DataW H × List MemPlace}
    (hf : DataW.trod tok Try.prog W base sp held fuel 34 (Value.slice a0 len0 cap0).cells.toList = some x) : ∃ zs, BytesIn W a0 len0 cap0 zs := by
  rcases open_ints Try.underlying34 Try.underlying5 (by kernel_rfl) hf with ⟨hcs, _⟩ | ⟨ad, l, c, zs, hcs, _, hl, hm, hz, _, hcell, hwz⟩
  · simp [Value.cells] at hcs
    obtain ⟨rfl, rfl, rfl⟩ := hcs
    exact ⟨[], rfl, Row.nil _ _, fun _ => ⟨rfl, rfl⟩, Nat.le_refl _, by simp [maxLen]⟩
  · simp [Value.cells] at hcs
    obtain ⟨rfl, rfl, rfl⟩ := hcs
    have hzl : len0 ≤ zs.length := by rw [hz]; split <;> omega
    have hlen : (zs.take len0).length = len0 := by simp; omega
    refine ⟨zs.take len0, hlen, ⟨?_, ?_⟩, (fun h => by cases h), by rw [hlen]; exact hl, hm⟩
    · intro c hc
      have := bounds_u8 (hwz c (List.mem_of_mem_take hc))
      omega
    · intro hne
      have h0 : 0 < len0 := by
        rcases Nat.eq_zero_or_pos len0 with h | h
        · subst h; simp at hne
        · exact h
      obtain ⟨b, off, spot⟩ := ad
      have hc0 := hcell 0 (by omega)
      have hspot : spot = none := by simpa [Addr.add] using World.cell?_spot hc0
      subst hspot
      refine ⟨b, off, rfl, fun j hj => ?_⟩
      have := hcell j (by omega)
      rw [Addr.add_lit] at this
      rw [this]
      simp [show j < len0 by omega]
end Go.Proofs.Ytgknefpefeghcaa
