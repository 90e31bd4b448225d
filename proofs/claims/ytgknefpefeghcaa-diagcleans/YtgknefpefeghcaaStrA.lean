/- What a slice of texts that came in shows, as the contracts want it. No conditions. -/
import Derived.Test.YtgknefpefeghcaaMkE
import Derived.Test.YtgknefpefeghcaaFrame
import Derived.SliceStrings
import Derived.ChangeMaps5
namespace Go.Proofs.Ytgknefpefeghcaa
open Go.ChangeShapes Go.WideShapes Go.ChangeAt Go.RowKit

/-- A slice of texts that came in. -/
structure StrsArg (W : World) (a : Option Addr) (len cap : Nat) (l : List ByteArray) : Prop where
  hlen : l.length = len
  hin : StrsIn W a cap l
  hmax : ∀ s ∈ l, s.size ≤ maxLen
  hcap : cap ≤ maxLen
set_option maxRecDepth 100000 in
theorem strs_in {H : Type} {tok : TypeId × Value → H} {W : World} {a0 : Option Addr} {len0 cap0 : Nat} {base : Nat} {sp : Nat → Bool} {held : Bool} {fuel : Nat} {x : DataW H × List MemPlace}
    (hf : DataW.trod tok Try.prog W base sp held fuel 22 (Value.slice a0 len0 cap0).cells.toList = some x) : ∃ l, StrsArg W a0 len0 cap0 l := by
  rcases open_strings Try.underlying22 Try.underlying9 (by kernel_rfl) hf with ⟨hcs, _⟩ | ⟨a, len, cap, ss, hcs, _, hl, hm, hss, -, hcc, hmx⟩
  · simp [Value.cells] at hcs
    obtain ⟨rfl, rfl, rfl⟩ := hcs
    exact ⟨[], rfl, ⟨fun _ => ⟨rfl, rfl⟩, Nat.le_refl _, fun h => absurd rfl h⟩, (fun s hs => by cases hs), by simp [maxLen]⟩
  · simp [Value.cells] at hcs
    obtain ⟨rfl, rfl, rfl⟩ := hcs
    have hle : len0 ≤ ss.length := by rw [hss]; split <;> omega
    have hlen : (ss.take len0).length = len0 := by simp; omega
    refine ⟨ss.take len0, hlen, ⟨(fun h => by cases h), by rw [hlen]; exact hl, fun hne => ?_⟩, fun s hs => hmx s (List.mem_of_mem_take hs), hm⟩
    have h0 : 0 < len0 := by
      rcases Nat.eq_zero_or_pos len0 with h | h
      · subst h; simp at hne
      · exact h
    obtain ⟨b, off, spot⟩ := a
    have hc0 := hcc 0 (by omega)
    have hspot : spot = none := by simpa [Addr.add] using World.cell?_spot hc0
    subst hspot
    refine ⟨b, off, rfl, fun j hj => ?_⟩
    have := hcc j (by rw [hlen] at hj; omega)
    rw [Addr.add_lit] at this
    rw [this]
    have hj' : j < ss.length := by rw [hlen] at hj; omega
    simp [List.getD, hj']
end Go.Proofs.Ytgknefpefeghcaa
