/- What a slice of fields that came in shows, as the contracts want it. No conditions. -/
import Derived.Test.YtjnipkeadlemiaaFrame
import Derived.Test.YtjnipkeadlemiaaFld
import Derived.Deep.Slices
namespace Go.Proofs.Ytjnipkeadlemiaa
open Go.ChangeShapes Go.WideShapes Go.ChangeAt Go.RowKit Go.Deep

/-- A slice of fields that came in. -/
structure FieldsIn (w : World) (a : Option Addr) (len cap : Nat) (fs : List Fld) : Prop where
  hlen : fs.length = len
  hrow : FRow w a fs
  hnil : a = none → fs.length = 0 ∧ cap = 0
  hcap : fs.length ≤ cap
  hmax : cap ≤ maxLen

section
variable {H : Type} {tok : TypeId × Value → H} {W : World} {base : Nat} {sp : Nat → Bool} {held : Bool}
set_option maxRecDepth 100000 in
theorem bytes_of_trod {fuel : Nat} {cs : List Value} {x : DataW H × List MemPlace} (hf : DataW.trod tok Try.prog W base sp held fuel 29 cs = some x) : ∃ a len cap zs, cs = [.slice a len cap] ∧ BytesIn W a len cap zs := by
  rcases open_ints Try.underlying29 Try.underlying5 (by kernel_rfl) hf with ⟨hcs, _⟩ | ⟨ad, l, c, zs, hcs, _⟩
  · subst hcs
    obtain ⟨zs, h⟩ := bytes_in (a0 := none) (len0 := 0) (cap0 := 0) (by simpa [Value.cells] using hf)
    exact ⟨_, _, _, zs, rfl, h⟩
  · subst hcs
    obtain ⟨zs, h⟩ := bytes_in (a0 := some ad) (len0 := l) (cap0 := c) (by simpa [Value.cells] using hf)
    exact ⟨_, _, _, zs, rfl, h⟩
set_option maxRecDepth 100000 in
theorem cellsF : Try.prog.cellsOf 35 = 4 := by kernel_rfl
set_option maxRecDepth 100000 in
theorem field_of_trod {fuel : Nat} {cs : List Value} {x : DataW H × List MemPlace} (hf : DataW.trod tok Try.prog W base sp held fuel 35 cs = some x) :
    ∃ (f : Fld) (a : Option Addr) (c : Nat), cs = [.int .i64 f.tag, .bool f.isB, .int .u64 f.n, .slice a f.b.length c] ∧ f.ok ∧ f.shown W a c := by
  obtain ⟨xs, n, _, _, hl, hlen, hfd⟩ := DataW.trod_struct Try.underlying35 hf
  rw [cellsF] at hl
  obtain ⟨c0, c1, c2, c3, rfl⟩ : ∃ c0 c1 c2 c3, cs = [c0, c1, c2, c3] := by
    match cs, hl with
    | [c0, c1, c2, c3], _ => exact ⟨c0, c1, c2, c3, rfl⟩
  obtain ⟨y0, y1, y2, y3, rfl⟩ : ∃ y0 y1 y2 y3, xs = [y0, y1, y2, y3] := by
    match xs, hlen with
    | [y0, y1, y2, y3], _ => exact ⟨y0, y1, y2, y3, rfl⟩
  have k0 : Try.prog.cellsOf 3 = 1 := by kernel_rfl
  have k1 : Try.prog.cellsOf 4 = 1 := by kernel_rfl
  have k2 : Try.prog.cellsOf 26 = 1 := by kernel_rfl
  have k3 : Try.prog.cellsOf 29 = 1 := by kernel_rfl
  have h0 := hfd 0 _ rfl
  have h1 := hfd 1 _ rfl
  have h2 := hfd 2 _ rfl
  have h3 := hfd 3 _ rfl
  simp [k0, k1, k2, k3] at h0 h1 h2 h3
  obtain ⟨tag, e0, -, w0⟩ := DataW.trod_int Try.underlying3 h0
  obtain ⟨b, e1, -⟩ := DataW.trod_bool Try.underlying4 h1
  obtain ⟨m, e2, -, w2⟩ := DataW.trod_int Try.underlying26 h2
  obtain ⟨a, len, cap, zs, e3, hb⟩ := bytes_of_trod h3
  simp at e0 e1 e2 e3
  subst e0 e1 e2 e3
  have b0 := bounds_i64 w0
  have b2 := bounds_u64 w2
  obtain ⟨rfl, hr, hn, hc, hm⟩ := hb
  exact ⟨⟨tag, b, m, zs⟩, a, cap, rfl, ⟨⟨by simp only; omega, by simp only; omega⟩, by simp only; omega, by simp only; omega⟩, hr, hn, hc, hm⟩

set_option maxRecDepth 100000 in
theorem fields_in {a0 : Option Addr} {len0 cap0 : Nat} {fuel : Nat} {x : DataW H × List MemPlace}
    (hf : DataW.trod tok Try.prog W base sp held fuel 22 (Value.slice a0 len0 cap0).cells.toList = some x) : ∃ fs, FieldsIn W a0 len0 cap0 fs := by
  rcases open_slice Try.underlying22 hf with ⟨hcs, _⟩ | ⟨ad, l, c, m, n, D, Pl, hcs, _, hl, hm, hmm, _, hx⟩
  · simp [Value.cells] at hcs
    obtain ⟨rfl, rfl, rfl⟩ := hcs
    exact ⟨[], rfl, FRow.nil _ _, fun _ => ⟨rfl, rfl⟩, Nat.le_refl _, by simp [maxLen]⟩
  · simp [Value.cells] at hcs
    obtain ⟨rfl, rfl, rfl⟩ := hcs
    have hml : len0 ≤ m := by rw [hmm]; split <;> omega
    rw [cellsF] at hx
    have hall : ∀ i, i < len0 → ∃ p : Fld × Option Addr × Nat, (∀ j, j < 4 → W.cell? ((ad.add (i * 4)).add j) = [Value.int .i64 p.1.tag, .bool p.1.isB, .int .u64 p.1.n, .slice p.2.1 p.1.b.length p.2.2][j]?) ∧ p.1.ok ∧ p.1.shown W p.2.1 p.2.2 := fun i hi => by
      obtain ⟨cs', h1, h2⟩ := hx i (by omega)
      obtain ⟨f, a, c, rfl, hok, hsh⟩ := field_of_trod h2
      obtain ⟨_, _, hc⟩ := World.cells?_some h1
      exact ⟨(f, a, c), hc, hok, hsh⟩
    have : Inhabited (Fld × Option Addr × Nat) := ⟨(⟨0, false, 0, []⟩, none, 0)⟩
    obtain ⟨F, hF⟩ := choose_lt hall
    have hlen : ((List.range len0).map (fun i => (F i).1)).length = len0 := by simp
    refine ⟨(List.range len0).map (fun i => (F i).1), hlen, ⟨?_, ?_⟩, (fun h => by cases h), by rw [hlen]; exact hl, hm⟩
    · intro f hf
      obtain ⟨i, hi, rfl⟩ := List.mem_map.1 hf
      exact (hF i (List.mem_range.1 hi)).2.1
    · intro hne
      have h0 : 0 < len0 := by
        rcases Nat.eq_zero_or_pos len0 with h | h
        · subst h; simp at hne
        · exact h
      obtain ⟨b, off, spot⟩ := ad
      have hc0 := (hF 0 h0).1 0 (by omega)
      have hspot : spot = none := by simpa [Addr.add] using World.cell?_spot hc0
      subst hspot
      refine ⟨b, off, rfl, fun j hj => ?_⟩
      have hj' : j < len0 := by rw [hlen] at hj; exact hj
      obtain ⟨hc, _, hsh⟩ := hF j hj'
      have hcell : ∀ i, i < 4 → W.cell? ⟨b, off + j * 4 + i, none⟩ = [Value.int .i64 (F j).1.tag, .bool (F j).1.isB, .int .u64 (F j).1.n, .slice (F j).2.1 (F j).1.b.length (F j).2.2][i]? := fun i hi => by
        have := hc i hi
        rwa [Addr.add_lit, Addr.add_lit] at this
      have hget : ((List.range len0).map (fun i => (F i).1))[j] = (F j).1 := by simp
      rw [hget]
      exact ⟨(F j).2.1, (F j).2.2, hcell 0 (by omega), hcell 1 (by omega), hcell 2 (by omega), hcell 3 (by omega), hsh⟩
end
end Go.Proofs.Ytjnipkeadlemiaa
