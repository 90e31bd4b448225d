/- What a slice of acts that came in shows, as the contracts want it; the law's list in plain mathematics. No conditions. -/
import Derived.Test.YtjgonfaniincbaaCkA
import Derived.ProofKit
import Derived.OpenShut
import Derived.Deep.Slices
namespace Go.Proofs.Ytjgonfaniincbaa
open Go.ChangeShapes Go.WideShapes Go.ChangeAt Go.RowKit Go.Deep

/-- An act: its kind, a name, a number. -/
structure Ac where
  k : Int
  s : ByteArray
  n : Int
def Ac.ok (x : Ac) : Prop := 0 ≤ x.k ∧ x.k ≤ 255 ∧ x.s.size ≤ maxLen ∧ I64 x.n
def AcRow (W : World) (a : Option Addr) (l : List Ac) : Prop := (∀ x ∈ l, x.ok) ∧ (l ≠ [] → ∃ b off, a = some ⟨b, off, none⟩ ∧ ∀ (j : Nat) (hj : j < l.length), W.cell? ⟨b, off + j * 3, none⟩ = some (.int .u8 l[j].k) ∧ W.cell? ⟨b, off + j * 3 + 1, none⟩ = some (.string l[j].s) ∧ W.cell? ⟨b, off + j * 3 + 2, none⟩ = some (.int .i64 l[j].n))
structure ActsIn (W : World) (a : Option Addr) (len cap : Nat) (l : List Ac) : Prop where
  hlen : l.length = len
  hrow : AcRow W a l
  hnil : a = none → l.length = 0 ∧ cap = 0
  hcap : l.length ≤ cap
  hmax : cap ≤ maxLen
section
variable {H : Type} {tok : TypeId × Value → H} {W : World} {base : Nat} {sp : Nat → Bool} {held : Bool}
set_option maxRecDepth 100000 in
theorem cellsAc : Try.prog.cellsOf 28 = 3 := by kernel_rfl
set_option maxRecDepth 100000 in
theorem act_of_trod {fuel : Nat} {cs : List Value} {x : DataW H × List MemPlace} (hf : DataW.trod tok Try.prog W base sp held fuel 28 cs = some x) : ∃ q : Ac, cs = [.int .u8 q.k, .string q.s, .int .i64 q.n] ∧ q.ok := by
  obtain ⟨xs, n, rfl, rfl, hl, hlen, hfd⟩ := DataW.trod_struct Try.underlying28 hf
  rw [cellsAc] at hl
  obtain ⟨c0, c1, c2, rfl⟩ : ∃ c0 c1 c2, cs = [c0, c1, c2] := by
    match cs, hl with
    | [c0, c1, c2], _ => exact ⟨c0, c1, c2, rfl⟩
  obtain ⟨y0, y1, y2, rfl⟩ : ∃ y0 y1 y2, xs = [y0, y1, y2] := by
    match xs, hlen with
    | [y0, y1, y2], _ => exact ⟨y0, y1, y2, rfl⟩
  have k0 : Try.prog.cellsOf 5 = 1 := by kernel_rfl
  have k1 : Try.prog.cellsOf 9 = 1 := by kernel_rfl
  have k2 : Try.prog.cellsOf 3 = 1 := by kernel_rfl
  have h0 := hfd 0 _ rfl
  have h1 := hfd 1 _ rfl
  have h2 := hfd 2 _ rfl
  simp [k0, k1, k2] at h0 h1 h2
  obtain ⟨K, e0, f0, w0⟩ := DataW.trod_int Try.underlying5 h0
  obtain ⟨S, e1, f1, w1⟩ := DataW.trod_string Try.underlying9 h1
  obtain ⟨N, e2, f2, w2⟩ := DataW.trod_int Try.underlying3 h2
  simp at e0 e1 e2
  subst e0 e1 e2
  exact ⟨⟨K, S, N⟩, rfl, (u8_of_wf w0).1, (u8_of_wf w0).2, w1, i64_of_wf w2⟩
set_option maxRecDepth 100000 in
theorem acts_in {a0 : Option Addr} {len0 cap0 : Nat} {fuel : Nat} {x : DataW H × List MemPlace}
    (hf : DataW.trod tok Try.prog W base sp held fuel 22 (Value.slice a0 len0 cap0).cells.toList = some x) : ∃ l, ActsIn W a0 len0 cap0 l := by
  rcases open_slice Try.underlying22 hf with ⟨hcs, _⟩ | ⟨ad, l, c, m, n, D, Pl, hcs, _, hl, hm, hmm, _, hx⟩
  · simp [Value.cells] at hcs
    obtain ⟨rfl, rfl, rfl⟩ := hcs
    exact ⟨[], rfl, ⟨(fun x hx => by cases hx), fun h => absurd rfl h⟩, fun _ => ⟨rfl, rfl⟩, Nat.le_refl _, by simp [maxLen]⟩
  · simp [Value.cells] at hcs
    obtain ⟨rfl, rfl, rfl⟩ := hcs
    have hml : len0 ≤ m := by rw [hmm]; split <;> omega
    rw [cellsAc] at hx
    have hall : ∀ i, i < len0 → ∃ q : Ac, (∀ j, j < 3 → W.cell? ((ad.add (i * 3)).add j) = [Value.int .u8 q.k, .string q.s, .int .i64 q.n][j]?) ∧ q.ok := fun i hi => by
      obtain ⟨cs', h1, h2⟩ := hx i (by omega)
      obtain ⟨q, rfl, hok⟩ := act_of_trod h2
      obtain ⟨_, _, hc⟩ := World.cells?_some h1
      exact ⟨q, hc, hok⟩
    have : Inhabited Ac := ⟨⟨0, ByteArray.empty, 0⟩⟩
    obtain ⟨F, hF⟩ := choose_lt hall
    have hlen : ((List.range len0).map F).length = len0 := by simp
    refine ⟨(List.range len0).map F, hlen, ⟨?_, ?_⟩, (fun h => by cases h), by rw [hlen]; exact hl, hm⟩
    · intro f hf
      obtain ⟨i, hi, rfl⟩ := List.mem_map.1 hf
      exact (hF i (List.mem_range.1 hi)).2
    · intro hne
      have h0 : 0 < len0 := by
        rcases Nat.eq_zero_or_pos len0 with h | h
        · subst h; simp at hne
        · exact h
      obtain ⟨b, off, spot⟩ := ad
      have hc0 := (hF 0 h0).1 0 (by omega)
      have hspot : spot = none := by simpa [Addr.add] using World.cell?_spot hc0
      subst hspot
      refine ⟨b, off, rfl, fun j hj => ?_⟩
      have hj' : j < len0 := by rw [hlen] at hj; exact hj
      obtain ⟨hc, _⟩ := hF j hj'
      have hcell : ∀ i, i < 3 → W.cell? ⟨b, off + j * 3 + i, none⟩ = [Value.int .u8 (F j).k, .string (F j).s, .int .i64 (F j).n][i]? := fun i hi => by
        have := hc i hi
        rwa [Addr.add_lit, Addr.add_lit] at this
      have hget : ((List.range len0).map F)[j] = F j := by simp
      rw [hget]
      exact ⟨hcell 0 (by omega), hcell 1 (by omega), hcell 2 (by omega)⟩
end
end Go.Proofs.Ytjgonfaniincbaa
