/- diag.plain, diag.Text: a text, clean. Conditions: the text and the secrets are not too long. -/
import Derived.Test.YtgknefpefeghcaaMkN
import Derived.Laws.IdiomStrings
namespace Go.Proofs.Ytgknefpefeghcaa
open Go.RowKit

/-- A byte, as every screen shows it. -/
def plainB (c : UInt8) : UInt8 := if c.toNat < 32 ∨ 126 < c.toNat then 63 else c
def plainT (s : ByteArray) : ByteArray := ⟨(s.data.toList.map plainB).toArray⟩
set_option maxRecDepth 100000 in
theorem plainT_size (s : ByteArray) : (plainT s).size = s.size := by
  show (s.data.toList.map plainB).toArray.size = s.data.size
  simp
/-- The byte at a place. -/
def atB (s : ByteArray) (j : Nat) : UInt8 := (s.data[j]?).getD 0
set_option maxRecDepth 100000 in
theorem atB_eq {s : ByteArray} {j : Nat} (hj : j < s.data.size) : atB s j = s.data[j] := by
  unfold atB
  rw [Array.getElem?_eq_getElem hj]
  rfl
/-- A row of bytes of the call's own, with the mark that a conversion leaves. -/
def PRow (W : World) (b n : Nat) (f : Nat → UInt8) : Prop := ∃ cur, W.heap[b]? = some (.cells cur 5 (cur.size, cur.size + 1)) ∧ n ≤ cur.size ∧ ∀ j, j < n → cur[j]? = some (.int .u8 ((f j).toNat : Int))
set_option maxRecDepth 100000 in
theorem PRow.cell {W : World} {b n : Nat} {f : Nat → UInt8} (h : PRow W b n f) (j : Nat) (hj : j < n) : W.cell? ⟨b, j, none⟩ = some (.int .u8 ((f j).toNat : Int)) := by
  obtain ⟨cur, h1, h2, h3⟩ := h
  exact (cell_of_row _ _ j _ _ _ h1).trans (h3 j hj)
set_option maxRecDepth 100000 in
theorem PRow.frozen {W : World} {b n : Nat} {f : Nat → UInt8} (h : PRow W b n f) (j : Nat) (hj : j < n) : W.frozen? ⟨b, j, none⟩ = false := by
  obtain ⟨cur, h1, h2, h3⟩ := h
  simp [World.frozen?, h1]
  omega
set_option maxRecDepth 100000 in
theorem PRow.lt {W : World} {b n : Nat} {f : Nat → UInt8} (h : PRow W b n f) : b < W.heap.size := by
  obtain ⟨cur, h1, -, -⟩ := h
  exact (Array.getElem?_eq_some_iff.1 h1).1
set_option maxRecDepth 100000 in
theorem PRow.set {W : World} {b n : Nat} {f : Nat → UInt8} (h : PRow W b n f) (k : Nat) (v : UInt8) : PRow (W.setCell ⟨b, k, none⟩ (.int .u8 (v.toNat : Int))) b n (fun j => if j = k then v else f j) := by
  obtain ⟨cur, h1, h2, h3⟩ := h
  refine ⟨cur.setIfInBounds k (.int .u8 (v.toNat : Int)), ?_, by simpa using h2, fun j hj => ?_⟩
  · rw [setCell_eq_setRow W b k cur _ _ _ h1, Array.size_setIfInBounds]
    exact setRow_heap W b cur _ _ _ h1
  · by_cases e : j = k
    · subst e
      show _ = some (Value.int .u8 (((if j = j then v else f j) : UInt8).toNat : Int))
      rw [if_pos rfl, Array.getElem?_setIfInBounds_self_of_lt (by omega)]
    · show _ = some (Value.int .u8 (((if j = k then v else f j) : UInt8).toNat : Int))
      rw [if_neg e, Array.getElem?_setIfInBounds_ne (fun e2 => e e2.symm)]
      exact h3 j hj
set_option maxRecDepth 100000 in
theorem conv_row (W : World) (s : ByteArray) : ∃ (cap : Nat) (w' : World), (convert 9 34 (.string s)).run Try.prog W = .ok (.slice (some ⟨W.heap.size, 0, none⟩) s.size cap) w' ∧ PRow w' W.heap.size s.size (atB s) ∧ Below W.heap.size W w' := by
  refine ⟨_, _, run_bytes_of_string W 9 34 5 s Try.underlying9 Try.underlying34 Try.underlying5, ⟨_, heap_alloc_new W.drew _, ?_, fun j hj => ?_⟩, (Below.refl _ _).drew.alloc (Nat.le_refl _) _⟩
  · simp only [bytesRow, Array.size_append, Array.size_map]
    exact Nat.le_add_right _ _
  · have hj' : j < s.data.size := hj
    rw [bytesRow_at s _ j hj', atB_eq hj']
set_option maxRecDepth 100000 in
theorem PRow.text {W : World} {b : Nat} {s : ByteArray} (h : PRow W b s.size (fun j => if j < s.size then plainB (atB s j) else atB s j)) (cap : Nat) : (convert 34 9 (.slice (some ⟨b, 0, none⟩) s.size cap)).run Try.prog W = .ok (.string (plainT s)) W := by
  have hl : (s.data.toList.map plainB).length = s.data.size := by simp
  have := run_convert_bytes_back (P := Try.prog) W 34 9 5 ⟨b, 0, none⟩ cap (s.data.toList.map plainB) Try.underlying34 Try.underlying5 Try.underlying9 (fun j hj => by
    have hj' : j < s.size := by rw [hl] at hj; exact hj
    have hj2 : j < s.data.size := hj'
    rw [Addr.add_lit, Nat.zero_add, h.cell j hj', if_pos hj', atB_eq hj2]
    simp)
  rw [hl] at this
  exact this
set_option maxRecDepth 100000 in
set_option maxHeartbeats 1600000 in
theorem plain_any (s : ByteArray) (hs : s.size ≤ 100000) (W : World) : Calls Try.prog 45 #[.string s] W fun e w' => e = .returned (.string (plainT s)) ∧ Below W.heap.size W w' := by
  obtain ⟨cap, w1, hrun, hrow, hb1⟩ := conv_row W s
  go_enter Try.func45, Try.ntmps45
  go_wp2_with fail
  go_loopw [10] (fun s10 wr => ∃ k : Nat, k ≤ s.size ∧ s10 = .int .i64 (k : Int) ∧ PRow wr W.heap.size s.size (fun j => if j < k then plainB (atB s j) else atB s j) ∧ Below W.heap.size W wr) (fun s10 _ => s.size - (intOf s10).toNat)
  case atStart => exact ⟨0, by omega, rfl, by simpa using hrow, hb1⟩
  case round =>
    clear hrow hb1 hrun
    obtain ⟨k, hk, rfl, hrow, hb⟩ := hrel
    by_cases hlt : k < s.size
    · have z := hrow.cell k hlt
      have zf := hrow.frozen k hlt
      have hbl := hrow.lt
      have hlt2 : k < s.data.size := hlt
      have hkeep : ∀ v : UInt8, v = plainB (atB s k) → (fun j => if j = k then v else if j < k then plainB (atB s j) else atB s j) = (fun j => if j < k + 1 then plainB (atB s j) else atB s j) := by
        intro v hv
        funext j
        by_cases e : j = k
        · subst e
          rw [if_pos rfl, if_pos (by omega), hv]
        · rw [if_neg e]
          by_cases e2 : j < k
          · rw [if_pos e2, if_pos (by omega)]
          · rw [if_neg e2, if_neg (by omega)]
      simp only [Nat.lt_irrefl, if_false] at z
      generalize atB s k = c at *
      have hc1 : c.toNat < 256 := c.toNat_lt
      by_cases h1 : c.toNat < 32
      · have hv := hkeep 63 (by unfold plainB; rw [if_pos (Or.inl h1)])
        have hrow2 := hrow.set k 63
        rw [hv] at hrow2
        have hb2 := hb.setCell (p := ⟨W.heap.size, k, none⟩) (Nat.le_refl _) (.int .u8 (((63 : UInt8).toNat : Nat) : Int))
        clear hkeep hv hrow hb
        go_wp2_with fail
        go_roundw
        case rel => exact ⟨k + 1, by omega, by go_num, hrow2, hb2⟩
        case measure => simp [intOf]; omega
      · by_cases h2 : 126 < c.toNat
        · have hv := hkeep 63 (by unfold plainB; rw [if_pos (Or.inr h2)])
          have hrow2 := hrow.set k 63
          rw [hv] at hrow2
          have hb2 := hb.setCell (p := ⟨W.heap.size, k, none⟩) (Nat.le_refl _) (.int .u8 (((63 : UInt8).toNat : Nat) : Int))
          clear hkeep hv hrow hb
          go_wp2_with fail
          go_roundw
          case rel => exact ⟨k + 1, by omega, by go_num, hrow2, hb2⟩
          case measure => simp [intOf]; omega
        · have hrow2 : PRow wr W.heap.size s.size (fun j => if j < k + 1 then plainB (atB s j) else atB s j) := by
            have hv := hkeep c (by unfold plainB; rw [if_neg (by omega)])
            rw [← hv]
            obtain ⟨cur, a1, a2, a3⟩ := hrow
            refine ⟨cur, a1, a2, fun j hj => ?_⟩
            by_cases e : j = k
            · subst e
              show _ = some (Value.int .u8 (((if j = j then c else _) : UInt8).toNat : Int))
              rw [if_pos rfl, ← z, cell_of_row _ _ j _ _ _ a1]
            · show _ = some (Value.int .u8 (((if j = k then c else _) : UInt8).toNat : Int))
              rw [if_neg e]
              exact a3 j hj
          clear hkeep hrow
          go_wp2_with fail
          go_roundw
          case rel => exact ⟨k + 1, by omega, by go_num, hrow2, hb⟩
          case measure => simp [intOf]; omega
    · have hkn : k = s.size := by omega
      subst hkn
      have hcv := hrow.text cap
      clear hrow
      go_wp2_with fail
      go_ret
      exact ⟨rfl, hb⟩
/-- A text, clean, without its secrets' places: at most eighty bytes. -/
def textB (c : ByteArray) : ByteArray := if 80 < c.size then plainT (c.extract 0 77) ++ (⟨#[46, 46, 46]⟩ : ByteArray) else plainT c
set_option maxRecDepth 100000 in
set_option maxHeartbeats 1600000 in
theorem dtext_any {W : World} {a : Option Addr} {cap : Nat} {l : List ByteArray} (T : ByteArray) (h : StrsIn W a cap l) (hT : T.size ≤ 10000) (hl : l.length ≤ 1000) (hb90 : T.size * l.length ≤ 90000) :
    Calls Try.prog 22 #[.string T, .slice a l.length cap] W fun e w' => (∃ c : ByteArray, e = .returned (.string (textB c)) ∧ bsI c = cleanS (sec l) (bsI T)) ∧ Below W.heap.size W w' := by
  have C1 : Hid (Calls Try.prog 9 #[.string T, .slice a l.length cap] W fun e w' => (∃ c : ByteArray, e = .returned (.string c) ∧ bsI c = cleanS (sec l) (bsI T)) ∧ Below W.heap.size W w') := mclean_any T h hT hl hb90
  go_enter Try.func22, Try.ntmps22
  go_wp2_with fail
  refine C1.out.mono ?_
  rintro e w1 ⟨⟨c, rfl, hc⟩, hb1⟩
  have hcs : c.size ≤ 3 * T.size := by
    have := clean_size (sec l) _ (bsI T) (Nat.le_refl _)
    rw [← hc, bsI_len, bsI_len] at this
    exact this
  have hc : Hid (bsI c = cleanS (sec l) (bsI T)) := hc
  clear C1
  by_cases h80 : 80 < c.size
  · have hx : (c.extract 0 77).size = 77 := by rw [ByteArray.size_extract]; omega
    have hp := plainT_size (c.extract 0 77)
    have CP : Hid (∀ W, Calls Try.prog 45 #[.string (c.extract 0 77)] W fun e w' => e = .returned (.string (plainT (c.extract 0 77))) ∧ Below W.heap.size W w') := plain_any (c.extract 0 77) (by omega)
    have e : Hid (textB c = plainT (c.extract 0 77) ++ (⟨#[46, 46, 46]⟩ : ByteArray)) := by
      show _ = _
      unfold textB
      rw [if_pos h80]
    go_wp2_with fail
    refine (CP.out _).mono ?_
    rintro e w2 ⟨rfl, hb2⟩
    have hb2 := hb1.trans (hb2.mono hb1.size)
    rw [hx] at hp
    go_wp2_with fail
    go_ret
    exact ⟨⟨c, by rw [e.out]; rfl, hc.out⟩, hb2⟩
  · have CP : Hid (∀ W, Calls Try.prog 45 #[.string c] W fun e w' => e = .returned (.string (plainT c)) ∧ Below W.heap.size W w') := plain_any c (by omega)
    have e : Hid (textB c = plainT c) := by
      show _ = _
      unfold textB
      rw [if_neg h80]
    go_wp2_with fail
    refine (CP.out _).mono ?_
    rintro e w2 ⟨rfl, hb2⟩
    have hb2 := hb1.trans (hb2.mono hb1.size)
    go_wp2_with fail
    go_ret
    exact ⟨⟨c, by rw [e.out]; rfl, hc.out⟩, hb2⟩
end Go.Proofs.Ytgknefpefeghcaa
