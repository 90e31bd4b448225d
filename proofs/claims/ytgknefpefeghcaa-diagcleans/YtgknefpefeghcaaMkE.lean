/- slices.Clone, slices.IndexFunc, slices.DeleteFunc at texts. Conditions: the texts lie in memory. -/
import Derived.Test.YtgknefpefeghcaaMkD
import Derived.Lib.SliceRun
import Derived.Deep.OwnRows
import Derived.Lib.LazyBuf
namespace Go.Proofs.Ytgknefpefeghcaa
open Go.RowKit

/-- Texts that a slice shows. -/
structure StrsIn (W : World) (a : Option Addr) (cap : Nat) (l : List ByteArray) : Prop where
  hnil : a = none → l.length = 0 ∧ cap = 0
  hcap : l.length ≤ cap
  hrow : l ≠ [] → ∃ b off, a = some ⟨b, off, none⟩ ∧ ∀ (j : Nat) (hj : j < l.length), W.cell? ⟨b, off + j, none⟩ = some (.string l[j])
set_option maxRecDepth 100000 in
theorem StrsIn.below {W W' : World} {a : Option Addr} {cap : Nat} {l : List ByteArray} (h : StrsIn W a cap l) (hb : Below W.heap.size W W') : StrsIn W' a cap l := by
  refine ⟨h.hnil, h.hcap, fun hne => ?_⟩
  obtain ⟨b, off, rfl, hc⟩ := h.hrow hne
  exact ⟨b, off, rfl, fun j hj => (hb.cell (p := ⟨b, off + j, none⟩) (World.block_lt_of_cell? _ _ (hc j hj))).trans (hc j hj)⟩
def strV (s : ByteArray) : Value := .string s
set_option maxRecDepth 100000 in
theorem infoS : (Try.prog.info? 9).map (fun i => (i.zero, i.size, i.bytes)) = some (some (.string ByteArray.empty), 1, 16) := by kernel_rfl
set_option maxRecDepth 100000 in
theorem own_empty1 (W : World) (X : Nat) (h : X ≤ W.heap.size) : (W.alloc (.cells #[] 9)).ownsRow X 9 1 (.slice (some ⟨W.heap.size, 0, none⟩) 0 0) 0 [] :=
  ⟨rfl, .inr ⟨W.heap.size, 0, #[], rfl, h, heap_alloc_new W (.cells #[] 9), Nat.le_refl _, Nat.zero_le _, rfl, rfl⟩⟩
set_option maxRecDepth 100000 in
theorem clone_any {W : World} {a : Option Addr} {cap : Nat} {l : List ByteArray} (h : StrsIn W a cap l) (hl : l.length ≤ 100000) : Calls Try.prog 49 #[.slice a l.length cap] W fun e w' => ∃ v, e = .returned v ∧ w'.ownsRow W.heap.size 9 1 v l.length (l.map strV) ∧ (a ≠ none → v ≠ .slice none 0 0) ∧ Below W.heap.size W w' := by
  obtain ⟨i0, hi, hz0, hz1, hz2⟩ := info_parts infoS
  cases a with
  | none =>
    obtain ⟨h0, rfl⟩ := h.hnil rfl
    have hl0 : l = [] := List.eq_nil_of_length_eq_zero h0
    subst hl0
    have q := fun (W : World) (a : Option Addr) (n c n' c' : Nat) => Lib.run_eql_slice_nil (P := Try.prog) W 22 9 a n c n' c' Try.underlying22
    go_enter Try.func49, Try.ntmps49
    go_wp2_with fail
    go_ret
    exact ⟨_, rfl, World.ownsRow_nil _ _ _ _, fun h => absurd rfl h, Below.refl _ _⟩
  | some ad =>
    have hb0 := (Below.refl W.heap.size W).alloc (Nat.le_refl _) (.cells #[] 9)
    have hown0 := own_empty1 W W.heap.size (Nat.le_refl _)
    have h2 := h.below hb0
    obtain ⟨v', w', hr, hown, hg, hob⟩ := run_append_any (W.alloc (.cells #[] 9)) W.heap.size 22 22 9 i0 _ 1 16 Try.underlying22 hi hz0 hz1 hz2 rfl (by omega) _ 0 _ hown0 (some ad) l.length cap (l.map strV) (by simp) (fun e => by cases e)
      (fun ad2 had j u hu => by
        cases had
        have hj : j < l.length := by have := (List.getElem?_eq_some_iff.1 hu).1; simpa using this
        obtain ⟨b, off, e, hc⟩ := h2.hrow (by intro e; rw [e] at hj; simp at hj)
        cases e
        rw [Addr.add_lit, hc j hj]
        simp [hj] at hu
        rw [← hu]; rfl)
      (fun u hu => by obtain ⟨s, -, rfl⟩ := List.mem_map.1 hu; rfl) (by unfold maxLen; omega) (by omega) hb0.size
    rw [List.nil_append, Nat.zero_add] at hown
    have hvn : v' ≠ .slice none 0 0 := fun e => by rw [e] at hob; rcases hob with h | h <;> cases h
    clear h h2 hob
    have q := fun (W : World) (a : Option Addr) (n c n' c' : Nat) => Lib.run_eql_slice_nil (P := Try.prog) W 22 9 a n c n' c' Try.underlying22
    go_enter Try.func49, Try.ntmps49
    go_wp2_with (at_builtin; refine wpList_append_run rfl (.tmp 5) (.tmp 6) 22 rfl _ _ rfl rfl hr ?_)
    go_ret
    exact ⟨_, rfl, hown, fun _ => hvn, hb0.grown hg hb0.size (fun k hk => (hown0.lt k hk).1)⟩
set_option maxRecDepth 100000 in
theorem clone_nil (W : World) : Calls Try.prog 49 #[.slice none 0 0] W fun e w' => e = .returned (.slice none 0 0) ∧ W = w' := by
  have q := fun (W : World) (a : Option Addr) (n c n' c' : Nat) => Lib.run_eql_slice_nil (P := Try.prog) W 22 9 a n c n' c' Try.underlying22
  go_enter Try.func49, Try.ntmps49
  go_wp2_with fail
  go_ret
  exact ⟨rfl, rfl⟩
/-- Texts in a block of the call's own. -/
def SL (W : World) (g cap : Nat) (l : List ByteArray) : Prop := ∃ f : Nat → Value, W.rowIs g 9 cap f ∧ l.length ≤ cap ∧ ∀ (j : Nat) (hj : j < l.length), f j = .string l[j]
set_option maxRecDepth 100000 in
theorem SL.cell {W : World} {g cap : Nat} {l : List ByteArray} (h : SL W g cap l) (j : Nat) (hj : j < l.length) : W.cell? ⟨g, j, none⟩ = some (.string l[j]) := by
  obtain ⟨f, h1, h2, h3⟩ := h
  rw [h1.cell (by omega), h3 j hj]
set_option maxRecDepth 100000 in
theorem SL.of_own {W : World} {base : Nat} {v : Value} {l : List ByteArray} (h : W.ownsRow base 9 1 v l.length (l.map strV)) (hne : l ≠ []) : ∃ g cap, v = .slice (some ⟨g, 0, none⟩) l.length cap ∧ base ≤ g ∧ g < W.heap.size ∧ SL W g cap l ∧ cap ≤ maxLen := by
  rcases h.2 with ⟨-, h0⟩ | ⟨g, cap, cur, rfl, hg, hb, h1, h2, h3, h4⟩
  · exact absurd (List.eq_nil_of_length_eq_zero h0) hne
  · refine ⟨g, cap, rfl, hg, (Array.getElem?_eq_some_iff.1 hb).1, ⟨fun j => (cur[j]?).getD default, ⟨cur, hb, by rw [h3, Nat.mul_one], fun i hi => ?_⟩, h1, fun j hj => ?_⟩, h2⟩
    · have hi' : i < cur.size := by rw [h3]; omega
      simp [hi']
    · have e : (cur.toList.take (l.length * 1))[j]? = (l.map strV)[j]? := by rw [h4]
      rw [List.getElem?_take_of_lt (by omega)] at e
      simp [hj] at e
      show (cur[j]?).getD default = _
      rw [← Array.getElem?_toList, Array.getElem?_toList, e]
      rfl
/-- The closure's answer: is a text no secret here? -/
def noSec (T s : ByteArray) : Bool := decide (s.size < 4 ∨ T.size < s.size)
set_option maxRecDepth 100000 in
theorem cl1_any {W : World} {B : Nat} {T : ByteArray} (hB : W.cell? ⟨B, 0, none⟩ = some (.string T)) (s : ByteArray) : Calls Try.prog 50 #[.string s, .pointer (some ⟨B, 0, none⟩)] W fun e w' => e = .returned (.bool (noSec T s)) ∧ W = w' := by
  have hlt := World.block_lt_of_cell? _ _ hB
  by_cases h1 : s.size < 4
  · have e : noSec T s = true := by simp [noSec, h1]
    rw [e]
    clear e
    go_enter Try.func50, Try.ntmps50
    go_wp2_with fail
    go_ret
    exact ⟨rfl, rfl⟩
  · by_cases h2 : T.size < s.size
    · have e : noSec T s = true := by simp [noSec, h2]
      rw [e]
      clear e
      have h1 : 4 ≤ s.size := by omega
      go_enter Try.func50, Try.ntmps50
      go_wp2_with fail
      go_ret
      exact ⟨rfl, rfl⟩
    · have e : noSec T s = false := by simp [noSec, h1, h2]
      rw [e]
      clear e
      have h1 : 4 ≤ s.size := by omega
      have h2 : s.size ≤ T.size := by omega
      go_enter Try.func50, Try.ntmps50
      go_wp2_with fail
      go_ret
      exact ⟨by show Ending.returned (.bool (decide _)) = _; rw [decide_eq_false (by omega)], rfl⟩
/-- What IndexFunc answers. -/
def IdxR (T : ByteArray) (l : List ByteArray) (i : Int) : Prop := (i = -1 ∧ ∀ s ∈ l, noSec T s = false) ∨ ∃ k : Nat, i = k ∧ ∃ hk : k < l.length, noSec T l[k] = true ∧ ∀ s ∈ l.take k, noSec T s = false
set_option maxRecDepth 100000 in
set_option maxHeartbeats 800000 in
theorem idxf_any {W : World} {B : Nat} {T : ByteArray} (hB : W.cell? ⟨B, 0, none⟩ = some (.string T)) {p : Option Addr} {cap : Nat} {l : List ByteArray} (h : l ≠ [] → ∃ g, p = some ⟨g, 0, none⟩ ∧ SL W g cap l) (hl : l.length ≤ 100000) :
    Calls Try.prog 71 #[.slice p l.length cap, .func (.func 50) #[] #[.pointer (some ⟨B, 0, none⟩)]] W fun e w' => (∃ i : Int, e = .returned (.int .i64 i) ∧ IdxR T l i) ∧ W = w' := by
  go_enter Try.func71, Try.ntmps71
  go_wp2_with fail
  go_loop [8] (fun s8 => ∃ k : Nat, k ≤ l.length ∧ s8 = .int .i64 (k : Int) ∧ ∀ s ∈ l.take k, noSec T s = false) (fun s8 => l.length - (intOf s8).toNat)
  case atStart => exact ⟨0, by omega, rfl, fun s hs => by simp at hs⟩
  case round =>
    obtain ⟨k, hk, rfl, hno⟩ := hrel
    by_cases hlt : k < l.length
    · obtain ⟨g, rfl, hs⟩ := h (by intro e; rw [e] at hlt; simp at hlt)
      have c0 := hs.cell k hlt
      have hgl := World.block_lt_of_cell? _ _ c0
      have hnk : ∀ s ∈ l.take (k + 1), noSec T s = false ∨ s = l[k] := fun s hs => by
        rw [List.take_succ_eq_append_getElem hlt] at hs
        rcases List.mem_append.1 hs with hs | hs
        · exact Or.inl (hno s hs)
        · exact Or.inr (by simpa using hs)
      have hnk : Hid (∀ s ∈ l.take (k + 1), noSec T s = false ∨ s = l[k]) := hnk
      have hno : Hid (∀ s ∈ l.take k, noSec T s = false) := hno
      go_wp2_with fail
      refine (cl1_any hB l[k]).mono ?_
      rintro e w' ⟨rfl, rfl⟩
      cases hns : noSec T l[k]
      · go_wp2_with fail
        go_roundw
        case rel => exact ⟨k + 1, by omega, by go_num, fun s hs => (hnk.out s hs).elim id (fun e => by rw [e]; exact hns)⟩
        case measure => simp [intOf]; omega
      · go_wp2_with fail
        go_ret
        exact ⟨⟨_, rfl, Or.inr ⟨k, rfl, hlt, hns, hno.out⟩⟩, rfl⟩
    · have hkl : k = l.length := by omega
      subst hkl
      rw [List.take_length] at hno
      have hno : Hid (∀ s ∈ l, noSec T s = false) := hno
      go_wp2_with fail
      go_ret
      exact ⟨⟨_, rfl, Or.inl ⟨rfl, hno.out⟩⟩, rfl⟩
set_option maxRecDepth 100000 in
theorem delf_nil {W : World} {B : Nat} {T : ByteArray} (hB : W.cell? ⟨B, 0, none⟩ = some (.string T)) : Calls Try.prog 48 #[.slice none 0 0, .func (.func 50) #[] #[.pointer (some ⟨B, 0, none⟩)]] W fun e w' => e = .returned (.slice none 0 0) ∧ W = w' := by
  have CI : Hid (Calls Try.prog 71 #[.slice none 0 0, .func (.func 50) #[] #[.pointer (some ⟨B, 0, none⟩)]] W fun e w' => e = .returned (.int .i64 (-1)) ∧ W = w') := by
    refine (idxf_any (p := none) (cap := 0) (l := []) hB (fun h => absurd rfl h) (by simp)).mono ?_
    rintro e w' ⟨⟨i, rfl, hi⟩, rfl⟩
    rcases hi with ⟨rfl, -⟩ | ⟨k, rfl, hk, -⟩
    · exact ⟨rfl, rfl⟩
    · simp at hk
  go_enter Try.func48, Try.ntmps48
  go_wp2_with fail
  refine CI.out.mono ?_
  rintro e w' ⟨rfl, rfl⟩
  go_wp2_with fail
  go_ret
  exact ⟨rfl, rfl⟩
/-- What is left. -/
def left (T : ByteArray) (l : List ByteArray) : List ByteArray := l.filter (fun s => !noSec T s)
set_option maxRecDepth 100000 in
theorem left_snoc (T : ByteArray) (l : List ByteArray) (j : Nat) (hj : j < l.length) : left T (l.take (j + 1)) = if noSec T l[j] = true then left T (l.take j) else left T (l.take j) ++ [l[j]] := by
  unfold left
  rw [List.take_succ_eq_append_getElem hj, List.filter_append]
  cases h : noSec T l[j] <;> simp [h]
set_option maxRecDepth 100000 in
theorem left_len (T : ByteArray) (l : List ByteArray) (j : Nat) : (left T (l.take j)).length ≤ j := Nat.le_trans (List.length_filter_le _ _) (by simp; omega)
set_option maxRecDepth 100000 in
theorem zeroS (w : World) : (zeroValue 9).run Try.prog w = .ok (.string ByteArray.empty) w := by kernel_rfl
set_option maxRecDepth 100000 in
theorem sizeS1 : ∀ W, (sizeOf (Try.prog.elem 22)).run Try.prog W = .ok 1 W := fun W => by
  have e : Try.prog.elem 22 = 9 := by kernel_rfl
  rw [e]; simp [go_sem]
set_option maxRecDepth 100000 in
set_option maxHeartbeats 1600000 in
theorem delf_any {W : World} {base B g cap : Nat} {T : ByteArray} {l : List ByteArray} (hB : W.cell? ⟨B, 0, none⟩ = some (.string T)) (h : SL W g cap l) (hg : base ≤ g) (hBb : B < base) (hl : l.length ≤ 100000) (hcap : cap ≤ maxLen) :
    Calls Try.prog 48 #[.slice (some ⟨g, 0, none⟩) l.length cap, .func (.func 50) #[] #[.pointer (some ⟨B, 0, none⟩)]] W fun e w' => e = .returned (.slice (some ⟨g, 0, none⟩) (left T l).length cap) ∧ SL w' g cap (left T l) ∧ Below base W w' := by
  have CI : Hid (Calls Try.prog 71 #[.slice (some ⟨g, 0, none⟩) l.length cap, .func (.func 50) #[] #[.pointer (some ⟨B, 0, none⟩)]] W fun e w' => (∃ i : Int, e = .returned (.int .i64 i) ∧ IdxR T l i) ∧ W = w') := idxf_any hB (fun _ => ⟨g, rfl, h⟩) hl
  unfold maxLen at hcap
  go_enter Try.func48, Try.ntmps48
  go_wp2_with fail
  refine CI.out.mono ?_
  rintro e w' ⟨⟨i, rfl, hi⟩, rfl⟩
  clear CI
  rcases hi with ⟨rfl, hno⟩ | ⟨k, rfl, hk, hyes, hno⟩
  · have e : left T l = l := List.filter_eq_self.2 (fun s hs => by rw [hno s hs]; rfl)
    have e : Hid (left T l = l) := e
    clear hno
    go_wp2_with fail
    go_ret
    rw [e.out]
    exact ⟨rfl, h, Below.refl _ _⟩
  · have e0 : left T (l.take (k + 1)) = l.take k := by
      rw [left_snoc T l k hk, if_pos hyes]
      exact List.filter_eq_self.2 (fun s hs => by rw [hno s hs]; rfl)
    have e0l : (left T (l.take (k + 1))).length = k := by rw [e0]; simp; omega
    obtain ⟨f, hrow, hlc, hf⟩ := h
    have hst : ∀ (t : Nat) (ht : t < (left T (l.take (k + 1))).length), f t = .string (left T (l.take (k + 1)))[t] := fun t ht => by
      rw [hf t (by omega)]
      simp [e0]
    obtain ⟨P, F, hP, hPk, hrw, hs, hla⟩ : ∃ (P : List ByteArray) (F : Nat → Value), Hid (P = left T (l.take (k + 1))) ∧ P.length = k ∧ Hid (W.rowIs g 9 cap F) ∧ Hid (∀ (t : Nat) (ht : t < P.length), F t = .string P[t]) ∧ Hid (∀ (t : Nat), k + 1 ≤ t → (ht : t < l.length) → F t = .string l[t]) :=
      ⟨_, f, rfl, e0l, hrow, hst, fun t _ ht => hf t ht⟩
    subst hPk
    clear hrow hst hf e0 e0l hno hyes f
    have hne1 : (((P.length : Nat) : Int) == -1) = false := beq_eq_false_iff_ne.2 (by omega)
    go_wp2_with fail
    clear hne1
    go_loopw [5, 6, 7] (fun s5 s6 s7 wr => ∃ (j : Nat) (f : Nat → Value) (P : List ByteArray), j ≤ l.length ∧ P.length < j ∧ s6 = .int .i64 (j : Int) ∧ s5 = .int .i64 ((P.length : Nat) : Int) ∧ Hid (P = left T (l.take j)) ∧ Hid (wr.rowIs g 9 cap f) ∧
      Hid (∀ (t : Nat) (ht : t < P.length), f t = .string P[t]) ∧ Hid (∀ (t : Nat), j ≤ t → (ht : t < l.length) → f t = .string l[t]) ∧ Below base W wr) (fun _ s6 _ _ => l.length - (intOf s6).toNat)
    case atStart => exact ⟨P.length + 1, F, P, by omega, by omega, by go_num, rfl, hP, hrw, hs, hla, Below.refl _ _⟩
    case round =>
      clear hk hP hrw hs hla F
      obtain ⟨j, f, P, hj, hPj, rfl, rfl, hP, hrow, hst, hla, hb⟩ := hrel
      have hgl := hrow.out.lt
      by_cases hlt : j < l.length
      · have c0 := hrow.out.cell (i := j) (by omega)
        rw [hla.out j (Nat.le_refl _) hlt] at c0
        have hBw := (hb.cell (p := ⟨B, 0, none⟩) hBb).trans hB
        have hsn := left_snoc T l j hlt
        rw [← hP.out] at hsn
        have hsn : Hid (left T (l.take (j + 1)) = if noSec T l[j] = true then P else P ++ [l[j]]) := hsn
        have hlaj : Hid (∀ (t : Nat), j + 1 ≤ t → (ht : t < l.length) → f t = .string l[t]) := fun t h1 ht => hla.out t (by omega) ht
        clear hP hla
        go_wp2_with fail
        refine (cl1_any hBw l[j]).mono ?_
        rintro e w' ⟨rfl, rfl⟩
        cases hns : noSec T l[j]
        · have hsn2 : Hid (P ++ [l[j]] = left T (l.take (j + 1))) := by
            have := hsn.out
            rw [hns] at this
            exact this.symm
          have c1 := hrow.out.cell (i := P.length) (by omega)
          have c2 := hrow.out.frozen P.length
          have hrow2 : Hid ((wr.setCell ⟨g, P.length, none⟩ (.string l[j])).rowIs g 9 cap (fun t => if t = P.length then .string l[j] else f t)) := hrow.out.set P.length (.string l[j])
          have hb2 := hb.setCell (p := ⟨g, P.length, none⟩) hg (.string l[j])
          have hl2 : ((P ++ [l[j]]).length : Int) = (P.length : Int) + 1 := by simp
          have hl3 : (P ++ [l[j]]).length < j + 1 := by simp; omega
          clear hns hsn
          go_wp2_with fail
          go_roundw
          case rel =>
            refine ⟨j + 1, _, P ++ [l[j]], by omega, hl3, by go_num, by rw [hl2], hsn2, hrow2, fun t ht => ?_, fun t h1 ht => ?_, hb2⟩
            · by_cases e : t = P.length
              · subst e
                rw [if_pos rfl]
                simp
              · rw [if_neg e]
                have ht' : t < P.length := by simp at ht; omega
                rw [hst.out t ht', List.getElem_append_left ht']
            · rw [if_neg (by omega)]
              exact hlaj.out t h1 ht
          case measure => simp [intOf]; omega
        · have hsn2 : Hid (P = left T (l.take (j + 1))) := by
            have := hsn.out
            rw [hns] at this
            exact this.symm
          clear hns hsn
          go_wp2_with fail
          go_roundw
          case rel => exact ⟨j + 1, f, P, by omega, by omega, by go_num, rfl, hsn2, hrow, hst, hlaj, hb⟩
          case measure => simp [intOf]; omega
      · have hjl : j = l.length := by omega
        subst hjl
        have hPl : Hid (left T l = P) := by have := hP.out; rw [List.take_length] at this; exact this.symm
        have hcl : ∀ ty, (Builtin.clear_ #[22] ty #[.slice (some ⟨g, P.length, none⟩) (l.length - P.length) (cap - P.length)]).run Try.prog wr = .ok (.tuple #[]) (wr.setCells g P.length (List.replicate (l.length - P.length) (.string ByteArray.empty))) := fun ty =>
          Lib.run_clear_slice wr _ _ ty _ Try.underlying22 zeroS rfl rfl g P.length _ _ (by omega) (fun t ht => by rw [hrow.out.cell (by omega)]; rfl) (fun t ht => hrow.out.frozen _)
        have hrow2 : Hid ((wr.setCells g P.length (List.replicate (l.length - P.length) (.string ByteArray.empty))).rowIs g 9 cap (fun t => if P.length ≤ t ∧ t < P.length + (List.replicate (l.length - P.length) (Value.string ByteArray.empty)).length then (List.replicate (l.length - P.length) (Value.string ByteArray.empty))[t - P.length]?.getD default else f t)) := rowIs_setCells _ _ _ _ hrow.out
        have hb2 := below_setCells hg (List.replicate (l.length - P.length) (Value.string ByteArray.empty)) P.length wr hb
        clear hP hla hrow
        go_wp2_with fail
        go_ret
        rw [hPl.out]
        refine ⟨rfl, ⟨_, hrow2.out, by omega, fun t ht => ?_⟩, hb2⟩
        rw [if_neg (by omega)]
        exact hst.out t ht
end Go.Proofs.Ytgknefpefeghcaa
