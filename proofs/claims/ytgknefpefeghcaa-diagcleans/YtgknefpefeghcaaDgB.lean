/- The law's great; diag.Lines. Conditions: the notes lie in memory. -/
import Derived.Test.YtgknefpefeghcaaNtA
import Derived.Test.YtgknefpefeghcaaDgA
namespace Go.Proofs.Ytgknefpefeghcaa
open Go.RowKit

set_option maxRecDepth 100000 in
theorem note_cells {W : World} {a : Option Addr} {cap : Nat} {l : List (Bool × ByteArray)} (h : NotesIn W a cap l) {i : Nat} (hi : i < l.length) : ∃ b off, a = some ⟨b, off, none⟩ ∧ W.cell? ⟨b, off + i * 2, none⟩ = some (.bool l[i].1) ∧ W.cell? ⟨b, off + i * 2 + 1, none⟩ = some (.string l[i].2) ∧ b < W.heap.size := by
  obtain ⟨b, off, rfl, hc⟩ := h.hrow (by intro e; rw [e] at hi; simp at hi)
  exact ⟨b, off, rfl, (hc i hi).1, (hc i hi).2, World.block_lt_of_cell? _ _ (hc i hi).1⟩
set_option maxRecDepth 100000 in
theorem small_more {α : Type} {l : List α} {f : α → Nat} {i n : Nat} (h : ∀ s ∈ l.take i, f s ≤ n) (hi : i < l.length) (h2 : f l[i] ≤ n) : ∀ s ∈ l.take (i + 1), f s ≤ n := by
  intro s hs
  rw [List.take_succ_eq_append_getElem hi, List.mem_append] at hs
  rcases hs with hs | hs
  · exact h s hs
  · simp at hs; subst hs; exact h2
/-- What great tells where it answers false. -/
def Fine (l : List (Bool × ByteArray)) (s : List ByteArray) : Prop := (∀ x ∈ l, x.2.size ≤ 300) ∧ (∀ x ∈ s, x.size ≤ 100) ∧ l.length ≤ 30 ∧ s.length ≤ 20
/-- great's answer. -/
def GreatTells (e : Ending) (l : List (Bool × ByteArray)) (s : List ByteArray) : Prop := ∃ g : Bool, e = .returned (.bool g) ∧ (g = false → Fine l s)
set_option maxRecDepth 100000 in
theorem GreatTells.yes (l : List (Bool × ByteArray)) (s : List ByteArray) : GreatTells (.returned (.bool true)) l s := ⟨true, rfl, fun e => by cases e⟩
set_option maxRecDepth 100000 in
theorem ret_great {l : List (Bool × ByteArray)} {s : List ByteArray} {b : Bool} (h : b = true) : GreatTells (.returned (.bool b)) l s := by subst h; exact GreatTells.yes l s
set_option maxRecDepth 100000 in
set_option maxHeartbeats 1600000 in
theorem great_any {W : World} {a p : Option Addr} {ca cp : Nat} {l : List (Bool × ByteArray)} {s : List ByteArray} (h : NotesIn W a ca l) (hs : StrsIn W p cp s) (hlm : l.length ≤ 9223372036854775807) (hsM : s.length ≤ 9223372036854775807) :
    Calls Try.prog 13 #[.slice a l.length ca, .slice p s.length cp] W fun e w' => GreatTells e l s ∧ W = w' := by
  go_enter Try.func13, Try.ntmps13
  go_wp2_with fail
  go_loopw [5] (fun s5 wr => ∃ i : Nat, i ≤ l.length ∧ s5 = .int .i64 (i : Int) ∧ Hid (∀ x ∈ l.take i, x.2.size ≤ 300) ∧ wr = W) (fun s5 _ => l.length - (intOf s5).toNat)
  case atStart => exact ⟨0, by omega, rfl, (fun x hx => by simp at hx), rfl⟩
  case round =>
    obtain ⟨i, hi, rfl, hsm, rfl⟩ := hrel
    by_cases hlt : i < l.length
    · obtain ⟨b, off, rfl, c0, c1, hbl⟩ := note_cells h hlt
      by_cases hbig : 300 < l[i].2.size
      · generalize l[i] = x at *
        go_wp2_with fail
        go_ret
        exact ⟨GreatTells.yes _ _, rfl⟩
      · have hsm2 : Hid (∀ x ∈ l.take (i + 1), x.2.size ≤ 300) := small_more (f := fun x : Bool × ByteArray => x.2.size) hsm.out hlt (by omega)
        clear hsm
        generalize l[i] = x at *
        go_wp2_with fail
        go_roundw
        case rel => exact ⟨i + 1, by omega, by go_num, hsm2, trivial⟩
        case measure => simp [intOf]; omega
    · have hil : i = l.length := by omega
      subst hil
      rw [List.take_length] at hsm
      go_wp2_with fail
      go_loopw [6] (fun s6 wv => ∃ j : Nat, j ≤ s.length ∧ s6 = .int .i64 (j : Int) ∧ Hid (∀ x ∈ s.take j, x.size ≤ 100) ∧ wv = wr) (fun s6 _ => s.length - (intOf s6).toNat)
      case atStart => exact ⟨0, by omega, rfl, (fun x hx => by simp at hx), rfl⟩
      case round =>
        obtain ⟨j, hj, rfl, hsn, rfl⟩ := hrel
        by_cases hjl : j < s.length
        · obtain ⟨b, off, rfl, hcc⟩ := hs.hrow (by intro e; rw [e] at hjl; simp at hjl)
          have c0 := hcc j hjl
          have hbl := World.block_lt_of_cell? _ _ c0
          clear hcc
          by_cases hbig : 100 < s[j].size
          · generalize s[j] = x at *
            go_wp2_with fail
            go_ret
            exact ⟨GreatTells.yes _ _, rfl⟩
          · have hsn2 : Hid (∀ x ∈ s.take (j + 1), x.size ≤ 100) := small_more (f := fun x : ByteArray => x.size) hsn.out hjl (by omega)
            clear hsn
            generalize s[j] = x at *
            go_wp2_with fail
            go_roundw
            case rel => exact ⟨j + 1, by omega, by go_num, hsn2, trivial⟩
            case measure => simp [intOf]; omega
        · have hjn : j = s.length := by omega
          subst hjn
          rw [List.take_length] at hsn
          by_cases h30 : 30 < l.length
          · go_wp2_with fail
            go_ret
            exact ⟨ret_great (by simp <;> omega), rfl⟩
          · by_cases h20 : 20 < s.length
            · go_wp2_with fail
              go_ret
              exact ⟨ret_great (by simp <;> omega), rfl⟩
            · have hf : Hid (Fine l s) := ⟨hsm.out, hsn.out, by omega, by omega⟩
              clear hsm hsn
              go_wp2_with fail
              go_ret
              exact ⟨⟨_, rfl, fun _ => hf.out⟩, rfl⟩
/-- A note's first word. -/
def wordB (b : Bool) : ByteArray := if b then ⟨#[101, 114, 114, 111, 114]⟩ else ⟨#[119, 97, 114, 110, 105, 110, 103]⟩
def noteT (x : Bool × ByteArray) : ByteArray := ((wordB x.1 ++ (⟨#[58, 32]⟩ : ByteArray)) ++ x.2) ++ (⟨#[10]⟩ : ByteArray)
def linesT (l : List (Bool × ByteArray)) : List UInt8 := (l.map (fun x => (noteT x).data.toList)).flatten
set_option maxRecDepth 100000 in
theorem wordB_size (b : Bool) : (wordB b).size ≤ 7 := by cases b <;> decide
set_option maxRecDepth 100000 in
theorem noteT_size (x : Bool × ByteArray) : (noteT x).size ≤ x.2.size + 10 := by
  have h1 := wordB_size x.1
  unfold noteT
  rw [ByteArray.size_append, ByteArray.size_append, ByteArray.size_append]
  show (wordB x.1).size + 2 + x.2.size + 1 ≤ _
  omega
set_option maxRecDepth 100000 in
theorem lines_snoc {l : List (Bool × ByteArray)} {i : Nat} (hi : i < l.length) : linesT (l.take (i + 1)) = linesT (l.take i) ++ (noteT l[i]).data.toList := by
  unfold linesT
  rw [List.take_succ_eq_append_getElem hi, List.map_append, List.flatten_append]
  simp
set_option maxRecDepth 100000 in
theorem word_any (b : Bool) (s : ByteArray) (W : World) : Calls Try.prog 46 #[.agg #[.bool b, .string s]] W fun e w' => e = .returned (.string (wordB b)) ∧ Below W.heap.size W w' := by
  cases b with
  | true =>
    go_enter Try.func46, Try.ntmps46
    go_wp2_with fail
    go_ret
    exact ⟨rfl, (Below.refl _ _).alloc (Nat.le_refl _) _⟩
  | false =>
    go_enter Try.func46, Try.ntmps46
    go_wp2_with fail
    go_ret
    exact ⟨rfl, (Below.refl _ _).alloc (Nat.le_refl _) _⟩
set_option maxRecDepth 100000 in
theorem BHas.neN {W : World} {base b : Nat} {o : List UInt8} (h : BHas W base b o) {g : Nat} {cur : Array Value} (hg : W.heap[g]? = some (.cells cur 31 (0, 0))) : g ≠ b := by
  intro e
  subst e
  have key : ∀ p, ¬ Lib.BuilderAt 57 5 base g p (Lib.byteCells o) W := by
    rintro p ⟨-, v, h2, -⟩
    rw [hg] at h2
    injection h2 with h2
    injection h2 with _ h2
    exact absurd h2 (by decide)
  rcases h with h | h
  · exact key _ h
  · exact key _ h
set_option maxRecDepth 100000 in
set_option maxHeartbeats 800000 in
theorem lines_any {W : World} {a : Option Addr} {ca : Nat} {l : List (Bool × ByteArray)} (h : NotesIn W a ca l) (h3 : ∀ x ∈ l, x.2.size ≤ 300) (hl : l.length ≤ 30) :
    Calls Try.prog 23 #[.slice a l.length ca] W fun e w' => e = .returned (.string ⟨(linesT l).toArray⟩) ∧ Below W.heap.size W w' := by
  have h3 : Hid (∀ x ∈ l, x.2.size ≤ 300) := h3
  have hbx := (Below.refl W.heap.size W).alloc (Nat.le_refl _) (.cells #[.pointer none, .slice none 0 0] 57)
  have hbl : BHas (W.alloc (.cells #[.pointer none, .slice none 0 0] 57)) W.heap.size W.heap.size [] := Lib.fresh_isBuilder 57 5 W
  go_enter Try.func23, Try.ntmps23
  go_wp2_with fail
  go_loopw [8] (fun s8 wr => ∃ k : Nat, k ≤ l.length ∧ s8 = .int .i64 (k : Int) ∧ BHas wr W.heap.size W.heap.size (linesT (l.take k)) ∧ (linesT (l.take k)).length ≤ 310 * k ∧ Below W.heap.size W wr) (fun s8 _ => l.length - (intOf s8).toNat)
  case atStart => exact ⟨0, by omega, rfl, hbl, by simp [linesT], hbx⟩
  case round =>
    clear hbl hbx
    obtain ⟨k, hk, rfl, hbl, hlen, hb⟩ := hrel
    have hin := h.below hb
    by_cases hlt : k < l.length
    · obtain ⟨b, off, rfl, c0, c1, hblt⟩ := note_cells hin hlt
      have hsz := h3.out _ (List.getElem_mem hlt)
      have hsn := lines_snoc hlt
      have hns := noteT_size l[k]
      generalize l[k] = x at *
      obtain ⟨xb, xs⟩ := x
      simp only at c0 c1 hsz hns
      have hws := wordB_size xb
      have hsa : (⟨#[58, 32]⟩ : ByteArray).size = 2 := rfl
      have hsb : (⟨#[10]⟩ : ByteArray).size = 1 := rfl
      have hX := heap_alloc_new wr (.cells #[.bool xb, .string xs] 31)
      have hbX := (Below.refl wr.heap.size wr).alloc (Nat.le_refl _) (.cells #[.bool xb, .string xs] 31)
      have hblX := hbl.below1 hbX
      have hbbX := hb.trans (hbX.mono hb.size)
      have hXk : wr.heap.size < (wr.alloc (.cells #[.bool xb, .string xs] 31)).heap.size := by simp
      clear hbX hbl hin
      go_upto_region 5 with fail
      generalize wr.alloc (.cells #[.bool xb, .string xs] 31) = wx at *
      refine wp_region_held_drew (S := fun wz => wz.heap[wr.heap.size]? = some (.cells #[.bool xb, .string xs] 31)) (by kernel_rfl) hX (fun hSS => ?_)
      refine wpAnyH_take (i := 0) (v := ?_) rfl (by kernel_rfl) (by kernel_rfl) (by kernel_rfl) (fun _ _ _ h => h) (Or.inl ⟨by rfl, ?_⟩) hSS ?_
      rotate_left
      · intro wz hSz
        have z0 := cell_of_row _ _ 0 _ _ _ hSz; have z1 := cell_of_row _ _ 1 _ _ _ hSz; have hXl := (Array.getElem?_eq_some_iff.1 hSz).1
        go_simp
        try with_reducible rfl
      simp only [List.getElem_toArray, List.getElem_cons_zero, Act.put, List.setIfInBounds_toArray, List.set_cons_zero, List.set_cons_succ]
      refine wpAnyH_take (i := 3) (v := ?_) rfl (by kernel_rfl) (by kernel_rfl) (by kernel_rfl) (fun _ _ _ h => h) (Or.inl ⟨by rfl, ?_⟩) hSS ?_
      rotate_left
      · intro wz hSz
        go_simp
        try with_reducible rfl
      simp only [List.getElem_toArray, List.getElem_cons_zero, List.getElem_cons_succ, Act.put, List.setIfInBounds_toArray, List.set_cons_zero, List.set_cons_succ]
      refine wpAnyH_take (i := 4) (v := ?_) rfl (by kernel_rfl) (by kernel_rfl) (by kernel_rfl) (fun _ _ _ h => h) (Or.inl ⟨by rfl, ?_⟩) hSS ?_
      rotate_left
      · intro wz hSz
        have z0 := cell_of_row _ _ 0 _ _ _ hSz; have z1 := cell_of_row _ _ 1 _ _ _ hSz; have hXl := (Array.getElem?_eq_some_iff.1 hSz).1
        go_simp
        try with_reducible rfl
      simp only [List.getElem_toArray, List.getElem_cons_zero, List.getElem_cons_succ, Act.put, List.setIfInBounds_toArray, List.set_cons_zero, List.set_cons_succ]
      refine wpAnyH_ready (rs := [1]) (by kernel_rfl) (by simp) (AllReadyH.cons rfl (fun K hK => ?_) AllReadyH.nil)
      go_simp
      go_at_call 46
      refine (word_any xb xs _).mono ?_
      rintro e w4 ⟨rfl, hb4⟩
      go_simp
      have hb4 : Below wx.heap.size wx w4 := (Below.drew (Below.refl wx.heap.size wx)).trans hb4
      have hX4 := (hb4.block wr.heap.size hXk).trans hX
      have hbl4 := hblX.below1 (W' := w4) hb4
      have hbb4 := hbbX.trans (hb4.mono hbbX.size)
      refine hK.out _ _ hX4 (fun hSS => ?_)
      clear hK
      refine wpAnyH_take (i := 2) (v := .string (wordB xb ++ (⟨#[58, 32]⟩ : ByteArray))) rfl (by kernel_rfl) (by kernel_rfl) (by kernel_rfl) (fun _ _ _ h => h) (Or.inl ⟨by rfl, ?_⟩) hSS ?_
      · intro wz hSz
        go_simp
        first | omega | (refine ⟨by omega, rfl⟩) | (split; (exfalso; rename_i hbad; (try simp only [ByteArray.size_append] at hbad); omega); rfl) | (rw [if_neg (by (try simp only [ByteArray.size_append]); omega)]; rfl)
      simp only [List.getElem_toArray, List.getElem_cons_zero, List.getElem_cons_succ, Act.put, List.setIfInBounds_toArray, List.set_cons_zero, List.set_cons_succ]
      refine wpAnyH_take (i := 5) (v := .string ((wordB xb ++ (⟨#[58, 32]⟩ : ByteArray)) ++ xs)) rfl (by kernel_rfl) (by kernel_rfl) (by kernel_rfl) (fun _ _ _ h => h) (Or.inl ⟨by rfl, ?_⟩) hSS ?_
      · intro wz hSz
        go_simp
        first | omega | (refine ⟨by omega, rfl⟩) | (split; (exfalso; rename_i hbad; (try simp only [ByteArray.size_append] at hbad); omega); rfl) | (rw [if_neg (by (try simp only [ByteArray.size_append]); omega)]; rfl)
      simp only [List.getElem_toArray, List.getElem_cons_zero, List.getElem_cons_succ, Act.put, List.setIfInBounds_toArray, List.set_cons_zero, List.set_cons_succ]
      refine wpAnyH_take (i := 6) (v := .string (noteT (xb, xs))) rfl (by kernel_rfl) (by kernel_rfl) (by kernel_rfl) (fun _ _ _ h => h) (Or.inl ⟨by rfl, ?_⟩) hSS ?_
      · intro wz hSz
        go_simp
        first | omega | (refine ⟨by omega, rfl⟩) | (split; (exfalso; rename_i hbad; (try simp only [ByteArray.size_append] at hbad); omega); rfl) | (rw [if_neg (by (try simp only [ByteArray.size_append]); omega)]; rfl)
      simp only [List.getElem_toArray, List.getElem_cons_zero, List.getElem_cons_succ, Act.put, List.setIfInBounds_toArray, List.set_cons_zero, List.set_cons_succ]
      refine wpAnyH_ready (rs := [7]) (by kernel_rfl) (by simp) (AllReadyH.cons rfl (fun K hK => ?_) AllReadyH.nil)
      go_simp
      go_at_call 28
      refine (ws_has hbl4 (noteT (xb, xs)) (by omega) hbb4.size).mono ?_
      rintro e w5 ⟨rfl, hbl5, hb5, hk5⟩
      go_simp
      have hX5 := hk5.2 _ _ hX4 (hbl4.neN hX4) (fun _ _ e => by injection e with _ e; exact absurd e (by decide))
      have hbb5 := hbb4.trans hb5
      refine hK.out _ _ hX5 (fun hSS => ?_)
      clear hK
      refine wpAnyH_done (by kernel_rfl) ?_ _
      have hsn5 : (linesT (l.take k) ++ (noteT (xb, xs)).data.toList).length ≤ 310 * (k + 1) := by
        rw [List.length_append, Array.length_toList]
        show (linesT (l.take k)).length + (noteT (xb, xs)).size ≤ _
        omega
      rw [← hsn] at hsn5 hbl5
      go_wp2_with fail
      go_roundw
      case rel => exact ⟨k + 1, by omega, by go_num, hbl5, hsn5, hbb5⟩
      case measure => simp [intOf]; omega
    · have hkl : k = l.length := by omega
      subst hkl
      rw [List.take_length] at hbl
      have CS : Hid (Calls Try.prog 29 #[.pointer (some ⟨W.heap.size, 0, none⟩)] wr fun e w' => e = .returned (.string ⟨(linesT l).toArray⟩) ∧ Below W.heap.size W w') := by
        refine (str_has hbl hb.size).mono ?_
        rintro e w' ⟨rfl, h1⟩
        exact ⟨rfl, hb.trans h1⟩
      clear hbl hin hb
      go_wp2_with fail
      refine CS.out.mono ?_
      rintro e w6 ⟨rfl, hb6⟩
      go_wp2_with fail
      go_ret
      exact ⟨rfl, hb6⟩
end Go.Proofs.Ytgknefpefeghcaa
