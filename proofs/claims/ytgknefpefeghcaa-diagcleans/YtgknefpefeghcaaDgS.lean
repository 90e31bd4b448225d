/- The law's own clean; Fails of any notes; the law's want in plain mathematics. Conditions: the notes and the secrets lie in memory, and are not too long. -/
import Derived.Test.YtgknefpefeghcaaDgP
import Derived.Test.YtgknefpefeghcaaDgQ
namespace Go.Proofs.Ytgknefpefeghcaa
open Go.RowKit

set_option maxRecDepth 100000 in
theorem ext_one {c : ByteArray} {i : Nat} (hi : i < c.data.size) : c.extract i (i + 1) = ⟨#[c.data[i]]⟩ := by
  apply ByteArray.ext
  apply Array.ext'
  rw [ByteArray.data_extract]
  simp [List.take_one, List.head?_drop]
set_option maxRecDepth 100000 in
theorem plain_snoc {c : ByteArray} {i : Nat} (hi : i < c.data.size) : plainT (c.extract 0 (i + 1)) = plainT (c.extract 0 i) ++ (⟨#[plainB c.data[i]]⟩ : ByteArray) := by
  apply ByteArray.ext
  apply Array.ext'
  rw [ByteArray.data_append, Array.toList_append]
  show ((c.extract 0 (i + 1)).data.toList.map plainB).toArray.toList = ((c.extract 0 i).data.toList.map plainB).toArray.toList ++ [plainB c.data[i]]
  rw [ByteArray.data_extract, ByteArray.data_extract]
  have hi' : i < c.data.toList.length := by simpa using hi
  simp [List.take_succ_eq_append_getElem hi']
set_option maxRecDepth 100000 in
theorem plain_cut (c : ByteArray) : (plainT c).extract 0 77 = plainT (c.extract 0 77) := by
  apply ByteArray.ext
  apply Array.ext'
  rw [ByteArray.data_extract]
  show _ = ((c.extract 0 77).data.toList.map plainB).toArray.toList
  rw [ByteArray.data_extract]
  show ((c.data.toList.map plainB).toArray.extract 0 77).toList = _
  simp [List.map_take]
set_option maxRecDepth 100000 in
theorem ext_all (c : ByteArray) : c.extract 0 c.size = c := by
  apply ByteArray.ext
  rw [ByteArray.data_extract]
  show c.data.extract 0 c.data.size = _
  simp
set_option maxRecDepth 100000 in
theorem textD_none (s : List ByteArray) {T : ByteArray} (h : T.size = 0) : (textD s T).size = 0 := by
  have e : bsI T = [] := List.eq_nil_of_length_eq_zero (by rw [bsI_len]; exact h)
  unfold textD
  rw [e, clean_nil]
  rfl
/-- The law's want, note by note. -/
def wantGo (s : List ByteArray) : List (Bool × ByteArray) → List (Bool × ByteArray) → List (Bool × ByteArray)
  | [], out => out
  | n :: r, out => wantGo s r (if (textD s n.2).size ≠ 0 ∧ out.length < 8 ∧ memN (n.1, textD s n.2) out = false then out ++ [(n.1, textD s n.2)] else out)
set_option maxRecDepth 100000 in
theorem want_full (s : List ByteArray) : ∀ (l out : List (Bool × ByteArray)), out.length = 8 → wantGo s l out = out
  | [], out, _ => rfl
  | n :: r, out, h => by
    rw [wantGo, if_neg (by omega)]
    exact want_full s r out h
set_option maxRecDepth 100000 in
theorem want_clean (s : List ByteArray) : ∀ (l seen out : List (Bool × ByteArray)), (∀ n ∈ seen, memN (n.1, textD s n.2) out = true) → out.length ≤ 8 → wantGo s l out = cleanGo s l seen out
  | [], seen, out, _, _ => rfl
  | n :: r, seen, out, h, h8 => by
    by_cases hk : memN n seen = true ∨ n.2.size = 0
    · rw [go_skip hk, wantGo, if_neg]
      · exact want_clean s r seen out h h8
      · rintro ⟨a1, a2, a3⟩
        rcases hk with hk | hk
        · rw [h n ((memN_iff _ _).1 hk)] at a3; cases a3
        · exact a1 (textD_none s hk)
    · by_cases h9 : out.length = 8
      · rw [go_full hk h9]
        exact want_full s _ out h9
      · by_cases hm : memN (n.1, textD s n.2) out = true
        · rw [go_old hk h9 hm, wantGo, if_neg (fun ⟨_, _, a3⟩ => by rw [hm] at a3; cases a3)]
          refine want_clean s r (n :: seen) out (fun x hx => ?_) h8
          rcases List.mem_cons.1 hx with rfl | hx
          · exact hm
          · exact h x hx
        · have hg := textD_good (s := s) (T := n.2) (fun e => hk (Or.inr e))
          rw [go_new hk h9 hm, wantGo, if_pos ⟨hg.2.2, by omega, by simpa using hm⟩]
          refine want_clean s r (n :: seen) _ (fun x hx => ?_) (by simp; omega)
          rcases List.mem_cons.1 hx with rfl | hx
          · exact (memN_iff _ _).2 (by simp)
          · exact (memN_iff _ _).2 (List.mem_append_left _ ((memN_iff _ _).1 (h x hx)))
set_option maxRecDepth 100000 in
set_option maxHeartbeats 1600000 in
theorem lclean_any {W : World} {p : Option Addr} {cp : Nat} {s : List ByteArray} (T : ByteArray) (h : StrsIn W p cp s) (hT : T.size ≤ 300) (hl : s.length ≤ 20) (hs : ∀ x ∈ s, x.size ≤ 100) :
    Calls Try.prog 15 #[.string T, .slice p s.length cp] W fun e w' => e = .returned (.string (textD s T)) ∧ Below W.heap.size W w' := by
  have CR : Hid (Calls Try.prog 10 #[.string T, .slice p s.length cp] W fun e w' => (∃ c : ByteArray, e = .returned (.string c) ∧ bsI c = cleanS (sec s) (bsI T)) ∧ Below W.heap.size W w') := rclean_any T h (by omega) (by omega) (fun x hx => Nat.le_trans (hs x hx) (by omega))
  go_enter Try.func15, Try.ntmps15
  go_wp2_with fail
  refine CR.out.mono ?_
  rintro e w1 ⟨⟨c, rfl, hc⟩, hb⟩
  clear CR
  have hcs : c.size ≤ 3 * T.size := by
    have := clean_size (sec s) _ (bsI T) (Nat.le_refl _)
    rw [← hc, bsI_len, bsI_len] at this
    exact this
  have hans : Hid (textD s T = textB c) := (textD_of hc).symm
  clear hc
  go_wp2_with fail
  go_loopw [6, 7] (fun s6 s7 wr => ∃ (i : Nat) (o : ByteArray), i ≤ c.size ∧ s6 = .string o ∧ s7 = .int .i64 (i : Int) ∧ Hid (o = plainT (c.extract 0 i)) ∧ o.size = i ∧ wr = w1) (fun _ s7 _ => c.size - (intOf s7).toNat)
  case atStart => exact ⟨0, ⟨#[]⟩, by omega, rfl, rfl, (by show _ = _; rw [show c.extract 0 0 = ByteArray.empty by apply ByteArray.ext; rw [ByteArray.data_extract]; simp]; rfl), rfl, rfl⟩
  case round =>
    obtain ⟨i, o, hi, rfl, rfl, ho, hos, rfl⟩ := hrel
    by_cases hlt : i < c.size
    · have hld : i < c.data.size := hlt
      have hsn := plain_snoc hld
      have hone := ext_one hld
      rw [← ho.out] at hsn
      have hget : c[i] = c.data[i] := rfl
      rw [← hget] at hsn hone
      by_cases hq : c[i].toNat < 32 ∨ 126 < c[i].toNat
      · have ho2 : Hid (o ++ (⟨#[63]⟩ : ByteArray) = plainT (c.extract 0 (i + 1))) := by
          show _ = _
          rw [hsn]
          unfold plainB
          rw [if_pos hq]
        have hos2 : (o ++ (⟨#[63]⟩ : ByteArray)).size = i + 1 := by
          rw [ByteArray.size_append, hos]; rfl
        clear ho hsn hone hget
        by_cases h1 : c[i].toNat < 32
        · have h1i : ((c[i].toNat : Nat) : Int) < 32 := by omega
          go_wp2_with fail
          go_roundw
          case rel => exact ⟨i + 1, _, by omega, rfl, by go_num, ho2, hos2, trivial⟩
          case measure => simp [intOf]; omega
        · have h1i : ¬ ((c[i].toNat : Nat) : Int) < 32 := by omega
          have h2i : 126 < ((c[i].toNat : Nat) : Int) := by omega
          go_wp2_with fail
          go_roundw
          case rel => exact ⟨i + 1, _, by omega, rfl, by go_num, ho2, hos2, trivial⟩
          case measure => simp [intOf]; omega
      · have ho2 : Hid (o ++ c.extract i (i + 1) = plainT (c.extract 0 (i + 1))) := by
          show _ = _
          rw [hsn, hone]
          unfold plainB
          rw [if_neg hq]
        have hx1 : (c.extract i (i + 1)).size = 1 := by rw [hone]; rfl
        have hos2 : (o ++ c.extract i (i + 1)).size = i + 1 := by
          rw [ByteArray.size_append, hos, hx1]
        have h1i : 32 ≤ ((c[i].toNat : Nat) : Int) := by omega
        have h2i : ((c[i].toNat : Nat) : Int) ≤ 126 := by omega
        clear ho hsn hone hget
        go_wp2_with fail
        go_roundw
        case rel => exact ⟨i + 1, _, by omega, rfl, by go_num, ho2, hos2, trivial⟩
        case measure => simp [intOf]; omega
    · have hin : i = c.size := by omega
      subst hin
      have ho := ho.out
      rw [ext_all] at ho
      have hans := hans.out
      unfold textB at hans
      by_cases h80 : 80 < c.size
      · rw [if_pos h80, ← plain_cut, ← ho] at hans
        have hans : Hid (textD s T = o.extract 0 77 ++ (⟨#[46, 46, 46]⟩ : ByteArray)) := hans
        have hx : (o.extract 0 77).size = 77 := by rw [ByteArray.size_extract]; omega
        clear ho
        go_wp2_with fail
        go_ret
        exact ⟨by rw [hans.out]; rfl, hb⟩
      · rw [if_neg h80, ← ho] at hans
        have hans : Hid (textD s T = o) := hans
        clear ho
        go_wp2_with fail
        go_ret
        exact ⟨by rw [hans.out]; rfl, hb⟩
set_option maxRecDepth 100000 in
set_option maxHeartbeats 1600000 in
theorem fidx_any {W : World} {a : Option Addr} {cap : Nat} {l : List (Bool × ByteArray)} (h : NotesIn W a cap l) (hl : l.length ≤ 100000) :
    Calls Try.prog 58 #[.slice a l.length cap, .func (.func 33) #[] #[]] W fun e w' => (∃ i : Int, e = .returned (.int .i64 i) ∧ Hid (0 ≤ i ↔ ∃ x ∈ l, x.1 = true)) ∧ Below W.heap.size W w' := by
  go_enter Try.func58, Try.ntmps58
  go_wp2_with fail
  go_loopw [8] (fun s8 wr => ∃ k : Nat, k ≤ l.length ∧ s8 = .int .i64 (k : Int) ∧ Hid (∀ x ∈ l.take k, x.1 = false) ∧ Below W.heap.size W wr) (fun s8 _ => l.length - (intOf s8).toNat)
  case atStart => exact ⟨0, by omega, rfl, (fun x hx => by simp at hx), Below.refl _ _⟩
  case round =>
    obtain ⟨k, hk, rfl, hno, hb⟩ := hrel
    have hin := h.below hb
    by_cases hlt : k < l.length
    · obtain ⟨b, off, rfl, c0, c1, hbl⟩ := note_cells hin hlt
      have hmem := List.getElem_mem hlt
      have htk : l.take (k + 1) = l.take k ++ [l[k]] := List.take_succ_eq_append_getElem hlt
      generalize l[k] = x at *
      obtain ⟨xb, xs⟩ := x
      simp only at c0 c1
      go_wp2_with fail
      refine (clo_any xb xs _).mono ?_
      rintro e w1 ⟨rfl, hb1⟩
      have hb2 := hb.trans (hb1.mono hb.size)
      cases xb with
      | true =>
        have hyes : Hid (0 ≤ (k : Int) ↔ ∃ x ∈ l, x.1 = true) := ⟨fun _ => ⟨_, hmem, rfl⟩, fun _ => by omega⟩
        clear hb hb1 hno hin
        go_wp2_with fail
        go_ret
        exact ⟨⟨_, rfl, hyes⟩, hb2⟩
      | false =>
        have hno2 : Hid (∀ x ∈ l.take (k + 1), x.1 = false) := by
          intro x hx
          rw [htk, List.mem_append] at hx
          rcases hx with hx | hx
          · exact hno.out x hx
          · simp only [List.mem_singleton] at hx; subst hx; rfl
        clear hb hb1 hno hin htk
        go_wp2_with fail
        go_roundw
        case rel => exact ⟨k + 1, by omega, by go_num, hno2, hb2⟩
        case measure => simp [intOf]; omega
    · have hkn : k = l.length := by omega
      subst hkn
      rw [List.take_length] at hno
      have hnone : Hid (0 ≤ (-1 : Int) ↔ ∃ x ∈ l, x.1 = true) := ⟨fun h => by omega, fun ⟨x, hx, h1⟩ => by rw [hno.out x hx] at h1; cases h1⟩
      clear hno
      go_wp2_with fail
      go_ret
      exact ⟨⟨_, rfl, hnone⟩, hb⟩
set_option maxRecDepth 100000 in
theorem nfails_any {W : World} {a : Option Addr} {cap : Nat} {l : List (Bool × ByteArray)} (h : NotesIn W a cap l) (hl : l.length ≤ 100000) :
    Calls Try.prog 17 #[.slice a l.length cap] W fun e w' => (∃ t : Int, e = .returned (.bool (decide (0 ≤ t))) ∧ Hid (0 ≤ t ↔ ∃ x ∈ l, x.1 = true)) ∧ Below W.heap.size W w' := by
  have CC : Hid (Calls Try.prog 32 #[.slice a l.length cap, .func (.func 33) #[] #[]] W fun e w' => (∃ t : Int, e = .returned (.bool (decide (0 ≤ t))) ∧ Hid (0 ≤ t ↔ ∃ x ∈ l, x.1 = true)) ∧ Below W.heap.size W w') := by
    go_enter Try.func32, Try.ntmps32
    go_wp2_with fail
    refine (fidx_any h hl).mono ?_
    rintro e w1 ⟨⟨t, rfl, ht⟩, hb⟩
    go_wp2_with fail
    go_ret
    exact ⟨⟨t, rfl, ht⟩, hb⟩
  go_enter Try.func17, Try.ntmps17
  go_wp2_with fail
  refine CC.out.mono ?_
  rintro e w1 ⟨⟨t, rfl, ht⟩, hb⟩
  go_wp2_with fail
  go_ret
  exact ⟨⟨t, rfl, ht⟩, hb⟩
end Go.Proofs.Ytgknefpefeghcaa
