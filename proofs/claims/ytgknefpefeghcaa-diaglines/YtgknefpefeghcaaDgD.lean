/- DiagLines. No conditions. -/
import Derived.Test.YtgknefpefeghcaaDgC
namespace Go.Proofs.Ytgknefpefeghcaa
open Go.RowKit Go.ChangeShapes Go.WideShapes Go.ChangeAt

def wantT (l : List (Bool × ByteArray)) : ByteArray := ⟨(linesT l).toArray⟩
set_option maxRecDepth 100000 in
theorem want_nil : wantT [] = ⟨#[]⟩ := rfl
set_option maxRecDepth 100000 in
theorem want_size (l : List (Bool × ByteArray)) : (wantT l).size = (linesT l).length := by
  show (linesT l).toArray.size = _
  simp
set_option maxRecDepth 100000 in
theorem want_snoc {l : List (Bool × ByteArray)} {i : Nat} (hi : i < l.length) : wantT (l.take (i + 1)) = wantT (l.take i) ++ noteT l[i] := by
  unfold wantT
  rw [lines_snoc hi]
  apply ByteArray.ext
  apply Array.ext'
  rw [ByteArray.data_append, Array.toList_append]
set_option maxRecDepth 100000 in
theorem app_assoc (a b c : ByteArray) : a ++ (b ++ c) = (a ++ b) ++ c := by
  apply ByteArray.ext
  apply Array.ext'
  simp [ByteArray.data_append, Array.toList_append]
set_option maxRecDepth 100000 in
theorem note_err (a s : ByteArray) : a ++ noteT (true, s) = ((a ++ (⟨#[101, 114, 114, 111, 114, 58, 32]⟩ : ByteArray)) ++ s) ++ (⟨#[10]⟩ : ByteArray) := by
  unfold noteT
  rw [app_assoc, app_assoc]
  rfl
set_option maxRecDepth 100000 in
theorem note_warn (a s : ByteArray) : a ++ noteT (false, s) = ((a ++ (⟨#[119, 97, 114, 110, 105, 110, 103, 58, 32]⟩ : ByteArray)) ++ s) ++ (⟨#[10]⟩ : ByteArray) := by
  unfold noteT
  rw [app_assoc, app_assoc]
  rfl
set_option maxRecDepth 100000 in
set_option maxHeartbeats 1600000 in
theorem lines_walk (p : Option Addr) (l : List (Bool × ByteArray)) (cap : Nat) (W : World) (h : NotesArg W p l.length cap l) :
    Calls Try.prog 7 #[.slice p l.length cap] W fun e w' => e = .returned (.bool true) ∧ Below W.heap.size W w' := by
  have hin := h.hin
  have hlm : l.length ≤ 9223372036854775807 := by
    have h1 := h.hin.hcap
    have h2 := h.hmax
    unfold maxLen at h2
    omega
  clear h
  have CA : Hid (∀ W, Calls Try.prog 14 #[] W fun e w' => e = .returned (.bool true) ∧ Below W.heap.size W w') := awake13_any
  have CG : Hid (Calls Try.prog 13 #[.slice p l.length cap, .slice none 0 0] W fun e w' => GreatTells e l [] ∧ W = w') := great_any (s := []) hin ⟨fun _ => ⟨rfl, rfl⟩, Nat.le_refl _, fun h => absurd rfl h⟩ hlm (by simp)
  go_enter Try.func7, Try.ntmps7
  go_wp2_with fail
  refine CG.out.mono ?_
  rintro e w0 ⟨⟨g, rfl, hg⟩, rfl⟩
  clear CG
  cases g with
  | true =>
    clear hg
    go_wp2_with fail
    refine (CA.out _).mono ?_
    rintro e w1 ⟨rfl, hb⟩
    go_wp2_with fail
    go_ret
    exact ⟨rfl, hb⟩
  | false =>
    obtain ⟨h3, -, hl, -⟩ := hg rfl
    clear hg
    have h3 : Hid (∀ x ∈ l, x.2.size ≤ 300) := h3
    go_wp2_with fail
    refine (CA.out _).mono ?_
    rintro e w1 ⟨rfl, hb1⟩
    have hin1 := hin.below hb1
    clear hin CA hlm
    go_wp2_with fail
    go_loopw [3, 4] (fun s3 s4 wr => ∃ (i : Nat) (t : ByteArray), i ≤ l.length ∧ s3 = .string t ∧ Hid (t = wantT (l.take i)) ∧ t.size ≤ 310 * i ∧ s4 = .int .i64 (i : Int) ∧ wr = w1) (fun _ s4 _ => l.length - (intOf s4).toNat)
    case atStart => exact ⟨0, ⟨#[]⟩, by omega, rfl, (by show _ = _; rw [List.take_zero, want_nil]), by decide, rfl, rfl⟩
    case round =>
      obtain ⟨i, t, hi, rfl, ht, hts, rfl, rfl⟩ := hrel
      by_cases hlt : i < l.length
      · obtain ⟨b, off, rfl, c0, c1, hbl⟩ := note_cells hin1 hlt
        have hsz := h3.out _ (List.getElem_mem hlt)
        have hsn := want_snoc hlt
        rw [← ht.out] at hsn
        generalize l[i] = x at *
        obtain ⟨xb, xs⟩ := x
        simp only at c0 c1 hsz
        have hsa : (⟨#[101, 114, 114, 111, 114, 58, 32]⟩ : ByteArray).size = 7 := rfl
        have hsc : (⟨#[119, 97, 114, 110, 105, 110, 103, 58, 32]⟩ : ByteArray).size = 9 := rfl
        have hsb : (⟨#[10]⟩ : ByteArray).size = 1 := rfl
        cases xb with
        | true =>
          have hsn2 : Hid (((t ++ (⟨#[101, 114, 114, 111, 114, 58, 32]⟩ : ByteArray)) ++ xs) ++ (⟨#[10]⟩ : ByteArray) = wantT (l.take (i + 1))) := by
            show _ = _
            rw [hsn, note_err]
          have hss : (((t ++ (⟨#[101, 114, 114, 111, 114, 58, 32]⟩ : ByteArray)) ++ xs) ++ (⟨#[10]⟩ : ByteArray)).size ≤ 310 * (i + 1) := by
            simp only [ByteArray.size_append, hsa, hsb]; omega
          clear hsn ht
          go_wp2_with fail
          go_roundw
          case rel => exact ⟨i + 1, _, by omega, rfl, hsn2, hss, by go_num, trivial⟩
          case measure => simp [intOf]; omega
        | false =>
          have hsn2 : Hid (((t ++ (⟨#[119, 97, 114, 110, 105, 110, 103, 58, 32]⟩ : ByteArray)) ++ xs) ++ (⟨#[10]⟩ : ByteArray) = wantT (l.take (i + 1))) := by
            show _ = _
            rw [hsn, note_warn]
          have hss : (((t ++ (⟨#[119, 97, 114, 110, 105, 110, 103, 58, 32]⟩ : ByteArray)) ++ xs) ++ (⟨#[10]⟩ : ByteArray)).size ≤ 310 * (i + 1) := by
            simp only [ByteArray.size_append, hsc, hsb]; omega
          clear hsn ht
          go_wp2_with fail
          go_roundw
          case rel => exact ⟨i + 1, _, by omega, rfl, hsn2, hss, by go_num, trivial⟩
          case measure => simp [intOf]; omega
      · have hil : i = l.length := by omega
        subst hil
        rw [List.take_length] at ht
        have CL : Hid (Calls Try.prog 23 #[.slice p l.length cap] wr fun e w' => e = .returned (.string t) ∧ Below wr.heap.size wr w') := by
          rw [ht.out]
          exact lines_any hin1 h3.out hl
        have hbe := strEq (rfl : t = t)
        clear ht hts
        go_wp2_with fail
        refine CL.out.mono ?_
        rintro e w2 ⟨rfl, hb2⟩
        have hb2 := hb1.trans (hb2.mono hb1.size)
        go_wp2_with fail
        go_ret
        exact ⟨by simp, hb2⟩
set_option maxRecDepth 100000 in
theorem diagLines_lifted (os : Os) (started : os.Started) (H : Type) (tok : TypeId × Value → H) :
    ReturnsInHanded {} Try.checked os 7 .any (Rows.diagLinesSpec.pre6 tok Try.prog Try.f7 Rows.diagLinesRow.domain false) (Rows.diagLinesSpec.post tok Try.prog Try.f7 false true false false) := by
  refine returnsInHanded_of_change (C := Try.checked) own_knob started (by kernel_rfl) Try.func7
    (ChangeSpec.witness6 (enc := tok) (C := Try.checked) false ⟨#[], #[.slice none 0 0], []⟩ 8 (by kernel_rfl) (by kernel_rfl) (by kernel_rfl) (by kernel_rfl)) ?_
  intro W base args ds gs before hval0 hW hcnd _
  have hval : ∀ (j : Nat) t v, Try.f7.params[j]? = some t → args[j]? = some v → Value.okWide Try.prog W .any base t v := hval0
  have hW' := hW
  obtain ⟨p, q, hA0, hV, rfl, hfz, hnd⟩ := hW
  have hA : DataW.TrodAll tok Try.prog W 0 (fun _ => true) true Try.f7.params.toList args.toList ds p := hA0
  rw [Try.params7] at hA hval
  obtain ⟨v0, vs0, d0, ds0, p0, q0, hargs, rfl, rfl, h0, r0⟩ := trodAll_cons hA
  obtain ⟨rfl, rfl, rfl⟩ := trodAll_nil r0
  obtain rfl : args = #[v0] := by cases args; simp_all
  obtain ⟨rfl, rfl⟩ := trodVars_none hV
  obtain ⟨a0, len0, cap0, rfl⟩ := okWide_slice Try.underlying28 (hval 0 28 v0 rfl rfl)
  have k0 := h0
  have lt0 : ∀ x ∈ p0, x.block < W.heap.size := by obtain ⟨m, hm⟩ := k0; exact DataW.trod_lt m _ _ _ hm
  obtain ⟨z0, w0⟩ : ∃ zs, NotesArg W a0 len0 cap0 zs := by obtain ⟨fuel, hf⟩ := h0; exact notes_in hf
  obtain rfl := w0.hlen
  clear hA0 hval0
  refine (lines_walk a0 z0 cap0 W w0).mono fun e W' ⟨he, bel⟩ => ?_
  subst he
  exact ⟨_, rfl, _, _, _, [], _, [], hW', trodAll_mk1 (shut_bool Try.underlying4 _), (trodAll_cons_mk (Below.trod laid_out (by kernel_rfl) (of_decide_eq_true (by kernel_rfl)) k0 bel lt0) trodAll_mk0), rfl, bel.frame _, fun h => by cases h⟩

set_option maxRecDepth 100000 in
theorem diagLines_holds : Rows.DiagLinesSaid :=
  OpenClaim.holds_of_wide 7 Try.f7 rfl rfl rfl rfl rfl rfl rfl ⟨rfl, rfl, rfl, rfl, rfl⟩ rfl rfl rfl rfl rfl (by kernel_rfl) Try.func7 (by kernel_rfl)
    (of_decide_eq_true (by kernel_rfl)) (by unfold Func.isWrapper; first | (rw [if_pos (by decide +kernel)]; kernel_rfl) | (rw [if_neg (by decide +kernel)]; exact ⟨rfl, rfl⟩))
    (fun os started H tok _ => diagLines_lifted os started H tok)
#print axioms diagLines_holds
end Go.Proofs.Ytgknefpefeghcaa
