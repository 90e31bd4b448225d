/- The document's example of layer 14: awake answers true. No conditions. -/
import Derived.Test.YtjgonfaniincbaaCkN
import Derived.Test.YtjgonfaniincbaaFrame
namespace Go.Proofs.Ytjgonfaniincbaa
open Go.RowKit Go.ChangeShapes Go.WideShapes Go.ChangeAt

set_option maxRecDepth 100000 in
theorem i64_of_wf {n : Int} (h : (Lit.int .i64 n).wf = true) : I64 n := by
  have := bounds_i64 h
  simp only [I64]; omega
set_option maxRecDepth 100000 in
theorem u8_of_wf {n : Int} (h : (Lit.int .u8 n).wf = true) : 0 ≤ n ∧ n ≤ 255 := by
  have := bounds_u8 h
  omega
set_option maxRecDepth 100000 in
theorem set_ok {now : Int} {l : List (Int × ByteArray)} (hok : OkA l) (hl : l.length ≤ 32) (s : ByteArray) (hs : s.size ≤ maxLen) (n : Int) : OkA (setA now l s n) ∧ (setA now l s n).length ≤ 32 := by
  unfold setA
  split
  · exact ⟨hok, hl⟩
  · rename_i h
    obtain ⟨c0, c1⟩ := clp_range (now + clp n)
    refine ⟨hok.put _ _ c0 c1 hs, ?_⟩
    have h1 := (insA_perm (clp (now + clp n), s) (delA s l)).length_eq
    have h2 := delA_len hok.2.1 s
    rw [h1, List.length_cons]
    by_cases hh : hasA l s = true
    · rw [if_pos hh] at h2; omega
    · rw [if_neg hh] at h2
      have h3 : ¬ 32 ≤ l.length := fun g => h (Or.inr ⟨Bool.eq_false_iff.2 hh, g⟩)
      omega
def nmA : ByteArray := ⟨#[97]⟩
def nmB : ByteArray := ⟨#[98]⟩
set_option maxRecDepth 100000 in
theorem lists_aw : setA 0 [] nmB 2 = [(2, nmB)] ∧ setA 0 [(2, nmB)] nmA 2 = [(2, nmA), (2, nmB)] ∧ setE [] nmB 2 = 0 ∧ setE [(2, nmB)] nmA 2 = 0 ∧ clp (0 + clp 2) = 2 ∧ dueA 2 [(2, nmA), (2, nmB)] = [(2, nmA), (2, nmB)] := by
  refine ⟨by decide, by decide, by decide, by decide, by decide, by decide⟩
set_option maxRecDepth 100000 in
set_option maxHeartbeats 1600000 in
theorem awake14_any (w : World) : Calls Try.prog 7 #[] w fun e w' => e = .returned (.bool true) ∧ Below w.heap.size w w' := by
  obtain ⟨a1, a2, a3, a4, a5, a6⟩ := lists_aw
  have s1 : nmA.size ≤ maxLen := by decide
  have s2 : nmB.size ≤ maxLen := by decide
  obtain ⟨k1, n1⟩ := set_ok (now := 0) OkA.nil (by simp) nmB s2 2
  rw [a1] at k1 n1
  obtain ⟨k2, n2⟩ := set_ok (now := 0) k1 n1 nmA s1 2
  rw [a2] at k2 n2
  have CS1 : Hid (∀ W B Mb, w.heap.size ≤ B → w.heap.size ≤ Mb → AlIn W B Mb 0 [] → Calls Try.prog 10 #[.pointer (some ⟨B, 0, none⟩), .string nmB, .int .i64 2] W fun e w' => e = .returned (.int .i64 0) ∧ AlIn w' B Mb 0 [(2, nmB)] ∧ Below w.heap.size W w') := fun W B Mb h1 h2 h => by
    have := set_any h OkA.nil ⟨by omega, by omega⟩ (by simp) nmB s2 2 ⟨by decide, by decide⟩ w.heap.size h2
    rwa [a1, a3] at this
  have CS2 : Hid (∀ W B Mb, w.heap.size ≤ B → w.heap.size ≤ Mb → AlIn W B Mb 0 [(2, nmB)] → Calls Try.prog 10 #[.pointer (some ⟨B, 0, none⟩), .string nmA, .int .i64 2] W fun e w' => e = .returned (.int .i64 0) ∧ AlIn w' B Mb 0 [(2, nmA), (2, nmB)] ∧ Below w.heap.size W w') := fun W B Mb h1 h2 h => by
    have := set_any h k1 ⟨by omega, by omega⟩ n1 nmA s1 2 ⟨by decide, by decide⟩ w.heap.size h2
    rwa [a2, a4] at this
  have CT : Hid (∀ W B Mb, w.heap.size ≤ B → w.heap.size ≤ Mb → AlIn W B Mb 0 [(2, nmA), (2, nmB)] → Calls Try.prog 15 #[.pointer (some ⟨B, 0, none⟩), .int .i64 2] W fun e w' => ∃ v, e = .returned v ∧ w'.ownsRow W.heap.size 9 1 v 2 [.string nmA, .string nmB] ∧ AlIn w' B Mb 2 [] ∧ Below w.heap.size W w') := fun W B Mb h1 h2 h => by
    have := tick_any h k2 n2 ⟨by omega, by omega⟩ 2 (by omega) w.heap.size h1 h2
    rwa [a5, a6] at this
  clear a1 a2 a3 a4 a5 a6 s1 s2 k1 k2 n1 n2
  unfold nmA nmB at CS1 CS2 CT
  go_enter Try.func7, Try.ntmps7
  go_wp2_with fail
  refine (anew_any w).mono ?_
  rintro e w1 ⟨B, Mb, rfl, hB, hM, hA, hb1⟩
  go_wp2_with fail
  refine (CS1.out _ _ _ hB hM hA).mono ?_
  rintro e w2 ⟨rfl, hA2, hb2⟩
  have hb2 := hb1.trans hb2
  clear hA hb1 CS1
  go_wp2_with fail
  refine (CS2.out _ _ _ hB hM hA2).mono ?_
  rintro e w3 ⟨rfl, hA3, hb3⟩
  have hb3 := hb2.trans hb3
  clear hA2 hb2 CS2
  go_wp2_with fail
  refine (CT.out _ _ _ hB hM hA3).mono ?_
  rintro e w4 ⟨v, rfl, hrow, hA4, hb4⟩
  have hb4 := hb3.trans hb4
  clear hA3 hb3 CT
  rcases hrow.2 with ⟨_, h0⟩ | ⟨g, cap, cur, hv, hg, hb, _, _, _, _⟩
  · omega
  · subst hv
    have c0 := hrow.cellAt 0 (by omega)
    have c1 := hrow.cellAt 1 (by omega)
    simp only [List.getElem?_cons_zero, List.getElem?_cons_succ] at c0 c1
    clear hb hrow hg
    go_wp2_with (go_at_call 18; refine (now_any hA4).mono ?_; rintro e w' ⟨rfl, rfl⟩)
    go_ret
    exact ⟨rfl, hb4⟩
end Go.Proofs.Ytjgonfaniincbaa
