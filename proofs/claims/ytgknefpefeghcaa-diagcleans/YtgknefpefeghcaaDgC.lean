/- The document's example of layer 13: awake answers true. No conditions. -/
import Derived.Test.YtgknefpefeghcaaDgB
namespace Go.Proofs.Ytgknefpefeghcaa
open Go.RowKit

set_option maxRecDepth 100000 in
theorem clean_none : ∀ t : List Int, cleanS [] t = t
  | [] => clean_nil _
  | b :: r => by rw [clean_miss (by rfl), clean_none r]
def npA : ByteArray := ⟨#[110, 111, 10, 112, 97, 115, 115]⟩
def nqA : ByteArray := ⟨#[110, 111, 63, 112, 97, 115, 115]⟩
def msA : ByteArray := ⟨#[109, 121, 32, 115, 101, 99, 114, 101, 116]⟩
def mtA : ByteArray := ⟨#[109, 121, 32, 42, 42, 42]⟩
def seA : ByteArray := ⟨#[115, 101, 99, 114, 101, 116]⟩
set_option maxRecDepth 100000 in
theorem sec_se : sec [seA] = [[115, 101, 99, 114, 101, 116]] := by rfl
set_option maxRecDepth 100000 in
theorem bsI_ms : bsI msA = [109, 121, 32, 115, 101, 99, 114, 101, 116] := by rfl
set_option maxRecDepth 100000 in
theorem clean_ms : cleanS (sec [seA]) (bsI msA) = bsI mtA := by
  rw [sec_se, bsI_ms]
  rw [clean_miss (by decide), clean_miss (by decide), clean_miss (by decide), clean_hit (by decide)]
  have e : List.drop (mx [[115, 101, 99, 114, 101, 116]] [115, 101, 99, 114, 101, 116]) [115, 101, 99, 114, 101, 116] = ([] : List Int) := by decide
  rw [e, clean_nil]
  rfl
set_option maxRecDepth 100000 in
theorem text_np : textB npA = nqA := by rfl
set_option maxRecDepth 100000 in
theorem text_mt : textB mtA = mtA := by rfl
set_option maxRecDepth 100000 in
theorem clo_any (b : Bool) (s : ByteArray) (W : World) : Calls Try.prog 33 #[.agg #[.bool b, .string s]] W fun e w' => e = .returned (.bool b) ∧ Below W.heap.size W w' := by
  go_enter Try.func33, Try.ntmps33
  go_wp2_with fail
  go_ret
  exact ⟨rfl, (Below.refl _ _).alloc (Nat.le_refl _) _⟩
set_option maxRecDepth 100000 in
theorem idx_one (W : World) (s : ByteArray) : Calls Try.prog 58 #[.slice (some ⟨W.heap.size, 0, none⟩) 1 1, .func (.func 33) #[] #[]] (W.alloc (.cells #[.bool true, .string s] 31)) fun e w' => e = .returned (.int .i64 0) ∧ Below W.heap.size W w' := by
  have hX := heap_alloc_new W (.cells #[.bool true, .string s] 31)
  have z0 := cell_of_row _ _ 0 _ _ _ hX
  have z1 := cell_of_row _ _ 1 _ _ _ hX
  have hb := (Below.refl W.heap.size W).alloc (Nat.le_refl _) (.cells #[.bool true, .string s] 31)
  have hXk : W.heap.size < (W.alloc (.cells #[.bool true, .string s] 31)).heap.size := by simp
  generalize W.alloc (.cells #[.bool true, .string s] 31) = wx at *
  go_enter Try.func58, Try.ntmps58
  go_wp2_with fail
  refine wp_loop_rounds 1 ?_
  rw [rounds_succ]
  go_wp2_with fail
  refine (clo_any true s _).mono ?_
  rintro e w1 ⟨rfl, hb1⟩
  have hb1 := hb.trans (hb1.mono hb.size)
  go_wp2_with fail
  go_ret
  exact ⟨rfl, hb1⟩
set_option maxRecDepth 100000 in
theorem cont_one (W : World) (s : ByteArray) : Calls Try.prog 32 #[.slice (some ⟨W.heap.size, 0, none⟩) 1 1, .func (.func 33) #[] #[]] (W.alloc (.cells #[.bool true, .string s] 31)) fun e w' => e = .returned (.bool true) ∧ Below W.heap.size W w' := by
  go_enter Try.func32, Try.ntmps32
  go_wp2_with fail
  refine (idx_one W s).mono ?_
  rintro e w1 ⟨rfl, hb⟩
  go_wp2_with fail
  go_ret
  exact ⟨rfl, hb⟩
set_option maxRecDepth 100000 in
theorem fails_one (W : World) (s : ByteArray) : Calls Try.prog 17 #[.slice (some ⟨W.heap.size, 0, none⟩) 1 1] (W.alloc (.cells #[.bool true, .string s] 31)) fun e w' => e = .returned (.bool true) ∧ Below W.heap.size W w' := by
  go_enter Try.func17, Try.ntmps17
  go_wp2_with fail
  refine (cont_one W s).mono ?_
  rintro e w1 ⟨rfl, hb⟩
  go_wp2_with fail
  go_ret
  exact ⟨rfl, hb⟩
set_option maxRecDepth 100000 in
set_option maxHeartbeats 1600000 in
theorem awake13_any (w : World) : Calls Try.prog 14 #[] w fun e w' => e = .returned (.bool true) ∧ Below w.heap.size w w' := by
  have C1 : Hid (∀ W, Calls Try.prog 22 #[.string npA, .slice none 0 0] W fun e w' => e = .returned (.string nqA) ∧ Below W.heap.size W w') := fun W => by
    refine (dtext_any (l := []) npA ⟨fun _ => ⟨rfl, rfl⟩, Nat.le_refl _, fun h => absurd rfl h⟩ (by decide) (by decide) (by decide)).mono ?_
    rintro e w' ⟨⟨c, rfl, hc⟩, hb⟩
    rw [show sec [] = [] by rfl, clean_none] at hc
    obtain rfl := bsI_inj hc
    rw [text_np]
    exact ⟨rfl, hb⟩
  have C2 : Hid (∀ W, Calls Try.prog 22 #[.string msA, .slice (some ⟨W.heap.size, 0, none⟩) 1 1] (W.alloc (.cells #[.string seA] 9)) fun e w' => e = .returned (.string mtA) ∧ Below W.heap.size W w') := fun W => by
    refine (dtext_any (l := [seA]) msA (strs_one W seA) (by decide) (by decide) (by decide)).mono ?_
    rintro e w' ⟨⟨c, rfl, hc⟩, hb⟩
    rw [clean_ms] at hc
    obtain rfl := bsI_inj hc
    rw [text_mt]
    exact ⟨rfl, ((Below.refl _ W).alloc (Nat.le_refl _) _).trans (hb.mono (by simp))⟩
  have C3 : Hid (∀ W s, Calls Try.prog 17 #[.slice (some ⟨W.heap.size, 0, none⟩) 1 1] (W.alloc (.cells #[.bool true, .string s] 31)) fun e w' => e = .returned (.bool true) ∧ Below W.heap.size W w') := fun W s => fails_one W s
  unfold npA nqA at C1
  unfold msA seA mtA at C2
  go_enter Try.func14, Try.ntmps14
  go_wp2_with fail
  refine (C1.out _).mono ?_
  rintro e w1 ⟨rfl, hb1⟩
  go_wp2_with fail
  refine (C2.out _).mono ?_
  rintro e w2 ⟨rfl, hb2⟩
  have hb2 := hb1.trans (hb2.mono hb1.size)
  go_wp2_with fail
  refine (C3.out _ _).mono ?_
  rintro e w3 ⟨rfl, hb3⟩
  have hb3 := hb2.trans (hb3.mono hb2.size)
  go_wp2_with fail
  go_ret
  exact ⟨rfl, hb3⟩
end Go.Proofs.Ytgknefpefeghcaa
