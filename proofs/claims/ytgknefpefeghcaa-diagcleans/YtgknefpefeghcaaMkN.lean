/- The document's example of layer 11: awake answers true. No conditions. -/
import Derived.Test.YtgknefpefeghcaaMkK
import Derived.Test.YtgknefpefeghcaaMkM
namespace Go.Proofs.Ytgknefpefeghcaa
open Go.RowKit

set_option maxRecDepth 100000 in
theorem strs_one (w : World) (s : ByteArray) : StrsIn (w.alloc (.cells #[.string s] 9)) (some ⟨w.heap.size, 0, none⟩) 1 [s] := by
  refine ⟨(fun h => by cases h), Nat.le_refl _, fun _ => ⟨w.heap.size, 0, rfl, fun j hj => ?_⟩⟩
  obtain rfl : j = 0 := by simp at hj; omega
  exact cell_of_row _ _ 0 _ _ _ (heap_alloc_new _ _)
set_option maxRecDepth 100000 in
set_option maxHeartbeats 1600000 in
theorem awake11_any (w : World) : Calls Try.prog 8 #[] w fun e w' => e = .returned (.bool true) ∧ Below w.heap.size w w' := by
  have CC : Hid (∀ W, Calls Try.prog 9 #[.string kpA, .slice (some ⟨W.heap.size, 0, none⟩) 1 1] (W.alloc (.cells #[.string pwA] 9)) fun e w' => e = .returned (.string ksA) ∧ Below W.heap.size W w') := fun W => by
    refine (mclean_any (l := [pwA]) kpA (strs_one W pwA) (by decide) (by decide) (by decide)).mono ?_
    rintro e w' ⟨⟨c, rfl, hc⟩, hb⟩
    rw [clean_aw] at hc
    obtain rfl := bsI_inj hc
    exact ⟨rfl, ((Below.refl _ W).alloc (Nat.le_refl _) _).trans (hb.mono (by simp))⟩
  have CK : Hid (∀ W, Calls Try.prog 11 #[.string kpA, .slice (some ⟨W.heap.size, 0, none⟩) 1 1] (W.alloc (.cells #[.string pwA] 9)) fun e w' => e = .returned (.bool true) ∧ Below W.heap.size W w') := fun W => by
    refine (leaks_any (l := [pwA]) kpA (strs_one W pwA) (by decide) (by decide) (by decide)).mono ?_
    rintro e w' ⟨rfl, hb⟩
    rw [leaks_aw]
    exact ⟨rfl, ((Below.refl _ W).alloc (Nat.le_refl _) _).trans (hb.mono (by simp))⟩
  unfold kpA pwA ksA at CC
  unfold kpA pwA at CK
  go_enter Try.func8, Try.ntmps8
  go_wp2_with fail
  refine (CC.out _).mono ?_
  rintro e w1 ⟨rfl, hb1⟩
  go_wp2_with fail
  refine (CK.out _).mono ?_
  rintro e w2 ⟨rfl, hb2⟩
  have hb2 := hb1.trans (hb2.mono hb1.size)
  go_wp2_with fail
  refine (later_any _).mono ?_
  rintro e w3 ⟨rfl, hb3⟩
  have hb3 := hb2.trans (hb3.mono hb2.size)
  go_wp2_with fail
  refine (unknown_later _).mono ?_
  rintro e w4 ⟨⟨a, c, rfl⟩, hb4⟩
  have hb4 := hb3.trans (hb4.mono hb3.size)
  go_wp2_with fail
  go_ret
  exact ⟨rfl, hb4⟩
end Go.Proofs.Ytgknefpefeghcaa
