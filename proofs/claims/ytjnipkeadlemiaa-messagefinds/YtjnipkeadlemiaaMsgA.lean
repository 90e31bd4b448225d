/- What Num, Blob and fresh make. Conditions: the slice shows bytes, fewer than 2^46. -/
import Derived.Test.YtjnipkeadlemiaaApp
import Derived.Test.YtjnipkeadlemiaaVarA
import Derived.Deep.DeepMust
namespace Go.Proofs.Ytjnipkeadlemiaa
open Go.RowKit

set_option maxRecDepth 100000 in
theorem num_any (tag n : Int) (w : World) : Calls Try.prog 43 #[.int .i64 tag, .int .u64 n] w fun e w' =>
    e = .returned (.agg #[.int .i64 tag, .bool false, .int .u64 n, .slice none 0 0]) ∧ Below w.heap.size w w' := by
  go_enter Try.func43, Try.ntmps43
  go_wp2
  exact bodyPost_ret (v := .agg #[.int .i64 tag, .bool false, .int .u64 n, .slice none 0 0]) (by simp [results, Try.results43, go_sem]) rfl ⟨rfl, (Below.refl _ _).alloc (Nat.le_refl _) _⟩

set_option maxRecDepth 100000 in
theorem fresh_any (a : Option Addr) (zs : List Int) (cap : Nat) (w : World) (hr : Row w a zs) (hnil : a = none → zs.length = 0 ∧ cap = 0) (hlen : zs.length ≤ 70368744177664) :
    Calls Try.prog 47 #[.slice a zs.length cap] w fun e w' => ∃ a' cap', e = .returned (.slice a' zs.length cap') ∧ Row w' a' zs ∧ (a' = none → zs.length = 0 ∧ cap' = 0) ∧ zs.length ≤ cap' ∧ cap' ≤ maxLen ∧ (∀ x, a' = some x → w.heap.size ≤ x.block) ∧ Below w.heap.size w w' := by
  go_enter Try.func47, Try.ntmps47
  go_wp2_with (at_builtin; go_must (refine wpList_append_bytes rfl (.tmp 3) (.tmp 4) rfl w.heap.size _ 0 [] rfl (World.ownsRow_lit w #[] 0 (Nat.le_refl _) (by simp [maxLen]) rfl) a zs zs.length cap rfl rfl (hr.alloc _) hnil (by omega) (by simp) ?_; intro v1 w1 hown1 hgrow1))
  simp only [Nat.zero_add, List.nil_append] at hown1
  have hb1 : Below w.heap.size w w1 := below_own ((Below.refl _ _).alloc (Nat.le_refl _) _) (World.ownsRow_lit w #[] 0 (Nat.le_refl _) (by simp [maxLen]) rfl) (by simp) hgrow1
  obtain ⟨a1, c1, hv1, -, h1, h2, h3, h4, h5⟩ := own_view' hown1 hr.byte
  subst hv1
  go_ret
  exact ⟨a1, c1, rfl, h1, h2, h3, h4, h5, hb1⟩

set_option maxRecDepth 100000 in
theorem blob_any (tag : Int) (a : Option Addr) (zs : List Int) (cap : Nat) (w : World) (hr : Row w a zs) (hnil : a = none → zs.length = 0 ∧ cap = 0) (hlen : zs.length ≤ 70368744177664) :
    Calls Try.prog 113 #[.int .i64 tag, .slice a zs.length cap] w fun e w' => ∃ a' cap', e = .returned (.agg #[.int .i64 tag, .bool true, .int .u64 0, .slice a' zs.length cap']) ∧ Row w' a' zs ∧ (a' = none → zs.length = 0 ∧ cap' = 0) ∧ zs.length ≤ cap' ∧ cap' ≤ maxLen ∧ (∀ x, a' = some x → w.heap.size ≤ x.block) ∧ Below w.heap.size w w' := by
  go_enter Try.func113, Try.ntmps113
  go_wp2_with fail
  refine (fresh_any a zs cap _ (hr.alloc _) hnil hlen).mono ?_
  rintro e w1 ⟨a1, c1, rfl, h1, h2, h3, h4, h5, hb1⟩
  obtain ⟨hc, hf⟩ := bcell hb1
  have hne : ∀ x, a1 = some x → x.block ≠ w.heap.size := fun x hx => by have := h5 x hx; simp at this; omega
  go_wp2
  refine bodyPost_ret (v := .agg #[.int .i64 tag, .bool true, .int .u64 0, .slice a1 zs.length c1]) (by simp [results, Try.results113, go_sem, hc]) rfl ⟨a1, c1, rfl, ?_, h2, h3, h4, fun x hx => ?_, ?_⟩
  · exact (((h1.setCell _ _ hne).setCell _ _ hne).setCell _ _ hne).setCell _ _ hne
  · have := h5 x hx; simp at this; omega
  · exact ((((((Below.refl _ _).alloc (Nat.le_refl _) _).trans (hb1.mono (by simp))).setCell (Nat.le_refl _) _).setCell (Nat.le_refl _) _).setCell (Nat.le_refl _) _).setCell (Nat.le_refl _) _
end Go.Proofs.Ytjnipkeadlemiaa
