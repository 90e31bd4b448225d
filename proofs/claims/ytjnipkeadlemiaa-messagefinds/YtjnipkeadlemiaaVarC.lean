/- Append to no bytes, in short. Condition: the number is a uint64. -/
import Derived.Test.YtjnipkeadlemiaaVarB
import Derived.OpenShut
namespace Go.Proofs.Ytjnipkeadlemiaa
open Go.RowKit Go.ChangeShapes
set_option maxRecDepth 100000 in
theorem append_nil (n : Int) (w : World) (h0 : 0 ≤ n) (h1 : n < 18446744073709551616) : Calls Try.prog 111 #[.slice none 0 0, .int .u64 n] w fun e w' =>
    e = .returned (.slice (some ⟨w.heap.size, 0, none⟩) (enc n).length (enc n).length) ∧ Row w' (some ⟨w.heap.size, 0, none⟩) (enc n) ∧ Below w.heap.size w w' := by
  refine (append_any none [] 0 n w (Row.nil _ _) (fun _ => ⟨rfl, rfl⟩) (by simp) h0 h1).mono ?_
  rintro e w' ⟨he, hown, hb⟩
  simp only [List.length_nil, Nat.zero_add, List.nil_append] at he hown
  exact ⟨he, Row.own (enc_byte n h0) rfl hown, hb⟩
set_option maxRecDepth 100000 in
/-- The world behind is the one before, but for new blocks and draws. -/
theorem Below.drewN' {B : Nat} {a w : World} (h : Below B a w) (n : Nat) : Below B a (w.drewN n) := ⟨h.os, h.tape, h.output, h.size, h.block⟩
set_option maxRecDepth 100000 in
theorem u64_of_wf {n : Int} (h : (Lit.int .u64 n).wf = true) : 0 ≤ n ∧ n < 18446744073709551616 := by
  have := bounds_u64 h
  omega
set_option maxRecDepth 100000 in
theorem i64_of_wf {n : Int} (h : (Lit.int .i64 n).wf = true) : -9223372036854775808 ≤ n ∧ n ≤ 9223372036854775807 := by
  have := bounds_i64 h
  omega
end Go.Proofs.Ytjnipkeadlemiaa
