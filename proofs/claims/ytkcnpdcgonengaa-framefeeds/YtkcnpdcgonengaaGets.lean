/- What Buffered, Fault, Need and Total tell of an assembler, and of none; what Feed answers where it takes nothing. Conditions: the number that what is held begins with, if it is one, is at most 4096. -/
import Derived.Test.YtkcnpdcgonengaaAsm
namespace Go.Proofs.Ytkcnpdcgonengaa
open Go.RowKit

/-- How many bytes lack. -/
def needI (H : List Int) : Int := if H = [] then 0 else if (rd H).2.2 ≠ 0 then 1 else (rd H).2.1 + (rd H).1 - H.length

set_option maxRecDepth 100000 in
theorem buf_nil (w : World) : Calls Try.prog 23 #[.pointer none] w fun e w' => e = .returned (.int .i64 0) ∧ w = w' := by
  go_enter Try.func23, Try.ntmps23
  go_wp2
  go_ret
  exact ⟨rfl, rfl⟩
set_option maxRecDepth 100000 in
theorem fault_nil (w : World) : Calls Try.prog 22 #[.pointer none] w fun e w' => e = .returned (.int .i64 11) ∧ w = w' := by
  go_enter Try.func22, Try.ntmps22
  go_wp2
  go_ret
  exact ⟨rfl, rfl⟩
set_option maxRecDepth 100000 in
theorem need_nil (w : World) : Calls Try.prog 24 #[.pointer none] w fun e w' => e = .returned (.int .i64 0) ∧ w = w' := by
  go_enter Try.func24, Try.ntmps24
  go_wp2
  go_ret
  exact ⟨rfl, rfl⟩
set_option maxRecDepth 100000 in
theorem total_nil (w : World) : Calls Try.prog 27 #[.pointer none] w fun e w' => e = .returned (.int .i64 0) ∧ w = w' := by
  go_enter Try.func27, Try.ntmps27
  go_wp2
  go_ret
  exact ⟨rfl, rfl⟩
set_option maxRecDepth 100000 in
theorem feed_nil (a : Option Addr) (n c : Nat) (w : World) : Calls Try.prog 21 #[.pointer none, .slice a n c] w fun e w' => e = .returned (.tuple #[.slice none 0 0, .int .i64 11]) ∧ Below w.heap.size w w' := by
  go_enter Try.func21, Try.ntmps21
  go_wp2
  go_ret2
  exact ⟨rfl, (Below.refl _ _).alloc (Nat.le_refl _) _⟩

section
variable {A base : Nat} {v : Value} {H : List Int} {L f t : Int} {w : World}
set_option maxRecDepth 100000 in
theorem feed_no (h : Asm w A base v H L f t) (hf : f ≠ 0) (a : Option Addr) (n c : Nat) : Calls Try.prog 21 #[.pointer (some ⟨A, 0, none⟩), .slice a n c] w fun e w' => e = .returned (.tuple #[.slice none 0 0, .int .i64 11]) ∧ Below w.heap.size w w' := by
  obtain ⟨-, -, c2, -⟩ := h.cells
  have hlt := h.lt
  have hf' : (f != 0) = true := by simpa using hf
  go_enter Try.func21, Try.ntmps21
  go_wp2
  go_ret2
  exact ⟨rfl, (Below.refl _ _).alloc (Nat.le_refl _) _⟩
set_option maxRecDepth 100000 in
theorem buf_any (h : Asm w A base v H L f t) : Calls Try.prog 23 #[.pointer (some ⟨A, 0, none⟩)] w fun e w' => e = .returned (.int .i64 H.length) ∧ w = w' := by
  obtain ⟨c0, -, -, -⟩ := h.cells
  obtain ⟨va, vc, hv, -⟩ := own_view h.own h.byt
  subst hv
  have hlt := h.lt
  go_enter Try.func23, Try.ntmps23
  go_wp2
  go_ret
  exact ⟨rfl, rfl⟩
set_option maxRecDepth 100000 in
theorem fault_any (h : Asm w A base v H L f t) : Calls Try.prog 22 #[.pointer (some ⟨A, 0, none⟩)] w fun e w' => e = .returned (.int .i64 f) ∧ w = w' := by
  obtain ⟨-, -, c2, -⟩ := h.cells
  have hlt := h.lt
  go_enter Try.func22, Try.ntmps22
  go_wp2
  go_ret
  exact ⟨rfl, rfl⟩
set_option maxRecDepth 100000 in
theorem total_any (h : Asm w A base v H L f t) : Calls Try.prog 27 #[.pointer (some ⟨A, 0, none⟩)] w fun e w' => e = .returned (.int .i64 t) ∧ w = w' := by
  obtain ⟨-, -, -, c3⟩ := h.cells
  have hlt := h.lt
  go_enter Try.func27, Try.ntmps27
  go_wp2
  go_ret
  exact ⟨rfl, rfl⟩
set_option maxRecDepth 100000 in
theorem lacks_any (h : Asm w A base v H L f t) (hlen : H.length ≤ 35184372088832) (hn : (rd H).2.2 = 0 → (rd H).1 ≤ 4096) : Calls Try.prog 71 #[.pointer (some ⟨A, 0, none⟩)] w fun e w' => e = .returned (.int .i64 (needI H)) ∧ w = w' := by
  obtain ⟨c0, -, -, -⟩ := h.cells
  obtain ⟨va, vc, hv, -, hrow, -⟩ := own_view h.own h.byt
  subst hv
  have hlt := h.lt
  by_cases hz : H = []
  · have E : Hid (needI H = 0) := by show needI H = 0; rw [needI, if_pos hz]
    have hz' : ((H.length : Int) == 0) = true := by simp [hz]
    go_enter Try.func71, Try.ntmps71
    go_wp2
    go_ret
    exact ⟨ret_int E.out.symm, rfl⟩
  · have hpos : 0 < H.length := List.length_pos_iff.2 hz
    have hz' : ((H.length : Int) == 0) = false := by rw [beq_eq_false_iff_ne]; omega
    have CR : Hid (∀ W, Row W va H → Calls Try.prog 114 #[.slice va H.length vc] W fun e w' => e = .returned (.tuple #[.int .u64 (rd H).1, .int .i64 (rd H).2.1, .int .i64 (rd H).2.2]) ∧ W = w') := fun W h => read_any va H vc W h (by omega)
    by_cases h0 : (rd H).2.2 = 0
    · obtain ⟨a1, a2, a3, a4, a5⟩ := rd_size H h.byt h0
      have hn' := hn h0
      have E : Hid (needI H = (rd H).2.1 + (rd H).1 - H.length) := by show needI H = _; rw [needI, if_neg hz, if_neg (by omega)]
      clear hn h
      generalize rd H = q at *
      obtain ⟨n, s, e⟩ := q
      simp only at h0 a1 a2 a3 a4 a5 hn'
      subst h0
      go_enter Try.func71, Try.ntmps71
      go_wp2_with fail
      refine (CR.out _ hrow).mono ?_
      rintro e w1 ⟨rfl, rfl⟩
      go_wp2
      go_ret
      exact ⟨ret_int E.out.symm, rfl⟩
    · have E : Hid (needI H = 1) := by show needI H = _; rw [needI, if_neg hz, if_pos h0]
      have hne : ((rd H).2.2 != 0) = true := by simpa using h0
      clear hn h h0
      generalize rd H = q at *
      obtain ⟨n, s, e⟩ := q
      simp only at hne
      go_enter Try.func71, Try.ntmps71
      go_wp2_with fail
      refine (CR.out _ hrow).mono ?_
      rintro e w1 ⟨rfl, rfl⟩
      go_wp2
      go_ret
      exact ⟨ret_int E.out.symm, rfl⟩
set_option maxRecDepth 100000 in
theorem need_any (h : Asm w A base v H L f t) (hlen : H.length ≤ 35184372088832) (hn : (rd H).2.2 = 0 → (rd H).1 ≤ 4096) : Calls Try.prog 24 #[.pointer (some ⟨A, 0, none⟩)] w fun e w' => e = .returned (.int .i64 (needI H)) ∧ w = w' := by
  have CL : Hid (Calls Try.prog 71 #[.pointer (some ⟨A, 0, none⟩)] w fun e w' => e = .returned (.int .i64 (needI H)) ∧ w = w') := lacks_any h hlen hn
  have hlt := h.lt
  clear h hn
  go_enter Try.func24, Try.ntmps24
  go_wp2_with fail
  refine CL.out.mono ?_
  rintro e w1 ⟨rfl, rfl⟩
  go_wp2
  go_ret
  exact ⟨rfl, rfl⟩
end
end Go.Proofs.Ytkcnpdcgonengaa
