/- What Wrap answers, and Split where the limit is none; what the document's Need answers. Conditions: the slices show bytes, fewer than 2^45; the number that lacks bytes is at most 4096. -/
import Derived.Test.YtkcnpdcgonengaaFrA
import Derived.Test.YtkcnpdcgonengaaVarC
import Derived.Test.YtkcnpdcgonengaaRefC
import Derived.Test.YtkcnpdcgonengaaGets
namespace Go.Proofs.Ytkcnpdcgonengaa
open Go.RowKit

section
variable {a : Option Addr} {zs : List Int} {cap : Nat} {L : Int} {w : World}
set_option maxRecDepth 100000 in
theorem wrap_no (h : mayL L = false) : Calls Try.prog 29 #[.slice a zs.length cap, .int .i64 L] w fun e w' => e = .returned (.tuple #[.slice none 0 0, .int .i64 1]) ∧ w = w' := by
  have CM : Hid (∀ W, Calls Try.prog 67 #[.int .i64 L] W fun e w' => e = .returned (.bool false) ∧ W = w') := fun W => by have := mayL_any L W; rw [h] at this; exact this
  clear h
  go_enter Try.func29, Try.ntmps29
  go_wp2_with fail
  refine (CM.out _).mono ?_
  rintro e w1 ⟨rfl, rfl⟩
  go_wp2
  go_ret2
  exact ⟨rfl, rfl⟩
set_option maxRecDepth 100000 in
theorem wrap_long (h : mayL L = true) (hl : L < zs.length) : Calls Try.prog 29 #[.slice a zs.length cap, .int .i64 L] w fun e w' => e = .returned (.tuple #[.slice none 0 0, .int .i64 3]) ∧ w = w' := by
  have CM : Hid (∀ W, Calls Try.prog 67 #[.int .i64 L] W fun e w' => e = .returned (.bool true) ∧ W = w') := fun W => by have := mayL_any L W; rw [h] at this; exact this
  clear h
  go_enter Try.func29, Try.ntmps29
  go_wp2_with fail
  refine (CM.out _).mono ?_
  rintro e w1 ⟨rfl, rfl⟩
  go_wp2
  go_ret2
  exact ⟨rfl, rfl⟩
set_option maxRecDepth 100000 in
theorem mayL_true (h : mayL L = true) : 0 ≤ L ∧ L ≤ 4096 := by simpa [mayL] using h
set_option maxRecDepth 100000 in
set_option maxHeartbeats 1600000 in
theorem wrap_yes (h : mayL L = true) (hl : (zs.length : Int) ≤ L) (hr : Row w a zs) (hnil : a = none → zs.length = 0 ∧ cap = 0) :
    Calls Try.prog 29 #[.slice a zs.length cap, .int .i64 L] w fun e w' => ∃ va vc, e = .returned (.tuple #[.slice va ((enc zs.length).length + zs.length) vc, .int .i64 0]) ∧ Shown w' va (enc zs.length ++ zs) vc ∧ (∀ x, va = some x → w.heap.size ≤ x.block) ∧ Below w.heap.size w w' := by
  have CM : Hid (∀ W, Calls Try.prog 67 #[.int .i64 L] W fun e w' => e = .returned (.bool true) ∧ W = w') := fun W => by have := mayL_any L W; rw [h] at this; exact this
  have hb := mayL_true h
  have hel := enc_len (zs.length : Int)
  have hn0 : (0 : Int) ≤ zs.length := by omega
  have hn1 : (zs.length : Int) < 18446744073709551616 := by omega
  have CA : Hid (∀ W, Calls Try.prog 73 #[.slice none 0 0, .int .u64 (zs.length : Int)] W fun e w' => e = .returned (.slice (some ⟨W.heap.size, 0, none⟩) (enc zs.length).length (enc zs.length).length) ∧
      w'.ownsRow W.heap.size 5 1 (.slice (some ⟨W.heap.size, 0, none⟩) (enc zs.length).length (enc zs.length).length) (enc zs.length).length ((enc zs.length).map (Value.int .u8)) ∧ Below W.heap.size W w') := fun W => by
    have := append_any none [] 0 (zs.length : Int) W (Row.nil _ _) (fun _ => ⟨rfl, rfl⟩) (by simp) hn0 hn1
    simp only [List.length_nil, Nat.zero_add, List.nil_append] at this
    exact this
  have hlb : (zs.length : Int) ≤ 4096 := by omega
  have hel' : (enc (zs.length : Int)).length + zs.length ≤ 70368744177664 := by omega
  have HEL : Hid ((enc (zs.length : Int)).length + zs.length ≤ 70368744177664) := hel'
  have HN0 : Hid ((0 : Int) ≤ zs.length) := hn0
  clear h hel hel' hn1 hn0 hb
  go_enter Try.func29, Try.ntmps29
  go_wp2_with fail
  refine (CM.out _).mono ?_
  rintro e w1 ⟨rfl, rfl⟩
  go_wp2_with fail
  refine (CA.out _).mono ?_
  rintro e w2 ⟨rfl, hown2, hb2⟩
  have hr2 := hr.below hb2
  have hby : Byt (enc zs.length ++ zs) := Byt.append (enc_byte _ HN0.out) hr.byte
  go_wp2_with (at_builtin; go_must (refine wpList_append_bytes rfl (.tmp 16) (.tmp 17) rfl w.heap.size _ _ _ rfl hown2 a zs zs.length cap rfl rfl hr2 hnil HEL.out hb2.size ?_; intro v3 w3 hown3 hgrow3; rw [← List.map_append] at hown3; obtain ⟨va, vc, hv3, k0, k1, k2, k3, k4, k5⟩ := own_view' hown3 hby; subst hv3))
  go_ret2
  exact ⟨va, vc, rfl, ⟨k1, k2, by rw [k0]; exact k3, k4⟩, k5, below_own hb2 hown2 hb2.size hgrow3⟩
set_option maxRecDepth 100000 in
theorem split_no (h : mayL L = false) : Calls Try.prog 28 #[.slice a zs.length cap, .int .i64 L] w fun e w' => e = .returned (.tuple #[.slice none 0 0, .int .i64 0, .int .i64 1]) ∧ Below w.heap.size w w' := by
  have CM : Hid (∀ W, Calls Try.prog 67 #[.int .i64 L] W fun e w' => e = .returned (.bool false) ∧ W = w') := fun W => by have := mayL_any L W; rw [h] at this; exact this
  clear h
  go_enter Try.func28, Try.ntmps28
  go_wp2_with fail
  refine (CM.out _).mono ?_
  rintro e w1 ⟨rfl, rfl⟩
  go_wp2
  refine bodyPost_ret (v := .tuple #[.slice none 0 0, .int .i64 0, .int .i64 1]) (by simp [results, Try.results28, go_sem]) rfl ⟨rfl, ?_⟩
  exact (((Below.refl _ _).alloc (Nat.le_refl _) _).alloc (by simp) _).alloc (by simp; omega) _
set_option maxRecDepth 100000 in
/-- How many bytes lack, of those from a place on. -/
theorem rneed_any (k : Nat) (hk : k ≤ zs.length) (hr : Row w a zs) (hlc : zs.length ≤ cap) (hlen : zs.length ≤ 1000000) (hn : (rd (zs.drop k)).2.2 = 0 → (rd (zs.drop k)).1 ≤ 4096) :
    Calls Try.prog 26 #[.slice a zs.length cap, .int .i64 (k : Nat)] w fun e w' => e = .returned (.int .i64 (needI (zs.drop k))) ∧ Below w.heap.size w w' := by
  by_cases hz : zs.length ≤ k
  · have E : Hid (needI (zs.drop k) = 0) := by show needI _ = 0; rw [needI, if_pos (List.drop_eq_nil_of_le hz)]
    go_enter Try.func26, Try.ntmps26
    go_wp2
    go_ret
    exact ⟨ret_int E.out.symm, Below.refl _ _⟩
  · have hdne : zs.drop k ≠ [] := by intro e; have := congrArg List.length e; simp at this; omega
    have hbz : Byt (zs.drop k) := Byt.drop hr.byte k
    have hsl := run_cut_l a zs.length cap k (k : Int) rfl hk
    have CR : Hid (∀ W, Row W a zs → Calls Try.prog 72 #[.slice (cutA a cap k) (zs.length - k) (cap - k)] W fun e w' => e = .returned (.tuple #[.int .u64 (rd (zs.drop k)).1, .int .i64 (rd (zs.drop k)).2.1, .int .i64 (rd (zs.drop k)).2.2]) ∧ Below W.heap.size W w') := fun W h => by
      have h1 := cutA_row (cap := cap) k (zs.length - k) hlc W h
      have htk : (zs.drop k).take (zs.length - k) = zs.drop k := List.take_of_length_le (by simp)
      rw [htk] at h1
      have := rread_any (cutA a cap k) (zs.drop k) (cap - k) W h1 (by simp; omega) (by simp; omega)
      rw [List.length_drop] at this; exact this
    have hlt : (k : Int) < (zs.length : Int) := by omega
    by_cases h0 : (rd (zs.drop k)).2.2 = 0
    · obtain ⟨a1, a2, a3, a4, a5⟩ := rd_size _ hbz h0
      have hn' := hn h0
      have E : Hid (needI (zs.drop k) = (rd (zs.drop k)).2.1 + (rd (zs.drop k)).1 - ((zs.length : Int) - k)) := by
        show needI _ = _
        rw [needI, if_neg hdne, if_neg (by omega), List.length_drop]; omega
      clear hn hz
      generalize rd (zs.drop k) = q at *
      obtain ⟨n, s, e⟩ := q
      simp only at h0 a1 a2 a3 a4 a5 hn'
      subst h0
      go_enter Try.func26, Try.ntmps26
      go_wp2_with fail
      refine (CR.out _ hr).mono ?_
      rintro e w1 ⟨rfl, hb1⟩
      clear a2
      go_wp2
      go_ret
      exact ⟨ret_int E.out.symm, hb1⟩
    · have E : Hid (needI (zs.drop k) = 1) := by show needI _ = _; rw [needI, if_neg hdne, if_pos h0]
      have hne : ((rd (zs.drop k)).2.2 != 0) = true := by simpa using h0
      clear hn h0 hz
      generalize rd (zs.drop k) = q at *
      obtain ⟨n, s, e⟩ := q
      simp only at hne
      go_enter Try.func26, Try.ntmps26
      go_wp2_with fail
      refine (CR.out _ hr).mono ?_
      rintro e w1 ⟨rfl, hb1⟩
      go_wp2
      go_ret
      exact ⟨ret_int E.out.symm, hb1⟩
end
end Go.Proofs.Ytkcnpdcgonengaa
