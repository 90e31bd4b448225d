/- What the document's Read answers: just what Read answers. Condition: the slice shows bytes. -/
import Derived.Test.YtkcnpdcgonengaaRefA
import Derived.Test.YtkcnpdcgonengaaRead
import Derived.Test.YtkcnpdcgonengaaVarC
import Derived.Deep.RegionWith
namespace Go.Proofs.Ytkcnpdcgonengaa
open Go.RowKit

set_option maxHeartbeats 1600000 in
set_option maxRecDepth 100000 in
theorem rread_any (a : Option Addr) (zs : List Int) (cap : Nat) (w : World) (hr : Row w a zs) (hlc : zs.length ≤ cap) (hm : zs.length ≤ 9223372036854775806) :
    Calls Try.prog 72 #[.slice a zs.length cap] w fun e w' =>
      e = .returned (.tuple #[.int .u64 (rd zs).1, .int .i64 (rd zs).2.1, .int .i64 (rd zs).2.2]) ∧ Below w.heap.size w w' := by
  by_cases hz : zs = []
  · subst hz
    go_enter Try.func72, Try.ntmps72
    go_wp2
    refine wp_loop_rounds 1 ?_
    rw [rounds_succ]
    go_wp2
    go_ret3
    exact ⟨rfl, Below.refl _ _⟩
  · obtain ⟨b, off, rfl, hc⟩ := hr.at hz
    have hby := hr.getD
    go_enter Try.func72, Try.ntmps72
    go_wp2
    go_loop [5, 6, 7] (fun sn sb si => ∃ (k : Nat) (acc p : Int), k ≤ zs.length ∧ k ≤ 9 ∧ si = .int .i64 k ∧ sn = .int .u64 acc ∧ sb = .int .u64 p ∧ 0 ≤ acc ∧ acc < p ∧ p ≤ 9223372036854775808 ∧
        Hid (rd zs = rdF k acc (zs.drop k) ∧ p = 128 ^ k ∧ acc = val (zs.take k) ∧ ∀ d ∈ zs.take k, 128 ≤ d ∧ d ≤ 255)) (fun _ _ si => zs.length - (intOf si).toNat)
    case atStart => exact ⟨0, 0, 1, by omega, by omega, rfl, rfl, rfl, by omega, by omega, by omega, ⟨rfl, rfl, rfl, by simp⟩⟩
    case round =>
      obtain ⟨k, acc, p, hk, hk9, rfl, rfl, rfl, ha0, hap, hp, hid⟩ := hrel
      by_cases hlt : k < zs.length
      · obtain ⟨c, hcell, hdrop, htake, hb0, hb1⟩ : ∃ c, w.cell? ⟨b, off + k, none⟩ = some (.int .u8 c) ∧ Hid (zs.drop k = c :: zs.drop (k + 1)) ∧ Hid (zs.take (k + 1) = zs.take k ++ [c]) ∧ 0 ≤ c ∧ c ≤ 255 :=
          ⟨_, hc k hlt, drop_step hlt, take_step hlt, (hby k).1, (hby k).2⟩
        clear hc hby
        by_cases h9 : k = 9 ∧ c ≠ 1
        · obtain ⟨h9, hc1⟩ := h9
          have hv : rd zs = (0, 0, 4) := by
            rw [hid.out.1, hdrop.out, rdF_bad]
            subst h9; simpa [mayB] using hc1
          have HV : Hid (rd zs = (0, 0, 4)) := hv
          have hc1' : (c != 1) = true := by simpa using hc1
          subst h9
          clear hv hid hr
          go_wp2
          go_ret3
          exact ⟨by rw [HV.out]; rfl, Below.refl _ _⟩
        · have h9' : k = 9 → c = 1 := fun h => by by_cases hc1 : c = 1; exact hc1; exact absurd ⟨h, hc1⟩ h9
          clear h9
          have hp128 : p = 128 ^ k := hid.out.2.1
          have hx := mul_fits (c % 128) k hk9 (by omega) (by omega) (fun h => by have := h9' (by omega); omega)
          rw [← hp128] at hx
          have hx0 : 0 ≤ c % 128 * p := Int.mul_nonneg (by omega) (by omega)
          have hN1 : acc + c % 128 * p < 18446744073709551616 := by omega
          have HP : Hid (p = 128 ^ k) := hp128
          clear hp128
          by_cases hge : 128 ≤ c
          · have hk8 : k < 9 := by by_cases h : k = 9; exact absurd (h9' h) (by omega); omega
            have hmay : mayB (k : Int) c = true := by
              have h1 : ¬ 9 ≤ (k : Int) := by omega
              have h2 : ¬ c = 0 := by omega
              simp [mayB, h1, h2]
            have hp2 : p * 128 ≤ 9223372036854775808 := by
              have := pow128_le (k + 1) (by omega)
              rw [Int.pow_succ, ← HP.out] at this; exact this
            have hf : acc + c % 128 * p < p * 128 := by
              have := add_fits acc (c % 128) k (by rw [← HP.out]; exact hap) (by omega) (by omega)
              rw [Int.pow_succ, ← HP.out] at this; exact this
            have HV : Hid (rd zs = rdF (k + 1) (acc + c % 128 * p) (zs.drop (k + 1)) ∧ p * 128 = 128 ^ (k + 1) ∧ acc + c % 128 * p = val (zs.take (k + 1)) ∧ ∀ d ∈ zs.take (k + 1), 128 ≤ d ∧ d ≤ 255) := by
              refine ⟨?_, ?_, ?_, ?_⟩
              · rw [hid.out.1, hdrop.out, rdF_more _ _ _ _ hmay hge, HP.out]
              · rw [HP.out, Int.pow_succ]
              · rw [htake.out, val_snoc, ← hid.out.2.2.1, List.length_take, Nat.min_eq_left hk, ← HP.out]
              · rw [htake.out]
                intro d hd
                rcases List.mem_append.1 hd with h | h
                · exact hid.out.2.2.2 d h
                · simp at h; omega
            have hk9b : ((k : Int) == 9) = false := by rw [beq_eq_false_iff_ne]; omega
            clear hid hr
            go_wp2
            go_round
            case rel => exact ⟨k + 1, acc + c % 128 * p, p * 128, by omega, by omega, by go_num, rfl, rfl, by omega, by omega, by omega, HV⟩
            case measure => simp [intOf]; omega
          · have hN0 : 0 ≤ acc + c % 128 * p := by omega
            have hval : acc + c % 128 * p = val (zs.take k ++ [c]) := by rw [val_snoc, ← hid.out.2.2.1, List.length_take, Nat.min_eq_left hk, ← HP.out]
            have hcan : decide (enc (acc + c % 128 * p) = zs.take (k + 1)) = mayB (k : Int) c := by
              have := enc_canon (zs.take k) c (by simp; omega) hid.out.2.2.2 hb0 (by omega) (by simp; intro h; exact h9' (by omega))
              rw [← hval, List.length_take, Nat.min_eq_left hk] at this
              rw [htake.out]; exact this
            have hst := str_beq (enc (acc + c % 128 * p)) (zs.take (k + 1)) (enc_byte _ hN0) (hr.take (k + 1)).byte
            rw [hcan] at hst
            have t1 := (hr.take (k + 1)).drew.text (k + 1) cap (by simp; omega)
            have hlast : mayB (k : Int) c = true → rd zs = (acc + c % 128 * p, (k : Int) + 1, 0) := fun h => by
              have hc : c % 128 = c := by omega
              rw [hid.out.1, hdrop.out, rdF_last _ _ _ _ h (by omega), hc, HP.out]
            have hbad : mayB (k : Int) c = false → rd zs = (0, 0, 4) := fun h => by
              rw [hid.out.1, hdrop.out, rdF_bad _ _ _ _ h]
            have hrk := hr.take (k + 1)
            clear hid hr hval hcan
            have hkc : (k : Int) + 1 ≤ (cap : Int) := by omega
            have hkc2 : k + 1 ≤ cap := by omega
            have hkc3 : ((k : Int) + 1).toNat = k + 1 := by omega
            have hcap0 : ¬ cap = 0 := by omega
            have hwr : IntKind.i64.wrap ((k : Int) + 1) = (k : Int) + 1 := IntWalk.i64_in _ ⟨by omega, by omega⟩
            have hk0 : (0 : Int) ≤ (k : Int) + 1 := by omega
            have hsl : ∀ W, (Instr.slice 29 (.slice (some ⟨b, off, none⟩) zs.length cap) none (some (.int .i64 ((k : Int) + 1))) none).run Try.prog W = .ok (.slice (some ⟨b, off, none⟩) (k + 1) cap) W := fun W => by
              rw [run_slice_h W 29 _ _ _ Try.underlying29 _ _ hk0 hkc, hkc3]; simp [sliced, go_sem]
            generalize mayB (k : Int) c = mb at *
            cases mb with
            | true =>
              have HV : Hid (rd zs = (acc + c % 128 * p, (k : Int) + 1, 0)) := hlast rfl
              clear hlast hbad
              by_cases hk9e : k = 9
              · have hc1 := h9' hk9e
                have hk9b : ((k : Int) == 9) = true := by simp [hk9e]
                have hcne : (c != 1) = false := by simp [hc1]
                clear h9' hc1 hk9e
                go_wp2
                go_region_with ((go_at_call 30; refine (rbytes_any _ _ hN0 hN1).mono ?_; rintro e w1 ⟨g, cap1, rfl, hg, hcap1, hown1, hb1⟩; have t2 := (hrk.drew.below hb1).text (k + 1) cap (by simp; omega); have t3 := (Row.own (enc_byte _ hN0) rfl hown1).text (enc (acc + c % 128 * p)).length cap1 rfl))
                all_goals
                  go_wp2
                  go_ret3
                  exact ⟨by rw [HV.out]; rfl, Below.drew (Below.refl _ _) |>.trans hb1⟩
              · have hk9b : ((k : Int) == 9) = false := by rw [beq_eq_false_iff_ne]; omega
                clear h9'
                go_wp2
                go_region_with ((go_at_call 30; refine (rbytes_any _ _ hN0 hN1).mono ?_; rintro e w1 ⟨g, cap1, rfl, hg, hcap1, hown1, hb1⟩; have t2 := (hrk.drew.below hb1).text (k + 1) cap (by simp; omega); have t3 := (Row.own (enc_byte _ hN0) rfl hown1).text (enc (acc + c % 128 * p)).length cap1 rfl))
                all_goals
                  go_wp2
                  go_ret3
                  exact ⟨by rw [HV.out]; rfl, Below.drew (Below.refl _ _) |>.trans hb1⟩
            | false =>
              have HV : Hid (rd zs = (0, 0, 4)) := hbad rfl
              clear hlast hbad
              by_cases hk9e : k = 9
              · have hc1 := h9' hk9e
                have hk9b : ((k : Int) == 9) = true := by simp [hk9e]
                have hcne : (c != 1) = false := by simp [hc1]
                clear h9' hc1 hk9e
                go_wp2
                go_region_with ((go_at_call 30; refine (rbytes_any _ _ hN0 hN1).mono ?_; rintro e w1 ⟨g, cap1, rfl, hg, hcap1, hown1, hb1⟩; have t2 := (hrk.drew.below hb1).text (k + 1) cap (by simp; omega); have t3 := (Row.own (enc_byte _ hN0) rfl hown1).text (enc (acc + c % 128 * p)).length cap1 rfl))
                all_goals
                  go_wp2
                  go_ret3
                  exact ⟨by rw [HV.out]; rfl, Below.drew (Below.refl _ _) |>.trans hb1⟩
              · have hk9b : ((k : Int) == 9) = false := by rw [beq_eq_false_iff_ne]; omega
                clear h9'
                go_wp2
                go_region_with ((go_at_call 30; refine (rbytes_any _ _ hN0 hN1).mono ?_; rintro e w1 ⟨g, cap1, rfl, hg, hcap1, hown1, hb1⟩; have t2 := (hrk.drew.below hb1).text (k + 1) cap (by simp; omega); have t3 := (Row.own (enc_byte _ hN0) rfl hown1).text (enc (acc + c % 128 * p)).length cap1 rfl))
                all_goals
                  go_wp2
                  go_ret3
                  exact ⟨by rw [HV.out]; rfl, Below.drew (Below.refl _ _) |>.trans hb1⟩
      · have HV : Hid (rd zs = (0, 0, 5)) := by
          show rd zs = (0, 0, 5)
          rw [hid.out.1, List.drop_eq_nil_of_le (by omega)]; rfl
        clear hid hr
        go_wp2
        go_ret3
        exact ⟨by rw [HV.out]; rfl, Below.refl _ _⟩
end Go.Proofs.Ytkcnpdcgonengaa
