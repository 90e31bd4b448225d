/- What Read answers: the number that bytes begin with, how many, or why there is none. It only reads. Condition: the slice shows bytes. -/
import Derived.Test.YtjnipkeadlemiaaVarA
import Derived.Deep.DeepMust
namespace Go.Proofs.Ytjnipkeadlemiaa
open Go.RowKit

set_option maxRecDepth 100000 in
theorem drop_step {zs : List Int} {k : Nat} (hk : k < zs.length) : zs.drop k = zs.getD k 0 :: zs.drop (k + 1) := by
  rw [List.drop_eq_getElem_cons hk]
  simp [hk]
set_option maxRecDepth 100000 in
theorem take_step {zs : List Int} {k : Nat} (hk : k < zs.length) : zs.take (k + 1) = zs.take k ++ [zs.getD k 0] := by
  rw [List.take_succ_eq_append_getElem hk]
  simp [hk]
set_option maxRecDepth 100000 in
theorem and127_all : ∀ k : Fin 256, k.val &&& 127 = k.val % 128 := by decide +kernel
set_option maxRecDepth 100000 in
/-- c &^ 128. -/
theorem low_and (c : Int) (h0 : 0 ≤ c) (h1 : c ≤ 255) : bits .andNot .u8 c 128 = c % 128 := by
  rw [u8_andNot _ _ h0 (by omega) (by decide) (by decide)]
  have := and127_all ⟨c.toNat, by omega⟩
  simp only at this
  have e : 255 - (128 : Int).toNat = 127 := rfl
  rw [e, this]; omega

set_option maxHeartbeats 1600000 in
set_option maxRecDepth 100000 in
theorem read_any (a : Option Addr) (zs : List Int) (cap : Nat) (w : World) (hr : Row w a zs) (hm : zs.length ≤ 9223372036854775807) :
    Calls Try.prog 112 #[.slice a zs.length cap] w fun e w' =>
      e = .returned (.tuple #[.int .u64 (rd zs).1, .int .i64 (rd zs).2.1, .int .i64 (rd zs).2.2]) ∧ w = w' := by
  by_cases hz : zs = []
  · subst hz
    go_enter Try.func112, Try.ntmps112
    go_wp2
    refine wp_loop_rounds 1 ?_
    rw [rounds_succ]
    go_wp2
    go_ret3
    exact ⟨rfl, rfl⟩
  · obtain ⟨b, off, rfl, hc⟩ := hr.at hz
    have hby := hr.getD
    clear hr
    go_enter Try.func112, Try.ntmps112
    go_wp2
    go_loop [5, 10] (fun sn si => ∃ (k : Nat) (acc : Int), k ≤ zs.length ∧ k ≤ 9 ∧ si = .int .i64 k ∧ sn = .int .u64 acc ∧ 0 ≤ acc ∧ acc < 18446744073709551616 ∧ Hid (rd zs = rdF k acc (zs.drop k) ∧ acc < 128 ^ k)) (fun _ si => zs.length - (intOf si).toNat)
    case atStart => exact ⟨0, 0, by omega, by omega, rfl, rfl, by omega, by omega, ⟨rfl, by decide⟩⟩
    case round =>
      obtain ⟨k, acc, hk, hk9, rfl, rfl, ha0, ha1, hid⟩ := hrel
      by_cases hlt : k < zs.length
      · obtain ⟨c, hcell, hdrop, hb0, hb1⟩ : ∃ c, w.cell? ⟨b, off + k, none⟩ = some (.int .u8 c) ∧ Hid (zs.drop k = c :: zs.drop (k + 1)) ∧ 0 ≤ c ∧ c ≤ 255 :=
          ⟨_, hc k hlt, drop_step hlt, (hby k).1, (hby k).2⟩
        clear hc hby
        have hand := low_and c hb0 hb1
        go_wp2_with (go_at_call 126; refine (may_any _ _ _).mono ?_; rintro e w' ⟨rfl, rfl⟩)
        · have hmay : mayB (k : Int) c = false := by simpa using (by assumption : (!mayB (k : Int) c) = true)
          have hv : rd zs = (0, 0, 4) := by rw [hid.out.1, hdrop.out, rdF_bad _ _ _ _ hmay]
          go_ret3
          exact ⟨by rw [hv]; rfl, rfl⟩
        · have hmay : mayB (k : Int) c = true := by simpa using (by assumption : (!mayB (k : Int) c) = false)
          have hlt128 : c < 128 := by assumption
          have hv : rd zs = (acc + c * 128 ^ k, (k : Int) + 1, 0) := by rw [hid.out.1, hdrop.out, rdF_last _ _ _ _ hmay hlt128]
          have hcm : c % 128 = c := by omega
          have hx := mul_fits c k hk9 hb0 hlt128 (fun h => by have := mayB_nine k c hmay h; omega)
          have ho := or_shift acc c k ha0 hid.out.2 hb0 (by omega) ha1
          rw [hcm, ho]
          go_ret3
          exact ⟨by rw [hv]; rfl, rfl⟩
        · have hmay : mayB (k : Int) c = true := by simpa using (by assumption : (!mayB (k : Int) c) = false)
          have hge : 128 ≤ c := by assumption
          have hk8 := mayB_more k c hmay hge
          have hv : rd zs = rdF (k + 1) (acc + c % 128 * 128 ^ k) (zs.drop (k + 1)) := by rw [hid.out.1, hdrop.out, rdF_more _ _ _ _ hmay hge]
          have hx := mul_fits (c % 128) k hk9 (by omega) (by omega) (fun h => by omega)
          have ho := or_shift acc (c % 128) k ha0 hid.out.2 (by omega) (by omega) ha1
          have hf := add_fits acc (c % 128) k hid.out.2 (by omega) (by omega)
          have hp := pow128_le (k + 1) (by omega)
          have hq := Int.mul_nonneg (show (0 : Int) ≤ c % 128 by omega) (Int.le_of_lt (pow128_pos k))
          rw [ho]
          go_round
          case rel => exact ⟨k + 1, acc + c % 128 * 128 ^ k, by omega, by omega, by go_num, rfl, by omega, by omega, ⟨hv, hf⟩⟩
          case measure => simp [intOf]; omega
      · have hv : rd zs = (0, 0, 5) := by rw [hid.out.1, List.drop_eq_nil_of_le (by omega)]; rfl
        clear hid
        go_wp2
        go_ret3
        exact ⟨rfl, rfl⟩
end Go.Proofs.Ytjnipkeadlemiaa
