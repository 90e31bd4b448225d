/- What Append makes: a new row of the bytes handed in and the number's. Conditions: the slice shows bytes, fewer than 2^46; the number is a uint64. -/
import Derived.Test.YtjnipkeadlemiaaVarA
import Derived.Deep.DeepMust
namespace Go.Proofs.Ytjnipkeadlemiaa
open Go.RowKit

set_option maxRecDepth 100000 in
theorem or128_all : ∀ k : Fin 256, k.val ||| 128 = k.val % 128 + 128 := by decide +kernel
set_option maxRecDepth 100000 in
/-- byte(n)|128. -/
theorem low_or (n : Int) : bits .or .u8 (n % 256) 128 = n % 128 + 128 := by
  rw [u8_or _ _ (by omega) (by omega) (by decide) (by decide)]
  have := or128_all ⟨(n % 256).toNat, by omega⟩
  simp only at this
  have e : (128 : Int).toNat = 128 := rfl
  rw [e, this]; omega

set_option maxHeartbeats 1600000 in
set_option maxRecDepth 100000 in
theorem append_any (a : Option Addr) (zs : List Int) (cap : Nat) (n : Int) (w : World) (hrow : Row w a zs) (hnil : a = none → zs.length = 0 ∧ cap = 0) (hlen : zs.length ≤ 70368744177664) (h0 : 0 ≤ n) (h1 : n < 18446744073709551616) :
    Calls Try.prog 111 #[.slice a zs.length cap, .int .u64 n] w fun e w' =>
      e = .returned (.slice (some ⟨w.heap.size, 0, none⟩) (zs.length + (enc n).length) (zs.length + (enc n).length)) ∧
      w'.ownsRow w.heap.size 5 1 (.slice (some ⟨w.heap.size, 0, none⟩) (zs.length + (enc n).length) (zs.length + (enc n).length)) (zs.length + (enc n).length) ((zs ++ enc n).map (Value.int .u8)) ∧ Below w.heap.size w w' := by
  obtain ⟨i0, hi, hz0, hz1, hz2⟩ := info_parts info8
  have hl := enc_len n
  go_enter Try.func111, Try.ntmps111
  go_wp2_with (first
    | (go_at_call 125; refine (size_any _ _ h0 h1).mono ?_; rintro e w' ⟨rfl, rfl⟩)
    | (at_make; refine wpList_make_own _ rfl _ _ 29 rfl w.heap.size 5 i0 (.int .u8 0) 1 Try.underlying29 hi hz0 hz1 _ _ _ (zs.length + (enc n).length) rfl rfl (by omega) (by rw [hz2]; omega) (by unfold maxLen; omega) (Nat.le_refl _) ?_; intro w0 hown0 hgrow0; have hrow0 := hrow.below ((Below.refl _ _).grown hgrow0 (Nat.le_refl _) (fun k h => by cases h)))
    | (at_builtin; go_must (refine wpList_append_fits_any _ rfl (.tmp 12) (.tmp 13) 29 rfl w.heap.size 5 i0 1 Try.underlying29 hi hz1 w.heap.size 0 (zs.length + (enc n).length) _ rfl hown0 a zs.length cap (zs.map (Value.int .u8)) rfl (by simp) hnil hrow0.news (ints_oneCell _ _) (by omega) ?_; intro w1 hown1 hgrow1)))
  simp only [Nat.zero_add, List.nil_append] at hown1
  have hb1 : Below w.heap.size w w1 := ((Below.refl _ _).grown hgrow0 (Nat.le_refl _) (fun k h => by cases h)).grown hgrow1 hgrow0.size (fun k h => by cases h; exact Nat.le_refl _)
  clear hgrow0 hgrow1 hrow0 hown0 hrow
  go_loopw [5, 1] (fun out sn wr => ∃ (f : Nat) (cur : Int) (pre : List Int), 0 ≤ cur ∧ cur ≤ n ∧ sn = .int .u64 cur ∧ out = .slice (some ⟨w.heap.size, 0, none⟩) (zs.length + pre.length) (zs.length + (enc n).length) ∧
      wr.ownsRow w.heap.size 5 1 (.slice (some ⟨w.heap.size, 0, none⟩) (zs.length + pre.length) (zs.length + (enc n).length)) (zs.length + pre.length) ((zs ++ pre).map (Value.int .u8)) ∧ Hid (enc n = pre ++ encF (f + 1) cur ∧ cur < 128 ^ (f + 1)) ∧ Below w.heap.size w wr)
    (fun _ sn _ => (intOf sn).toNat)
  case atStart => exact ⟨9, n, [], h0, Int.le_refl _, rfl, rfl, by simpa using hown1, ⟨rfl, by omega⟩, hb1⟩
  case round =>
    obtain ⟨f, cur, pre, hc0, hcn, rfl, rfl, hown, hid, hnx⟩ := hrel
    clear hown1 hb1
    by_cases hge : 128 ≤ cur
    · obtain ⟨f, rfl⟩ : ∃ g, f = g + 1 := by
        cases f with
        | zero => have := hid.out.2; omega
        | succ g => exact ⟨g, rfl⟩
      have he : enc n = (pre ++ [cur % 128 + 128]) ++ encF (f + 1) (cur / 128) := by rw [hid.out.1, encF_ge _ _ hge]; simp
      have hp : cur / 128 < 128 ^ (f + 1) := by
        have h2 := hid.out.2
        rw [Int.pow_succ] at h2
        omega
      have hlen1 : pre.length + 1 ≤ (enc n).length := by rw [he]; simp
      have HE : Hid (enc n = (pre ++ [cur % 128 + 128]) ++ encF (f + 1) (cur / 128) ∧ cur / 128 < 128 ^ (f + 1)) := ⟨he, hp⟩
      clear he hp hid
      have hlo := low_or cur
      go_wp2_with (at_builtin; go_must (refine wpList_append_fits _ rfl (.tmp 17) (.tmp 21) 29 rfl w.heap.size 5 i0 1 Try.underlying29 hi hz1 w.heap.size (zs.length + pre.length) (zs.length + (enc n).length) _ rfl (hown.alloc _) ⟨wr.heap.size, 0, none⟩ 1 1 [.int .u8 (cur % 128 + 128)] rfl rfl (by intro t u ht; match t, ht with | 0, ht => simp at ht; subst ht; simp [Addr.add]) (by intro u hu; simp at hu; subst hu; rfl) (by omega) ?_; intro w2 hown2 hgrow2))
      go_roundw
      case rel => exact ⟨f, cur / 128, pre ++ [cur % 128 + 128], by omega, by omega, rfl, by simp [Nat.add_assoc], by simpa [Nat.add_assoc] using hown2, HE, (hnx.alloc hnx.size _).grown hgrow2 (by simp; have := hnx.size; omega) (fun k hk => by cases hk; exact Nat.le_refl _)⟩
      case measure => simp [intOf]; omega
    · have he : enc n = pre ++ [cur] := by rw [hid.out.1, encF_lt _ _ (by omega)]
      have hlen1 : (enc n).length = pre.length + 1 := by rw [he]; simp
      have HE : Hid (enc n = pre ++ [cur]) := he
      have HL : Hid ((enc n).length = pre.length + 1) := hlen1
      have hle : pre.length + 1 ≤ (enc n).length := by omega
      clear he hid hlen1
      go_wp2_with (at_builtin; go_must (refine wpList_append_fits _ rfl (.tmp 25) (.tmp 28) 29 rfl w.heap.size 5 i0 1 Try.underlying29 hi hz1 w.heap.size (zs.length + pre.length) (zs.length + (enc n).length) _ rfl (hown.alloc _) ⟨wr.heap.size, 0, none⟩ 1 1 [.int .u8 cur] rfl rfl (by intro t u ht; match t, ht with | 0, ht => simp at ht; subst ht; simp [Addr.add]) (by intro u hu; simp at hu; subst hu; rfl) (by omega) ?_; intro w2 hown2 hgrow2))
      go_ret
      have e1 : zs.length + pre.length + 1 = zs.length + (enc n).length := by rw [HL.out]; omega
      have e2 : (zs ++ pre).map (Value.int .u8) ++ [Value.int .u8 cur] = (zs ++ enc n).map (Value.int .u8) := by rw [HE.out]; simp
      rw [e1, e2] at hown2
      refine ⟨?_, by simpa using hown2, (hnx.alloc hnx.size _).grown hgrow2 (by simp; have := hnx.size; omega) (fun k hk => by cases hk; exact Nat.le_refl _)⟩
      show Ending.returned (Value.slice _ (zs.length + pre.length + 1) _) = _
      rw [e1]
end Go.Proofs.Ytjnipkeadlemiaa
