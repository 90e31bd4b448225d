/- What next and readField answer. Conditions: the slices show fields, or bytes. -/
import Derived.Test.YtepohbcpepkboaaGreatVarA
import Derived.Test.YtepohbcpepkboaaGreatFld
import Derived.Deep.DeepMust
import Derived.Test.YtepohbcpepkboaaGreatMsgC
namespace Go.Proofs.YtepohbcpepkboaaGreat

set_option maxRecDepth 100000 in
/-- What is laid is read, whatever stands behind. -/
theorem rdF_enc : ∀ (f i : Nat) (n acc : Int) (more : List Int), i ≤ 9 → 0 ≤ n → n < 128 ^ (f + 1) → n * 128 ^ i < 18446744073709551616 → (i = 0 ∨ 1 ≤ n) →
    rdF i acc (encF (f + 1) n ++ more) = (acc + n * 128 ^ i, (i : Int) + (encF (f + 1) n).length, 0)
  | f, i, n, acc, more, hi, h0, hp, hm, h1 => by
    have hq := pow128_pos i
    by_cases hn : n < 128
    · rw [encF_lt f n hn]
      have hmay : mayB (i : Int) n = true := by
        by_cases h9 : 9 ≤ (i : Int)
        · have hi9 : i = 9 := by omega
          subst hi9
          have : n = 1 := by
            have e : (128 : Int) ^ 9 = 9223372036854775808 := by decide
            rw [e] at hm; omega
          simp [mayB, this]
        · rcases h1 with h | h
          · simp [mayB, h]
          · have : ¬ n = 0 := by omega
            simp [mayB, h9, this]
      rw [List.singleton_append, rdF_last _ _ _ _ hmay hn]; simp
    · cases f with
      | zero => simp at hp; omega
      | succ f =>
        have hi8 : i < 9 := by
          by_cases h : i = 9
          · subst h
            have e : (128 : Int) ^ 9 = 9223372036854775808 := by decide
            rw [e] at hm; omega
          · omega
        rw [encF_ge _ _ (by omega), List.cons_append]
        have hmay : mayB (i : Int) (n % 128 + 128) = true := by
          have h9 : ¬ 9 ≤ (i : Int) := by omega
          have : ¬ (n % 128 + 128 = 0) := by omega
          simp [mayB, h9, this]
        have e1 : (n % 128 + 128) % 128 = n % 128 := by omega
        have hdm : n = n % 128 + 128 * (n / 128) := by omega
        have e2 : n / 128 * 128 ^ (i + 1) = n * 128 ^ i - n % 128 * 128 ^ i := by
          rw [Int.pow_succ, ← Int.sub_mul]
          have : n - n % 128 = n / 128 * 128 := by omega
          rw [this, Int.mul_assoc, Int.mul_comm (128 : Int)]
        have hx : 0 ≤ n % 128 * 128 ^ i := Int.mul_nonneg (by omega) (by omega)
        rw [rdF_more _ _ _ _ hmay (by omega), e1]
        rw [Int.pow_succ] at hp
        rw [rdF_enc f (i + 1) (n / 128) _ more (by omega) (by omega) (by omega) (by rw [e2]; omega) (Or.inr (by omega)), e2]
        refine Prod.ext ?_ (Prod.ext ?_ rfl)
        · simp only; omega
        · simp only [List.length_cons]; omega
set_option maxRecDepth 100000 in
theorem rd_enc (n : Int) (more : List Int) (h0 : 0 ≤ n) (h1 : n < 18446744073709551616) : rd (enc n ++ more) = (n, ((enc n).length : Int), 0) := by
  have := rdF_enc 9 0 n 0 more (by omega) h0 (by omega) (by simpa using h1) (Or.inl rfl)
  rw [rd, enc, this]; simp
set_option maxRecDepth 100000 in
theorem rd_enc' (n : Int) (h0 : 0 ≤ n) (h1 : n < 18446744073709551616) : rd (enc n) = (n, ((enc n).length : Int), 0) := by
  have := rd_enc n [] h0 h1
  simpa using this

set_option maxRecDepth 100000 in
/-- What is read was laid. -/
theorem rdF_ok : ∀ (rest ds : List Int), ds.length ≤ 9 → (∀ d ∈ ds, 128 ≤ d ∧ d ≤ 255) → (∀ c ∈ rest, 0 ≤ c ∧ c ≤ 255) → (rdF ds.length (val ds) rest).2.2 = 0 →
    0 ≤ (rdF ds.length (val ds) rest).1 ∧ (rdF ds.length (val ds) rest).1 < 18446744073709551616 ∧ (ds ++ rest).take (enc (rdF ds.length (val ds) rest).1).length = enc (rdF ds.length (val ds) rest).1 ∧
    (rdF ds.length (val ds) rest).2.1 = (enc (rdF ds.length (val ds) rest).1).length
  | [], ds, _, _, _, h => by simp [rdF] at h
  | c :: cs, ds, hl, hd, hc, h => by
    have hcb := hc c (by simp)
    by_cases hmay : mayB (ds.length : Int) c = true
    · by_cases hlt : c < 128
      · rw [rdF_last _ _ _ _ hmay hlt]
        have e1 : val ds + c * 128 ^ ds.length = val (ds ++ [c]) := by
          rw [val_snoc]; have : c % 128 = c := by omega
          rw [this]
        have hcan := enc_canon ds c hl hd hcb.1 hlt (fun h9 => mayB_nine ds.length c hmay (by omega))
        rw [hmay, decide_eq_true_iff] at hcan
        have hb := val_bound ds
        have hx := mul_fits c ds.length hl hcb.1 hlt (fun h9 => by have := mayB_nine ds.length c hmay h9; omega)
        have hp := pow128_le ds.length hl
        have hq : 0 ≤ c * 128 ^ ds.length := Int.mul_nonneg hcb.1 (Int.le_of_lt (pow128_pos _))
        refine ⟨by simp only; omega, by simp only; omega, ?_, ?_⟩
        · simp only [e1, hcan]
          have : (ds ++ c :: cs) = (ds ++ [c]) ++ cs := by simp
          rw [this, List.take_left]
        · simp only [e1, hcan]; simp
      · have hi := mayB_more ds.length c hmay (by omega)
        rw [rdF_more _ _ _ _ hmay (by omega)] at h ⊢
        have e1 : val ds + c % 128 * 128 ^ ds.length = val (ds ++ [c]) := by rw [val_snoc]
        have e2 : ds.length + 1 = (ds ++ [c]).length := by simp
        rw [e1, e2] at h ⊢
        have e3 : ds ++ c :: cs = (ds ++ [c]) ++ cs := by simp
        rw [e3]
        refine rdF_ok cs (ds ++ [c]) (by simp; omega) ?_ (fun x hx => hc x (List.mem_cons_of_mem _ hx)) h
        intro d hd'
        rcases List.mem_append.1 hd' with h | h
        · exact hd d h
        · simp at h; omega
    · rw [rdF_bad _ _ _ _ (by simpa using hmay)] at h; simp at h
set_option maxRecDepth 100000 in
theorem rd_ok (zs : List Int) (hz : ∀ c ∈ zs, 0 ≤ c ∧ c ≤ 255) (h : (rd zs).2.2 = 0) :
    0 ≤ (rd zs).1 ∧ (rd zs).1 < 18446744073709551616 ∧ zs.take (enc (rd zs).1).length = enc (rd zs).1 ∧ (rd zs).2.1 = (enc (rd zs).1).length :=
  rdF_ok zs [] (by simp) (by simp) hz h
set_option maxRecDepth 100000 in
/-- Which errors there are; with one there is no number. -/
theorem rdF_err : ∀ (zs : List Int) (i : Nat) (n : Int), (rdF i n zs).2.2 = 0 ∨ (((rdF i n zs).2.2 = 4 ∨ (rdF i n zs).2.2 = 5) ∧ (rdF i n zs).1 = 0 ∧ (rdF i n zs).2.1 = 0)
  | [], i, n => by simp [rdF]
  | c :: cs, i, n => by
    by_cases hmay : mayB (i : Int) c = true
    · by_cases hlt : c < 128
      · rw [rdF_last _ _ _ _ hmay hlt]; simp
      · rw [rdF_more _ _ _ _ hmay (by omega)]; exact rdF_err cs _ _
    · rw [rdF_bad _ _ _ _ (by simpa using hmay)]; simp
set_option maxRecDepth 100000 in
theorem rd_err (zs : List Int) : (rd zs).2.2 = 0 ∨ (((rd zs).2.2 = 4 ∨ (rd zs).2.2 = 5) ∧ (rd zs).1 = 0 ∧ (rd zs).2.1 = 0) := rdF_err zs 0 0
end Go.Proofs.YtepohbcpepkboaaGreat

namespace Go.Proofs.YtepohbcpepkboaaGreat
open Go.RowKit

set_option maxRecDepth 100000 in
theorem num_any (tag n : Int) (w : World) : Calls Tryz.prog 83 #[.int .i64 tag, .int .u64 n] w fun e w' =>
    e = .returned (.agg #[.int .i64 tag, .bool false, .int .u64 n, .slice none 0 0]) ∧ Below w.heap.size w w' := by
  go_enter Tryz.func83, Tryz.ntmps83
  go_wp2
  exact bodyPost_ret (v := .agg #[.int .i64 tag, .bool false, .int .u64 n, .slice none 0 0]) (by simp [results, Tryz.results83, go_sem]) rfl ⟨rfl, (Below.refl _ _).alloc (Nat.le_refl _) _⟩

set_option maxRecDepth 100000 in
theorem fresh_any (a : Option Addr) (zs : List Int) (cap : Nat) (w : World) (hr : Row w a zs) (hnil : a = none → zs.length = 0 ∧ cap = 0) (hlen : zs.length ≤ 70368744177664) :
    Calls Tryz.prog 100 #[.slice a zs.length cap] w fun e w' => ∃ a' cap', e = .returned (.slice a' zs.length cap') ∧ Row w' a' zs ∧ (a' = none → zs.length = 0 ∧ cap' = 0) ∧ zs.length ≤ cap' ∧ cap' ≤ maxLen ∧ (∀ x, a' = some x → w.heap.size ≤ x.block) ∧ Below w.heap.size w w' := by
  go_enter Tryz.func100, Tryz.ntmps100
  go_wp2_with (at_builtin; go_must (refine wpList_append_bytes rfl (.tmp 3) (.tmp 4) rfl w.heap.size _ 0 [] rfl (World.ownsRow_lit w #[] 0 (Nat.le_refl _) (by simp [maxLen]) rfl) a zs zs.length cap rfl rfl (hr.alloc _) hnil (by omega) (by simp) ?_; intro v1 w1 hown1 hgrow1))
  simp only [Nat.zero_add, List.nil_append] at hown1
  have hb1 : Below w.heap.size w w1 := below_own ((Below.refl _ _).alloc (Nat.le_refl _) _) (World.ownsRow_lit w #[] 0 (Nat.le_refl _) (by simp [maxLen]) rfl) (by simp) hgrow1
  obtain ⟨a1, c1, hv1, -, h1, h2, h3, h4, h5⟩ := own_view' hown1 hr.byte
  subst hv1
  go_ret
  exact ⟨a1, c1, rfl, h1, h2, h3, h4, h5, hb1⟩

set_option maxRecDepth 100000 in
theorem blob_any (tag : Int) (a : Option Addr) (zs : List Int) (cap : Nat) (w : World) (hr : Row w a zs) (hnil : a = none → zs.length = 0 ∧ cap = 0) (hlen : zs.length ≤ 70368744177664) :
    Calls Tryz.prog 86 #[.int .i64 tag, .slice a zs.length cap] w fun e w' => ∃ a' cap', e = .returned (.agg #[.int .i64 tag, .bool true, .int .u64 0, .slice a' zs.length cap']) ∧ Row w' a' zs ∧ (a' = none → zs.length = 0 ∧ cap' = 0) ∧ zs.length ≤ cap' ∧ cap' ≤ maxLen ∧ (∀ x, a' = some x → w.heap.size ≤ x.block) ∧ Below w.heap.size w w' := by
  go_enter Tryz.func86, Tryz.ntmps86
  go_wp2_with fail
  refine (fresh_any a zs cap _ (hr.alloc _) hnil hlen).mono ?_
  rintro e w1 ⟨a1, c1, rfl, h1, h2, h3, h4, h5, hb1⟩
  obtain ⟨hc, hf⟩ := bcell hb1
  have hne : ∀ x, a1 = some x → x.block ≠ w.heap.size := fun x hx => by have := h5 x hx; simp at this; omega
  go_wp2
  refine bodyPost_ret (v := .agg #[.int .i64 tag, .bool true, .int .u64 0, .slice a1 zs.length c1]) (by simp [results, Tryz.results86, go_sem, hc]) rfl ⟨a1, c1, rfl, ?_, h2, h3, h4, fun x hx => ?_, ?_⟩
  · exact (((h1.setCell _ _ hne).setCell _ _ hne).setCell _ _ hne).setCell _ _ hne
  · have := h5 x hx; simp at this; omega
  · exact ((((((Below.refl _ _).alloc (Nat.le_refl _) _).trans (hb1.mono (by simp))).setCell (Nat.le_refl _) _).setCell (Nat.le_refl _) _).setCell (Nat.le_refl _) _).setCell (Nat.le_refl _) _
end Go.Proofs.YtepohbcpepkboaaGreat

namespace Go.Proofs.YtepohbcpepkboaaGreat
open Go.RowKit

set_option maxRecDepth 100000 in
theorem drop_step {zs : List Int} {k : Nat} (hk : k < zs.length) : zs.drop k = zs.getD k 0 :: zs.drop (k + 1) := by
  rw [List.drop_eq_getElem_cons hk]
  simp [hk]
set_option maxRecDepth 100000 in
theorem take_step {zs : List Int} {k : Nat} (hk : k < zs.length) : zs.take (k + 1) = zs.take k ++ [zs.getD k 0] := by
  rw [List.take_succ_eq_append_getElem hk]
  simp [hk]
set_option maxRecDepth 100000 in
theorem and127_all : ∀ k : Fin 256, k.val &&& 127 = k.val % 128 := by decide +kernel
set_option maxRecDepth 100000 in
/-- c &^ 128. -/
theorem low_and (c : Int) (h0 : 0 ≤ c) (h1 : c ≤ 255) : bits .andNot .u8 c 128 = c % 128 := by
  rw [u8_andNot _ _ h0 (by omega) (by decide) (by decide)]
  have := and127_all ⟨c.toNat, by omega⟩
  simp only at this
  have e : 255 - (128 : Int).toNat = 127 := rfl
  rw [e, this]; omega

set_option maxHeartbeats 1600000 in
set_option maxRecDepth 100000 in
theorem read_any (a : Option Addr) (zs : List Int) (cap : Nat) (w : World) (hr : Row w a zs) (hm : zs.length ≤ 9223372036854775807) :
    Calls Tryz.prog 108 #[.slice a zs.length cap] w fun e w' =>
      e = .returned (.tuple #[.int .u64 (rd zs).1, .int .i64 (rd zs).2.1, .int .i64 (rd zs).2.2]) ∧ w = w' := by
  by_cases hz : zs = []
  · subst hz
    go_enter Tryz.func108, Tryz.ntmps108
    go_wp2
    refine wp_loop_rounds 1 ?_
    rw [rounds_succ]
    go_wp2
    go_ret3
    exact ⟨rfl, rfl⟩
  · obtain ⟨b, off, rfl, hc⟩ := hr.at hz
    have hby := hr.getD
    clear hr
    go_enter Tryz.func108, Tryz.ntmps108
    go_wp2
    go_loop [5, 10] (fun sn si => ∃ (k : Nat) (acc : Int), k ≤ zs.length ∧ k ≤ 9 ∧ si = .int .i64 k ∧ sn = .int .u64 acc ∧ 0 ≤ acc ∧ acc < 18446744073709551616 ∧ Hid (rd zs = rdF k acc (zs.drop k) ∧ acc < 128 ^ k)) (fun _ si => zs.length - (intOf si).toNat)
    case atStart => exact ⟨0, 0, by omega, by omega, rfl, rfl, by omega, by omega, ⟨rfl, by decide⟩⟩
    case round =>
      obtain ⟨k, acc, hk, hk9, rfl, rfl, ha0, ha1, hid⟩ := hrel
      by_cases hlt : k < zs.length
      · obtain ⟨c, hcell, hdrop, hb0, hb1⟩ : ∃ c, w.cell? ⟨b, off + k, none⟩ = some (.int .u8 c) ∧ Hid (zs.drop k = c :: zs.drop (k + 1)) ∧ 0 ≤ c ∧ c ≤ 255 :=
          ⟨_, hc k hlt, drop_step hlt, (hby k).1, (hby k).2⟩
        clear hc hby
        have hand := low_and c hb0 hb1
        go_wp2_with (go_at_call 122; refine (may_any _ _ _).mono ?_; rintro e w' ⟨rfl, rfl⟩)
        · have hmay : mayB (k : Int) c = false := by simpa using (by assumption : (!mayB (k : Int) c) = true)
          have hv : rd zs = (0, 0, 4) := by rw [hid.out.1, hdrop.out, rdF_bad _ _ _ _ hmay]
          go_ret3
          exact ⟨by rw [hv]; rfl, rfl⟩
        · have hmay : mayB (k : Int) c = true := by simpa using (by assumption : (!mayB (k : Int) c) = false)
          have hlt128 : c < 128 := by assumption
          have hv : rd zs = (acc + c * 128 ^ k, (k : Int) + 1, 0) := by rw [hid.out.1, hdrop.out, rdF_last _ _ _ _ hmay hlt128]
          have hcm : c % 128 = c := by omega
          have hx := mul_fits c k hk9 hb0 hlt128 (fun h => by have := mayB_nine k c hmay h; omega)
          have ho := or_shift acc c k ha0 hid.out.2 hb0 (by omega) ha1
          rw [hcm, ho]
          go_ret3
          exact ⟨by rw [hv]; rfl, rfl⟩
        · have hmay : mayB (k : Int) c = true := by simpa using (by assumption : (!mayB (k : Int) c) = false)
          have hge : 128 ≤ c := by assumption
          have hk8 := mayB_more k c hmay hge
          have hv : rd zs = rdF (k + 1) (acc + c % 128 * 128 ^ k) (zs.drop (k + 1)) := by rw [hid.out.1, hdrop.out, rdF_more _ _ _ _ hmay hge]
          have hx := mul_fits (c % 128) k hk9 (by omega) (by omega) (fun h => by omega)
          have ho := or_shift acc (c % 128) k ha0 hid.out.2 (by omega) (by omega) ha1
          have hf := add_fits acc (c % 128) k hid.out.2 (by omega) (by omega)
          have hp := pow128_le (k + 1) (by omega)
          have hq := Int.mul_nonneg (show (0 : Int) ≤ c % 128 by omega) (Int.le_of_lt (pow128_pos k))
          rw [ho]
          go_round
          case rel => exact ⟨k + 1, acc + c % 128 * 128 ^ k, by omega, by omega, by go_num, rfl, by omega, by omega, ⟨hv, hf⟩⟩
          case measure => simp [intOf]; omega
      · have hv : rd zs = (0, 0, 5) := by rw [hid.out.1, List.drop_eq_nil_of_le (by omega)]; rfl
        clear hid
        go_wp2
        go_ret3
        exact ⟨rfl, rfl⟩
end Go.Proofs.YtepohbcpepkboaaGreat

namespace Go.Proofs.YtepohbcpepkboaaGreat
open Go.RowKit

/-- Where a cut of a slice of bytes lies. -/
def cutA (a : Option Addr) (cap i : Nat) : Option Addr := if cap = i then a else a.map (·.add (i * 1))
set_option maxRecDepth 100000 in
theorem cutA_row {zs : List Int} {a : Option Addr} {cap : Nat} (i k : Nat) (hc : zs.length ≤ cap) (W : World) (h : Row W a zs) : Row W (cutA a cap i) ((zs.drop i).take k) := by
  unfold cutA
  by_cases hz : (zs.drop i).take k = []
  · rw [hz]; exact Row.nil _ _
  have hz1 : zs.drop i ≠ [] := by intro e; rw [e] at hz; simp at hz
  have hz2 : zs ≠ [] := by intro e; rw [e] at hz1; simp at hz1
  have hi : i < zs.length := by
    by_cases h : i < zs.length
    · exact h
    · exact absurd (List.drop_eq_nil_of_le (by omega)) hz1
  rw [if_neg (by omega)]
  obtain ⟨b, off, rfl, hc'⟩ := h.2 hz2
  have e : (some (⟨b, off, none⟩ : Addr)).map (·.add (i * 1)) = some ⟨b, off + i, none⟩ := by simp [Addr.add_lit]
  rw [e]
  exact (Row.drop h i).take k
set_option maxRecDepth 100000 in
theorem cutA_nil {a : Option Addr} {cap n : Nat} (i : Nat) (hnil : a = none → n = 0 ∧ cap = 0) (h : cutA a cap i = none) : n = 0 ∧ cap = 0 := by
  unfold cutA at h
  split at h
  · exact hnil h
  · exact hnil (by simpa using h)
set_option maxRecDepth 100000 in
theorem size8 : ∀ W, (sizeOf (Tryz.prog.elem 29)).run Tryz.prog W = .ok 1 W := fun W => by
  have e : Tryz.prog.elem 29 = 5 := by kernel_rfl
  rw [e]; simp [go_sem]
set_option maxRecDepth 100000 in
theorem run_cut_lh (a : Option Addr) (n cap i j : Nat) (x y : Int) (hx : x = i) (hy : y = j) (hij : i ≤ j) (hj : j ≤ cap) (W : World) :
    (Instr.slice 29 (.slice a n cap) (some (.int .i64 x)) (some (.int .i64 y)) none).run Tryz.prog W = .ok (.slice (cutA a cap i) (j - i) (cap - i)) W := by
  subst hx hy
  rw [run_slice_lh W 29 a n cap Tryz.underlying29 .i64 .i64 (i : Int) (j : Int) (by omega) (by omega) (by omega), size8]
  simp [Result.andThen, sliced, cutA]
set_option maxRecDepth 100000 in
theorem run_cut_l (a : Option Addr) (n cap i : Nat) (x : Int) (hx : x = i) (hi : i ≤ n) (W : World) :
    (Instr.slice 29 (.slice a n cap) (some (.int .i64 x)) none none).run Tryz.prog W = .ok (.slice (cutA a cap i) (n - i) (cap - i)) W := by
  subst hx
  rw [run_slice_l W 29 a n cap Tryz.underlying29 .i64 (i : Int) (by omega) (by omega), size8]
  simp [Result.andThen, sliced, cutA]
end Go.Proofs.YtepohbcpepkboaaGreat

namespace Go.Proofs.YtepohbcpepkboaaGreat
open Go.RowKit

/-- The error of a field behind those ahead. -/
def nextE (ahead : List Fld) (f : Fld) : Int := if fmay ahead f then (if ahead.length = 64 then 3 else 0) else 1
set_option maxRecDepth 100000 in
theorem next_any (ao : Option Addr) (fs : List Fld) (cap : Nat) (f : Fld) (a : Option Addr) (c : Nat) (w : World) (hr : FRow w ao fs) (hm : fs.length ≤ 9223372036854775807) :
    Calls Tryz.prog 96 #[.slice ao fs.length cap, f.val a c] w fun e w' => e = .returned (.int .i64 (nextE fs f)) ∧ Below w.heap.size w w' := by
  have CM : Hid (∀ W, FRow W ao fs → Calls Tryz.prog 80 #[.slice ao fs.length cap, f.val a c] W fun e w' => e = .returned (.bool (fmay fs f)) ∧ Below W.heap.size W w') := fun W h => fmay_any ao fs cap f a c W h hm
  have E : Hid (nextE fs f = if fmay fs f then (if fs.length = 64 then 3 else 0) else 1) := rfl
  obtain ⟨tag, isB, n, b⟩ := f
  generalize fmay fs ⟨tag, isB, n, b⟩ = m at *
  unfold Fld.val at CM ⊢
  cases m
  · have E2 : Hid (nextE fs ⟨tag, isB, n, b⟩ = 1) := by show nextE _ _ = _; rw [E.out]; rfl
    clear E
    go_enter Tryz.func96, Tryz.ntmps96
    go_wp2_with fail
    refine (CM.out _ (hr.alloc _)).mono ?_
    rintro e w1 ⟨rfl, hb1⟩
    go_wp2
    go_ret
    exact ⟨ret_int E2.out.symm, ((Below.refl _ _).alloc (Nat.le_refl _) _).trans (hb1.mono (by simp))⟩
  · by_cases h64 : fs.length = 64
    · have E2 : Hid (nextE fs ⟨tag, isB, n, b⟩ = 3) := by show nextE _ _ = _; rw [E.out, if_pos rfl, if_pos h64]
      have h64' : ((fs.length : Int) == 64) = true := by rw [beq_iff_eq]; omega
      clear E h64
      go_enter Tryz.func96, Tryz.ntmps96
      go_wp2_with fail
      refine (CM.out _ (hr.alloc _)).mono ?_
      rintro e w1 ⟨rfl, hb1⟩
      go_wp2
      go_ret
      exact ⟨ret_int E2.out.symm, ((Below.refl _ _).alloc (Nat.le_refl _) _).trans (hb1.mono (by simp))⟩
    · have E2 : Hid (nextE fs ⟨tag, isB, n, b⟩ = 0) := by show nextE _ _ = _; rw [E.out, if_pos rfl, if_neg h64]
      have h64' : ((fs.length : Int) == 64) = false := by rw [beq_eq_false_iff_ne]; omega
      clear E h64
      go_enter Tryz.func96, Tryz.ntmps96
      go_wp2_with fail
      refine (CM.out _ (hr.alloc _)).mono ?_
      rintro e w1 ⟨rfl, hb1⟩
      go_wp2
      go_ret
      exact ⟨ret_int E2.out.symm, ((Below.refl _ _).alloc (Nat.le_refl _) _).trans (hb1.mono (by simp))⟩

def zeroF : Fld := ⟨0, false, 0, []⟩
/-- The field that bytes begin with, how many bytes it has, the error. -/
def rf (zs : List Int) : Fld × Int × Int :=
  if (rd zs).2.2 ≠ 0 then (zeroF, 0, (rd zs).2.2) else
  if (rd (zs.drop (rd zs).2.1.toNat)).2.2 ≠ 0 then (zeroF, 0, (rd (zs.drop (rd zs).2.1.toNat)).2.2) else
  if (rd zs).1 % 2 = 0 then (⟨(rd zs).1 / 2, false, (rd (zs.drop (rd zs).2.1.toNat)).1, []⟩, (rd zs).2.1 + (rd (zs.drop (rd zs).2.1.toNat)).2.1, 0) else
  if (zs.length : Int) - ((rd zs).2.1 + (rd (zs.drop (rd zs).2.1.toNat)).2.1) < (rd (zs.drop (rd zs).2.1.toNat)).1 then (zeroF, 0, 5) else
  (⟨(rd zs).1 / 2, true, 0, (zs.drop ((rd zs).2.1 + (rd (zs.drop (rd zs).2.1.toNat)).2.1).toNat).take (rd (zs.drop (rd zs).2.1.toNat)).1.toNat⟩,
    (rd zs).2.1 + (rd (zs.drop (rd zs).2.1.toNat)).2.1 + (rd (zs.drop (rd zs).2.1.toNat)).1, 0)

end Go.Proofs.YtepohbcpepkboaaGreat

