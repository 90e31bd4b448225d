/- What appendField makes: a row with a field's bytes behind. Conditions: the row is the caller's own; the field's tag is from 1 to 1000, its bytes lie below that row. -/
import Derived.Test.YtepohbcpepkboaaGreatFld
import Derived.Test.YtepohbcpepkboaaGreatVarA
import Derived.Deep.DeepMust
import Derived.OpenShut
namespace Go.Proofs.YtepohbcpepkboaaGreat
open Go.RowKit

def mixedB (f : Fld) : Bool := if f.isB then f.n != 0 else decide (0 < f.b.length)
set_option maxRecDepth 100000 in
theorem mixed_any (f : Fld) (a : Option Addr) (c : Nat) (w : World) : Calls Tryz.prog 81 #[f.val a c] w fun e w' => e = .returned (.bool (mixedB f)) ∧ Below w.heap.size w w' := by
  obtain ⟨tag, isB, n, b⟩ := f
  cases isB
  · have E : Hid (mixedB ⟨tag, false, n, b⟩ = decide (0 < b.length)) := by show mixedB _ = _; simp [mixedB]
    unfold Fld.val
    go_enter Tryz.func81, Tryz.ntmps81
    go_wp2
    go_ret
    exact ⟨ret_bool E.out.symm, (Below.refl _ _).alloc (Nat.le_refl _) _⟩
  · have E : Hid (mixedB ⟨tag, true, n, b⟩ = (n != 0)) := by show mixedB _ = _; simp [mixedB]
    unfold Fld.val
    go_enter Tryz.func81, Tryz.ntmps81
    go_wp2
    go_ret
    exact ⟨ret_bool E.out.symm, (Below.refl _ _).alloc (Nat.le_refl _) _⟩

/-- May a field stand behind those ahead? -/
def fmay (ahead : List Fld) (f : Fld) : Bool :=
  if f.tag < 1 ∨ 1000 < f.tag then false else match ahead.getLast? with
    | none => true
    | some l => if f.tag = l.tag then f.isB && l.isB else decide (l.tag < f.tag)
set_option maxRecDepth 100000 in
theorem fmay_any (ao : Option Addr) (fs : List Fld) (cap : Nat) (f : Fld) (a : Option Addr) (c : Nat) (w : World) (hr : FRow w ao fs) (hm : fs.length ≤ 9223372036854775807) :
    Calls Tryz.prog 80 #[.slice ao fs.length cap, f.val a c] w fun e w' => e = .returned (.bool (fmay fs f)) ∧ Below w.heap.size w w' := by
  obtain ⟨tag, isB, n, b⟩ := f
  by_cases h1 : tag < 1
  · have E : Hid (fmay fs ⟨tag, isB, n, b⟩ = false) := by show fmay _ _ = _; simp [fmay, h1]
    unfold Fld.val
    clear hr
    go_enter Tryz.func80, Tryz.ntmps80
    go_wp2
    go_ret
    exact ⟨ret_bool E.out.symm, (Below.refl _ _).alloc (Nat.le_refl _) _⟩
  by_cases h2 : 1000 < tag
  · have E : Hid (fmay fs ⟨tag, isB, n, b⟩ = false) := by show fmay _ _ = _; simp [fmay, h2]
    unfold Fld.val
    clear hr
    go_enter Tryz.func80, Tryz.ntmps80
    go_wp2
    go_ret
    exact ⟨ret_bool E.out.symm, (Below.refl _ _).alloc (Nat.le_refl _) _⟩
  by_cases hz : fs = []
  · subst hz
    have E : Hid (fmay [] ⟨tag, isB, n, b⟩ = true) := by show fmay _ _ = _; simp [fmay]; omega
    unfold Fld.val
    clear hr
    go_enter Tryz.func80, Tryz.ntmps80
    go_wp2
    go_ret
    exact ⟨ret_bool E.out.symm, (Below.refl _ _).alloc (Nat.le_refl _) _⟩
  · obtain ⟨k, hk⟩ : ∃ k, fs.length = k + 1 := ⟨fs.length - 1, by have := List.length_pos_iff.2 hz; omega⟩
    obtain ⟨b0, off, rfl, hc⟩ := hr.2 hz
    obtain ⟨la, lc, c0, c1, c2, c3, -⟩ := hc k (by omega)
    have hlast : fs.getLast? = some fs[k] := by rw [List.getLast?_eq_getElem?, show fs.length - 1 = k by omega]; exact List.getElem?_eq_getElem (by omega)
    generalize fs[k] = l at *
    obtain ⟨ltag, lB, ln, lb⟩ := l
    simp only at c0 c1 c2 c3
    have hE : fmay fs ⟨tag, isB, n, b⟩ = if tag = ltag then isB && lB else decide (ltag < tag) := by
      have : ¬ (tag < 1 ∨ 1000 < tag) := by omega
      simp [fmay, this, hlast]
    have E : Hid (fmay fs ⟨tag, isB, n, b⟩ = if tag = ltag then isB && lB else decide (ltag < tag)) := hE
    unfold Fld.val
    clear hr hc hlast hE
    rw [hk]
    have hne : (((k + 1 : Nat) : Int) == 0) = false := by rw [beq_eq_false_iff_ne]; omega
    have hkm : k ≤ 9223372036854775806 := by omega
    have hlt : b0 < w.heap.size := World.block_lt_of_cell? w ⟨b0, off + k * 4, none⟩ c0
    clear hz hk
    by_cases ht : tag = ltag
    · subst ht
      cases isB
      · go_enter Tryz.func80, Tryz.ntmps80
        go_wp2
        go_ret
        exact ⟨ret_bool (by rw [E.out]; simp), ((Below.refl _ _).alloc (Nat.le_refl _) _).alloc (by simp) _⟩
      · go_enter Tryz.func80, Tryz.ntmps80
        go_wp2
        go_ret
        exact ⟨ret_bool (by rw [E.out]; simp), ((Below.refl _ _).alloc (Nat.le_refl _) _).alloc (by simp) _⟩
    · have ht' : (tag == ltag) = false := by simpa using ht
      go_enter Tryz.func80, Tryz.ntmps80
      go_wp2
      go_ret
      exact ⟨ret_bool (by rw [E.out, if_neg ht]), ((Below.refl _ _).alloc (Nat.le_refl _) _).alloc (by simp) _⟩

/-- How many bytes fields have. -/
def blen (fs : List Fld) : Nat := (fs.map fun f => f.b.length).sum
set_option maxRecDepth 100000 in
theorem blen_snoc (fs : List Fld) (f : Fld) : blen (fs ++ [f]) = blen fs + f.b.length := by simp [blen]
set_option maxRecDepth 100000 in
theorem blen_take_le : ∀ (fs : List Fld) (k : Nat), blen (fs.take k) ≤ blen fs
  | [], k => by simp
  | f :: fs, 0 => by simp [blen]
  | f :: fs, k + 1 => by
    have h := blen_take_le fs k
    simp only [blen] at h
    simp only [List.take_succ_cons, blen, List.map_cons, List.sum_cons]
    omega
def tooB (fs : List Fld) : Bool := decide (64 < fs.length) || decide (4096 < blen fs)

set_option maxHeartbeats 1600000 in
set_option maxRecDepth 100000 in
theorem too_any (ao : Option Addr) (fs : List Fld) (cap : Nat) (w : World) (hr : FRow w ao fs) (hm : fs.length ≤ 9223372036854775807) :
    Calls Tryz.prog 79 #[.slice ao fs.length cap] w fun e w' => e = .returned (.bool (tooB fs)) ∧ Below w.heap.size w w' := by
  by_cases h64 : 64 < fs.length
  · have E : Hid (tooB fs = true) := by show tooB fs = _; simp [tooB, h64]
    clear hr
    go_enter Tryz.func79, Tryz.ntmps79
    go_wp2
    go_ret
    exact ⟨ret_bool E.out.symm, Below.refl _ _⟩
  have E : Hid (tooB fs = decide (4096 < blen fs)) := by show tooB fs = _; simp [tooB, h64]
  by_cases hz : fs = []
  · subst hz
    clear hr
    go_enter Tryz.func79, Tryz.ntmps79
    go_wp2
    refine wp_loop_rounds 1 ?_
    rw [rounds_succ]
    go_wp2
    go_ret
    exact ⟨ret_bool E.out.symm, Below.refl _ _⟩
  · obtain ⟨b0, off, rfl, hc⟩ := hr.2 hz
    go_enter Tryz.func79, Tryz.ntmps79
    go_wp2
    go_loopw [3, 11] (fun sr si wr => ∃ (k : Nat) (room : Int), k ≤ fs.length ∧ si = .int .i64 k ∧ sr = .int .i64 room ∧ 0 ≤ room ∧ room ≤ 4096 ∧ Hid (room = 4096 - (blen (fs.take k) : Int)) ∧ Below w.heap.size w wr) (fun _ si _ => fs.length - (intOf si).toNat)
    case atStart => exact ⟨0, 4096, by omega, rfl, rfl, by omega, by omega, by simp [Hid, blen], Below.refl _ _⟩
    case round =>
      obtain ⟨k, room, hk, rfl, rfl, hr0, hr1, hroom, hb⟩ := hrel
      by_cases hlt : k < fs.length
      · obtain ⟨fa, fc, c0, c1, c2, c3, hsh⟩ := (hc k hlt)
        have hlt0 : b0 < w.heap.size := World.block_lt_of_cell? w ⟨b0, off + k * 4, none⟩ c0
        have d0 := (hb.cell (p := ⟨b0, off + k * 4, none⟩) hlt0).trans c0
        have d1 := (hb.cell (p := ⟨b0, off + k * 4 + 1, none⟩) hlt0).trans c1
        have d2 := (hb.cell (p := ⟨b0, off + k * 4 + 2, none⟩) hlt0).trans c2
        have d3 := (hb.cell (p := ⟨b0, off + k * 4 + 3, none⟩) hlt0).trans c3
        have htk : fs.take (k + 1) = fs.take k ++ [fs[k]] := List.take_succ_eq_append_getElem hlt
        have hbl : blen (fs.take (k + 1)) = blen (fs.take k) + (fs[k]).b.length := by rw [htk, blen_snoc]
        have hmax := hsh.2.2.2
        have hle := hsh.2.2.1
        unfold maxLen at hmax
        have HB : Hid (blen (fs.take (k + 1)) = blen (fs.take k) + (fs[k]).b.length) := hbl
        have hlt1 : b0 < wr.heap.size := Nat.lt_of_lt_of_le hlt0 hb.size
        clear c0 c1 c2 c3 htk hbl hsh hc hr
        generalize fs[k] = f at *
        obtain ⟨tag, isB, n, b⟩ := f
        simp only at d0 d1 d2 d3 hle
        by_cases hgt : room < (b.length : Int)
        · have E2 : Hid (tooB fs = true) := by
            show tooB fs = _
            rw [E.out, decide_eq_true_iff]
            have h1 := blen_take_le fs (k + 1)
            have h2 := hroom.out
            have h3 := HB.out
            simp only at h3
            omega
          clear E
          go_wp2
          go_ret
          exact ⟨ret_bool E2.out.symm, hb.alloc hb.size _⟩
        · go_wp2
          go_roundw
          case rel => exact ⟨k + 1, room - b.length, by omega, by go_num, rfl, by omega, by omega, by have h2 := hroom.out; have h3 := HB.out; simp only at h3; show _ = _; omega, hb.alloc hb.size _⟩
          case measure => simp [intOf]; omega
      · have E2 : Hid (tooB fs = false) := by
          show tooB fs = _
          rw [E.out, decide_eq_false_iff_not]
          have h2 := hroom.out
          rw [List.take_of_length_le (by omega)] at h2
          omega
        clear E hr hc
        go_wp2
        go_ret
        exact ⟨ret_bool E2.out.symm, hb⟩
end Go.Proofs.YtepohbcpepkboaaGreat

namespace Go.Proofs.YtepohbcpepkboaaGreat
open Go.RowKit

set_option maxRecDepth 100000 in
theorem or128_all : ∀ k : Fin 256, k.val ||| 128 = k.val % 128 + 128 := by decide +kernel
set_option maxRecDepth 100000 in
/-- byte(n)|128. -/
theorem low_or (n : Int) : bits .or .u8 (n % 256) 128 = n % 128 + 128 := by
  rw [u8_or _ _ (by omega) (by omega) (by decide) (by decide)]
  have := or128_all ⟨(n % 256).toNat, by omega⟩
  simp only at this
  have e : (128 : Int).toNat = 128 := rfl
  rw [e, this]; omega

set_option maxHeartbeats 1600000 in
set_option maxRecDepth 100000 in
theorem append_any (a : Option Addr) (zs : List Int) (cap : Nat) (n : Int) (w : World) (hrow : Row w a zs) (hnil : a = none → zs.length = 0 ∧ cap = 0) (hlen : zs.length ≤ 70368744177664) (h0 : 0 ≤ n) (h1 : n < 18446744073709551616) :
    Calls Tryz.prog 102 #[.slice a zs.length cap, .int .u64 n] w fun e w' =>
      e = .returned (.slice (some ⟨w.heap.size, 0, none⟩) (zs.length + (enc n).length) (zs.length + (enc n).length)) ∧
      w'.ownsRow w.heap.size 5 1 (.slice (some ⟨w.heap.size, 0, none⟩) (zs.length + (enc n).length) (zs.length + (enc n).length)) (zs.length + (enc n).length) ((zs ++ enc n).map (Value.int .u8)) ∧ Below w.heap.size w w' := by
  obtain ⟨i0, hi, hz0, hz1, hz2⟩ := info_parts info8
  have hl := enc_len n
  go_enter Tryz.func102, Tryz.ntmps102
  go_wp2_with (first
    | (go_at_call 110; refine (size_any _ _ h0 h1).mono ?_; rintro e w' ⟨rfl, rfl⟩)
    | (at_make; refine wpList_make_own _ rfl _ _ 29 rfl w.heap.size 5 i0 (.int .u8 0) 1 Tryz.underlying29 hi hz0 hz1 _ _ _ (zs.length + (enc n).length) rfl rfl (by omega) (by rw [hz2]; omega) (by unfold maxLen; omega) (Nat.le_refl _) ?_; intro w0 hown0 hgrow0; have hrow0 := hrow.below ((Below.refl _ _).grown hgrow0 (Nat.le_refl _) (fun k h => by cases h)))
    | (at_builtin; go_must (refine wpList_append_fits_any _ rfl (.tmp 12) (.tmp 13) 29 rfl w.heap.size 5 i0 1 Tryz.underlying29 hi hz1 w.heap.size 0 (zs.length + (enc n).length) _ rfl hown0 a zs.length cap (zs.map (Value.int .u8)) rfl (by simp) hnil hrow0.news (ints_oneCell _ _) (by omega) ?_; intro w1 hown1 hgrow1)))
  simp only [Nat.zero_add, List.nil_append] at hown1
  have hb1 : Below w.heap.size w w1 := ((Below.refl _ _).grown hgrow0 (Nat.le_refl _) (fun k h => by cases h)).grown hgrow1 hgrow0.size (fun k h => by cases h; exact Nat.le_refl _)
  clear hgrow0 hgrow1 hrow0 hown0 hrow
  go_loopw [5, 1] (fun out sn wr => ∃ (f : Nat) (cur : Int) (pre : List Int), 0 ≤ cur ∧ cur ≤ n ∧ sn = .int .u64 cur ∧ out = .slice (some ⟨w.heap.size, 0, none⟩) (zs.length + pre.length) (zs.length + (enc n).length) ∧
      wr.ownsRow w.heap.size 5 1 (.slice (some ⟨w.heap.size, 0, none⟩) (zs.length + pre.length) (zs.length + (enc n).length)) (zs.length + pre.length) ((zs ++ pre).map (Value.int .u8)) ∧ Hid (enc n = pre ++ encF (f + 1) cur ∧ cur < 128 ^ (f + 1)) ∧ Below w.heap.size w wr)
    (fun _ sn _ => (intOf sn).toNat)
  case atStart => exact ⟨9, n, [], h0, Int.le_refl _, rfl, rfl, by simpa using hown1, ⟨rfl, by omega⟩, hb1⟩
  case round =>
    obtain ⟨f, cur, pre, hc0, hcn, rfl, rfl, hown, hid, hnx⟩ := hrel
    clear hown1 hb1
    by_cases hge : 128 ≤ cur
    · obtain ⟨f, rfl⟩ : ∃ g, f = g + 1 := by
        cases f with
        | zero => have := hid.out.2; omega
        | succ g => exact ⟨g, rfl⟩
      have he : enc n = (pre ++ [cur % 128 + 128]) ++ encF (f + 1) (cur / 128) := by rw [hid.out.1, encF_ge _ _ hge]; simp
      have hp : cur / 128 < 128 ^ (f + 1) := by
        have h2 := hid.out.2
        rw [Int.pow_succ] at h2
        omega
      have hlen1 : pre.length + 1 ≤ (enc n).length := by rw [he]; simp
      have HE : Hid (enc n = (pre ++ [cur % 128 + 128]) ++ encF (f + 1) (cur / 128) ∧ cur / 128 < 128 ^ (f + 1)) := ⟨he, hp⟩
      clear he hp hid
      have hlo := low_or cur
      go_wp2_with (at_builtin; go_must (refine wpList_append_fits _ rfl (.tmp 17) (.tmp 21) 29 rfl w.heap.size 5 i0 1 Tryz.underlying29 hi hz1 w.heap.size (zs.length + pre.length) (zs.length + (enc n).length) _ rfl (hown.alloc _) ⟨wr.heap.size, 0, none⟩ 1 1 [.int .u8 (cur % 128 + 128)] rfl rfl (by intro t u ht; match t, ht with | 0, ht => simp at ht; subst ht; simp [Addr.add]) (by intro u hu; simp at hu; subst hu; rfl) (by omega) ?_; intro w2 hown2 hgrow2))
      go_roundw
      case rel => exact ⟨f, cur / 128, pre ++ [cur % 128 + 128], by omega, by omega, rfl, by simp [Nat.add_assoc], by simpa [Nat.add_assoc] using hown2, HE, (hnx.alloc hnx.size _).grown hgrow2 (by simp; have := hnx.size; omega) (fun k hk => by cases hk; exact Nat.le_refl _)⟩
      case measure => simp [intOf]; omega
    · have he : enc n = pre ++ [cur] := by rw [hid.out.1, encF_lt _ _ (by omega)]
      have hlen1 : (enc n).length = pre.length + 1 := by rw [he]; simp
      have HE : Hid (enc n = pre ++ [cur]) := he
      have HL : Hid ((enc n).length = pre.length + 1) := hlen1
      have hle : pre.length + 1 ≤ (enc n).length := by omega
      clear he hid hlen1
      go_wp2_with (at_builtin; go_must (refine wpList_append_fits _ rfl (.tmp 25) (.tmp 28) 29 rfl w.heap.size 5 i0 1 Tryz.underlying29 hi hz1 w.heap.size (zs.length + pre.length) (zs.length + (enc n).length) _ rfl (hown.alloc _) ⟨wr.heap.size, 0, none⟩ 1 1 [.int .u8 cur] rfl rfl (by intro t u ht; match t, ht with | 0, ht => simp at ht; subst ht; simp [Addr.add]) (by intro u hu; simp at hu; subst hu; rfl) (by omega) ?_; intro w2 hown2 hgrow2))
      go_ret
      have e1 : zs.length + pre.length + 1 = zs.length + (enc n).length := by rw [HL.out]; omega
      have e2 : (zs ++ pre).map (Value.int .u8) ++ [Value.int .u8 cur] = (zs ++ enc n).map (Value.int .u8) := by rw [HE.out]; simp
      rw [e1, e2] at hown2
      refine ⟨?_, by simpa using hown2, (hnx.alloc hnx.size _).grown hgrow2 (by simp; have := hnx.size; omega) (fun k hk => by cases hk; exact Nat.le_refl _)⟩
      show Ending.returned (Value.slice _ (zs.length + pre.length + 1) _) = _
      rw [e1]
end Go.Proofs.YtepohbcpepkboaaGreat

namespace Go.Proofs.YtepohbcpepkboaaGreat
open Go.RowKit Go.ChangeShapes
set_option maxRecDepth 100000 in
theorem append_nil (n : Int) (w : World) (h0 : 0 ≤ n) (h1 : n < 18446744073709551616) : Calls Tryz.prog 102 #[.slice none 0 0, .int .u64 n] w fun e w' =>
    e = .returned (.slice (some ⟨w.heap.size, 0, none⟩) (enc n).length (enc n).length) ∧ Row w' (some ⟨w.heap.size, 0, none⟩) (enc n) ∧ Below w.heap.size w w' := by
  refine (append_any none [] 0 n w (Row.nil _ _) (fun _ => ⟨rfl, rfl⟩) (by simp) h0 h1).mono ?_
  rintro e w' ⟨he, hown, hb⟩
  simp only [List.length_nil, Nat.zero_add, List.nil_append] at he hown
  exact ⟨he, Row.own (enc_byte n h0) rfl hown, hb⟩
set_option maxRecDepth 100000 in
/-- The world behind is the one before, but for new blocks and draws. -/
theorem Below.drewN' {B : Nat} {a w : World} (h : Below B a w) (n : Nat) : Below B a (w.drewN n) := ⟨h.os, h.tape, h.output, h.size, h.block⟩
set_option maxRecDepth 100000 in
theorem u64_of_wf {n : Int} (h : (Lit.int .u64 n).wf = true) : 0 ≤ n ∧ n < 18446744073709551616 := by
  have := bounds_u64 h
  omega
set_option maxRecDepth 100000 in
theorem i64_of_wf {n : Int} (h : (Lit.int .i64 n).wf = true) : -9223372036854775808 ≤ n ∧ n ≤ 9223372036854775807 := by
  have := bounds_i64 h
  omega
end Go.Proofs.YtepohbcpepkboaaGreat

namespace Go.Proofs.YtepohbcpepkboaaGreat
open Go.RowKit

/-- A field's bytes. -/
def lay (f : Fld) : List Int := if f.isB then enc (f.tag * 2 + 1) ++ enc f.b.length ++ f.b else enc (f.tag * 2) ++ enc f.n

set_option maxRecDepth 100000 in
/-- A block of another type is no row of bytes: an append leaves it. -/
theorem box_grown {w w' : World} {B base n : Nat} {cs : Array Value} {T : TypeId} {mk : Nat × Nat} {v : Value} {xs : List Value} (h : w.heap[B]? = some (.cells cs T mk)) (hT : T ≠ 5)
    (hown : w.ownsRow base 5 1 v n xs) (hg : w.grownBy w' v.ownBlock) : w'.heap[B]? = some (.cells cs T mk) := by
  have hlt : B < w.heap.size := (Array.getElem?_eq_some_iff.1 h).1
  rw [hg.block B hlt ?_, h]
  intro e
  rcases hown.2 with ⟨hv, _⟩ | ⟨g, cap, cur, hv, _, hh, _⟩
  · rw [hv] at e; simp [Value.ownBlock] at e
  · rw [hv] at e
    simp only [Value.ownBlock, Option.some.injEq] at e
    rw [← e, h] at hh
    simp at hh
    exact hT hh.2.1
set_option maxRecDepth 100000 in
theorem box_below {w w' : World} {B : Nat} {o : Obj} (h : w.heap[B]? = some o) (hb : Below w.heap.size w w') : w'.heap[B]? = some o :=
  (hb.block B (Array.getElem?_eq_some_iff.1 h).1).trans h
set_option maxRecDepth 100000 in
theorem box_cell {w : World} {B : Nat} {cs : Array Value} {T : TypeId} {mk : Nat × Nat} (h : w.heap[B]? = some (.cells cs T mk)) (j : Nat) : w.cell? ⟨B, j, none⟩ = cs[j]? := cell_of_row w B j cs T mk h
set_option maxRecDepth 100000 in
/-- A row below B stays while nothing below B is written. -/
theorem Row.belowB {w w' : World} {B : Nat} {a : Option Addr} {zs : List Int} (h : Row w a zs) (hlt : zs ≠ [] → ∀ x, a = some x → x.block < B) (hb : Below B w w') : Row w' a zs := by
  refine ⟨h.1, fun hz => ?_⟩
  obtain ⟨b, off, rfl, hc⟩ := h.2 hz
  exact ⟨b, off, rfl, fun j hj => (hb.cell (p := ⟨b, off + j, none⟩) (hlt hz ⟨b, off, none⟩ rfl)).trans (hc j hj)⟩

set_option maxHeartbeats 3200000 in
set_option maxRecDepth 100000 in
theorem appendField_any (base : Nat) (v : Value) (n : Nat) (xs : List Int) (f : Fld) (fa : Option Addr) (fc : Nat) (w : World) (hown : w.ownsRow base 5 1 v n (xs.map (Value.int .u8))) (hbase : base ≤ w.heap.size)
    (hok : f.ok) (ht : 1 ≤ f.tag ∧ f.tag ≤ 1000) (hsh : f.shown w fa fc) (hlt : f.b ≠ [] → ∀ x, fa = some x → x.block < base) (hlen : n + f.b.length ≤ 35184372088832) :
    Calls Tryz.prog 82 #[v, f.val fa fc] w fun e w' => ∃ v', e = .returned v' ∧ w'.ownsRow base 5 1 v' (n + (lay f).length) ((xs ++ lay f).map (Value.int .u8)) ∧ Below base w w' := by
  obtain ⟨tag, isB, m, b⟩ := f
  obtain ⟨⟨ht0, ht1⟩, hm0, hm1⟩ := hok
  obtain ⟨hr, hnil, hbc, hmax⟩ := hsh
  simp only at ht0 ht1 hm0 hm1 hr hnil hbc hlt hlen ht
  unfold Fld.val
  cases isB
  · have hl1 := enc_len (tag * 2)
    have hl2 := enc_len m
    have hbox : (w.alloc (.cells #[.int .i64 tag, .bool false, .int .u64 m, .slice fa b.length fc] 149)).heap[w.heap.size]? = some (.cells #[.int .i64 tag, .bool false, .int .u64 m, .slice fa b.length fc] 149 (0, 0)) := heap_alloc_new w _
    go_enter Tryz.func82, Tryz.ntmps82
    go_wp2_with fail
    refine (append_nil (tag * 2) _ (by omega) (by omega)).mono ?_
    rintro e w2 ⟨rfl, hr2, hb2⟩
    have hr2' : Row w2 (some ⟨w.heap.size + 1, 0, none⟩) (enc (tag * 2)) := by simpa using hr2
    have hown2 := own_below (hown.alloc _) hb2
    have hbox2 := box_below hbox hb2
    have hs2 : base ≤ w2.heap.size := by have := hb2.size; simp at this; omega
    have hB2 : Below base w w2 := ((Below.refl _ _).alloc hbase _).trans (hb2.mono (by simp; omega))
    go_wp2_with (at_builtin; go_must (refine wpList_append_bytes rfl (.tmp 13) (.tmp 15) rfl base v n (xs.map (Value.int .u8)) rfl hown2 _ (enc (tag * 2)) (enc (tag * 2)).length _ rfl rfl hr2' (by intro h; cases h) (by omega) hs2 ?_; intro v3 w3 hown3 hgrow3; have hbox3 := box_grown hbox2 (by decide) hown2 hgrow3; have hc3 := box_cell hbox3 2))
    have hs3 : base ≤ w3.heap.size := Nat.le_trans hs2 hgrow3.size
    have hB3 := below_own hB2 hown2 hs2 hgrow3
    clear hown2 hbox2 hbox hr2 hr2' hb2 hgrow3
    refine (append_nil m _ hm0 hm1).mono ?_
    rintro e w4 ⟨rfl, hr4, hb4⟩
    have hown4 := own_below hown3 hb4
    have hs4 : base ≤ w4.heap.size := Nat.le_trans hs3 hb4.size
    have hB4 := hB3.trans (hb4.mono hs3)
    clear hown3 hb4 hbox3 hc3 hB3 hB2
    go_wp2_with (at_builtin; go_must (refine wpList_append_bytes rfl (.tmp 17) (.tmp 20) rfl base v3 (n + (enc (tag * 2)).length) (xs.map (Value.int .u8) ++ (enc (tag * 2)).map (Value.int .u8)) rfl hown4 _ (enc m) (enc m).length _ rfl rfl hr4 (by intro h; cases h) (by omega) hs4 ?_; intro v5 w5 hown5 hgrow5))
    have hB5 := below_own hB4 hown4 hs4 hgrow5
    go_ret
    refine ⟨v5, rfl, ?_, hB5⟩
    simpa [lay, Nat.add_assoc] using hown5
  · have hl1 := enc_len (tag * 2 + 1)
    have hl2 := enc_len (b.length : Int)
    have hbox : (w.alloc (.cells #[.int .i64 tag, .bool true, .int .u64 m, .slice fa b.length fc] 149)).heap[w.heap.size]? = some (.cells #[.int .i64 tag, .bool true, .int .u64 m, .slice fa b.length fc] 149 (0, 0)) := heap_alloc_new w _
    go_enter Tryz.func82, Tryz.ntmps82
    go_wp2_with fail
    refine (append_nil (tag * 2 + 1) _ (by omega) (by omega)).mono ?_
    rintro e w2 ⟨rfl, hr2, hb2⟩
    have hr2' : Row w2 (some ⟨w.heap.size + 1, 0, none⟩) (enc (tag * 2 + 1)) := by simpa using hr2
    have hown2 := own_below (hown.alloc _) hb2
    have hbox2 := box_below hbox hb2
    have hs2 : base ≤ w2.heap.size := by have := hb2.size; simp at this; omega
    have hB2 : Below base w w2 := ((Below.refl _ _).alloc hbase _).trans (hb2.mono (by simp; omega))
    go_wp2_with (at_builtin; go_must (refine wpList_append_bytes rfl (.tmp 22) (.tmp 25) rfl base v n (xs.map (Value.int .u8)) rfl hown2 _ (enc (tag * 2 + 1)) (enc (tag * 2 + 1)).length _ rfl rfl hr2' (by intro h; cases h) (by omega) hs2 ?_; intro v3 w3 hown3 hgrow3; have hbox3 := box_grown hbox2 (by decide) hown2 hgrow3; have hc3 := box_cell hbox3 3))
    have hs3 : base ≤ w3.heap.size := Nat.le_trans hs2 hgrow3.size
    have hB3 := below_own hB2 hown2 hs2 hgrow3
    clear hown2 hbox2 hbox hr2 hr2' hb2 hgrow3
    refine (append_nil (b.length : Int) _ (by omega) (by omega)).mono ?_
    rintro e w4 ⟨rfl, hr4, hb4⟩
    have hown4 := own_below hown3 hb4
    have hbox4 := box_below hbox3 hb4
    have hs4 : base ≤ w4.heap.size := Nat.le_trans hs3 hb4.size
    have hB4 := hB3.trans (hb4.mono hs3)
    clear hown3 hb4 hbox3 hc3 hB3 hB2
    go_wp2_with (first
      | (at_builtin; (refine wpList_append_bytes rfl (.tmp 27) (.tmp 32) rfl base v3 (n + (enc (tag * 2 + 1)).length) (xs.map (Value.int .u8) ++ (enc (tag * 2 + 1)).map (Value.int .u8)) rfl hown4 _ (enc (b.length : Int)) (enc (b.length : Int)).length _ rfl rfl hr4 (by intro h; cases h) (by omega) hs4 ?_; intro v5 w5 hown5 hgrow5; have hbox5 := box_grown hbox4 (by decide) hown4 hgrow5; have hc5 := box_cell hbox5 3; have hB5 := below_own hB4 hown4 hs4 hgrow5; have hs5 : base ≤ w5.heap.size := Nat.le_trans hs4 hgrow5.size))
      | (at_builtin; go_must (refine wpList_append_bytes rfl (.tmp 34) (.tmp 36) rfl base v5 (n + (enc (tag * 2 + 1)).length + (enc (b.length : Int)).length) (xs.map (Value.int .u8) ++ (enc (tag * 2 + 1)).map (Value.int .u8) ++ (enc (b.length : Int)).map (Value.int .u8)) rfl hown5 fa b b.length fc rfl rfl (hr.belowB hlt hB5) hnil (by omega) hs5 ?_; intro v6 w6 hown6 hgrow6)))
    have hB6 := below_own hB5 hown5 hs5 hgrow6
    go_ret
    refine ⟨v6, rfl, ?_, hB6⟩
    simpa [lay, Nat.add_assoc] using hown6
end Go.Proofs.YtepohbcpepkboaaGreat

