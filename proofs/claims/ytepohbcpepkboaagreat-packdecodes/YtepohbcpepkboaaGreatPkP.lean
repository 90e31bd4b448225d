/- PackDecodes: for any bytes it returns true: they are a value's just if they are that value's bytes. No conditions. -/
import Derived.Test.YtepohbcpepkboaaGreatPkL
import Derived.Test.YtepohbcpepkboaaGreatFld
import Derived.ProofKit
import Derived.OpenShut
namespace Go.Proofs.YtepohbcpepkboaaGreat
open Go.RowKit Go.Maps Go.WideMaps

set_option maxRecDepth 100000 in
theorem bequal_any {w : World} {a b : Option Addr} {xs ys : List Int} {c d : Nat} (hx : Row w a xs) (hy : Row w b ys) : Calls Tryz.prog 39 #[.slice a xs.length c, .slice b ys.length d] w fun e w' => e = .returned (.bool (decide (xs = ys))) ∧ w = w' := by
  have h1 := hx.text xs.length c rfl
  have h2 := hy.text ys.length d rfl
  have h3 := str_beq xs ys hx.byte hy.byte
  clear hx hy
  generalize strOfNums xs = s at *
  generalize strOfNums ys = t at *
  go_enter Tryz.func39, Tryz.ntmps39
  go_wp2_with fail
  go_ret
  exact ⟨by rw [← h3]; rfl, rfl⟩
/-- What Decode answers. -/
def decV (zs : List Int) : V × Int := if (valF (zs.length + 1) zs).enc = (zs, 0) then (valF (zs.length + 1) zs, 0) else (V.null, 4)
set_option maxRecDepth 100000 in
set_option maxHeartbeats 6400000 in
theorem pdecode_any {W : World} {a : Option Addr} {zs : List Int} {cap : Nat} (hrow : Row W a zs) (hnil : a = none → zs.length = 0 ∧ cap = 0) (hlc : zs.length ≤ cap) :
    Calls Tryz.prog 14 #[.slice a zs.length cap] W fun e W' => ∃ h, e = .returned (.tuple #[.agg #[h], .int .i64 (decV zs).2]) ∧ Rep W' (fun b => W.heap.size ≤ b) h (decV zs).1 ∧ Below W.heap.size W W' := by
  obtain ⟨hcl, hnk⟩ := valF_good (zs.length + 1) zs hrow.byte
  have hbk := (valF_bulk (zs.length + 1) zs hrow.byte).2
  have hb0 : Below W.heap.size W (W.alloc (.cells #[.nilIface] 34)) := (Below.refl _ _).alloc (Nat.le_refl _) _
  have hH0 := heap_alloc_new W (.cells #[.nilIface] 34)
  have CV := hide (valueof_all (zs.length + 1) zs (by omega) (W.alloc (.cells #[.nilIface] 34)) a cap (hrow.below hb0) hnil hlc)
  have HROW := hide hrow
  have HD : Hid (decV zs = if (valF (zs.length + 1) zs).enc = (zs, 0) then (valF (zs.length + 1) zs, 0) else (V.null, 4)) := rfl
  clear hrow hnil hlc
  generalize valF (zs.length + 1) zs = v at *
  go_enter Tryz.func14, Tryz.ntmps14
  go_wp2_with fail
  refine CV.out.mono ?_
  rintro ex w1 ⟨h, rfl, hr1, hb1⟩
  have hone := hr1.one
  have st1 := store_new 34 h .nilIface hone w1
  have hb2 : Below w1.heap.size w1 (w1.alloc (.cells #[h] 34)) := (Below.refl _ _).alloc (Nat.le_refl _) _
  have hc2 := cell_of_row _ _ 0 _ _ _ (heap_alloc_new w1 (.cells #[h] 34))
  have hzW : W.heap.size < w1.heap.size := by have := hb1.size; simp at this; omega
  have hH2 := (hb2.block _ hzW).trans ((hb1.block _ (by simp)).trans hH0)
  have hB1 := hb0.trans (hb1.mono hb0.size)
  have hB2 := hB1.trans (hb2.mono hB1.size)
  have hr2 : Rep (w1.alloc (.cells #[h] 34)) (fun b => W.heap.size < b ∧ b < w1.heap.size) h v := ((hr1.mono (ok' := fun b => W.heap.size < b ∧ b < w1.heap.size) (fun b h1 h2 => ⟨by simp at h1; omega, h2⟩))).stays hb2
  clear CV hr1 hb0 hb1 hb2 hH0
  go_wp2_with fail
  refine (pencode_any hr2 hcl hnk (by omega)).mono ?_
  rintro ex w3 ⟨a3, c3, rfl, hrow3, hn3, hl3, hm3, hf3, hb3⟩
  have hH3 := (hb3.block _ (Array.getElem?_eq_some_iff.1 hH2).1).trans hH2
  have hB3 := hB2.trans (hb3.mono hB2.size)
  have hc3 := (hb3.cell (p := ⟨w1.heap.size, 0, none⟩) (by simp)).trans hc2
  simp only [List.getElem?_toArray, List.getElem?_cons_zero] at hc3
  have hr3 := hr2.stays hb3
  have hrow := HROW.out.below hB3
  clear hc2 hH2 hB2 hr2 hb3 st1 hB1 HROW
  by_cases hE : v.enc = (zs, 0)
  · rw [hE] at hrow3
    have e1 : v.enc.1 = zs := by rw [hE]
    have e2 : v.enc.2 = 0 := by rw [hE]
    obtain ⟨st, hcu, hBf, hrf⟩ := fin_box hH3 hB3 (hr3.mono (fun b hb _ => hb.1))
    have hD : decV zs = (v, 0) := by have := HD.out; rw [this, if_pos hE]
    have HF := hide (And.intro hD (And.intro hBf hrf))
    rw [e1, e2]
    have CQ := hide (bequal_any (c := c3) (d := cap) hrow3 hrow)
    rw [decide_eq_true (rfl : zs = zs)] at CQ
    clear hBf hrf hD HD hE hn3 hl3 hrow3 hrow e1 e2
    go_wp2_with fail
    refine CQ.out.mono ?_
    rintro ex w4 ⟨rfl, rfl⟩
    go_wp2_with fail
    exact bodyPost_ret (v := .tuple #[.agg #[h], .int .i64 0]) (by simp [results, Tryz.results14, go_sem, hcu]) rfl ⟨h, by rw [HF.out.1], by rw [HF.out.1]; exact HF.out.2.2, HF.out.2.1⟩
  · obtain ⟨st, hcu, hBf, hrf⟩ := fin_box (u := .nilIface) (y := V.null) hH3 hB3 Rep.null
    have hD : decV zs = (V.null, 4) := by have := HD.out; rw [this, if_neg hE]
    have HF := hide (And.intro hD (And.intro hBf hrf))
    have hcB : w3.cell? ⟨W.heap.size, 0, none⟩ = some .nilIface := cell_of_row _ _ _ _ _ _ hH3
    have hfB : w3.frozen? ⟨W.heap.size, 0, none⟩ = false := frozen_of_row _ _ _ _ _ hH3
    clear hBf hrf hD HD st
    by_cases h0 : v.enc.2 = 0
    · have hne : v.enc.1 ≠ zs := fun e => hE (by rw [← e, ← h0])
      rw [h0]
      have CQ := hide (bequal_any (c := c3) (d := cap) hrow3 hrow)
      rw [decide_eq_false hne] at CQ
      clear hE hn3 hl3 hrow3 hrow h0 hne
      go_wp2_with fail
      refine CQ.out.mono ?_
      rintro ex w4 ⟨rfl, rfl⟩
      go_wp2_with fail
      exact bodyPost_ret (v := .tuple #[.agg #[.nilIface], .int .i64 4]) (by simp [results, Tryz.results14, go_sem, hcu]) rfl ⟨.nilIface, by rw [HF.out.1], by rw [HF.out.1]; exact HF.out.2.2, HF.out.2.1⟩
    · have h0' : (v.enc.2 != 0) = true := by simpa using h0
      clear hE hn3 hl3 hrow3 hrow h0
      go_wp2_with fail
      exact bodyPost_ret (v := .tuple #[.agg #[.nilIface], .int .i64 4]) (by simp [results, Tryz.results14, go_sem, hcu]) rfl ⟨.nilIface, by rw [HF.out.1], by rw [HF.out.1]; exact HF.out.2.2, HF.out.2.1⟩
end Go.Proofs.YtepohbcpepkboaaGreat

namespace Go.Proofs.YtepohbcpepkboaaGreat
open Go.ChangeShapes Go.WideShapes Go.ChangeAt Go.RowKit

set_option maxRecDepth 100000 in
theorem own_knob : ownKnob Tryz.prog.godebug = none := by kernel_rfl
set_option maxRecDepth 100000 in
theorem laid_out : laidOutB Tryz.prog = true := by kernel_rfl

/-- A slice of bytes that came in. -/
structure BytesIn (w : World) (a : Option Addr) (len cap : Nat) (zs : List Int) : Prop where
  hlen : zs.length = len
  hrow : Row w a zs
  hnil : a = none → zs.length = 0 ∧ cap = 0
  hcap : zs.length ≤ cap
  hmax : cap ≤ maxLen

set_option maxRecDepth 100000 in
theorem bytes_in {H : Type} {tok : TypeId × Value → H} {W : World} {a0 : Option Addr} {len0 cap0 : Nat} {base : Nat} {sp : Nat → Bool} {held : Bool} {fuel : Nat} {x : DataW H × List MemPlace}
    (hf : DataW.trod tok Tryz.prog W base sp held fuel 29 (Value.slice a0 len0 cap0).cells.toList = some x) : ∃ zs, BytesIn W a0 len0 cap0 zs := by
  rcases open_ints Tryz.underlying29 Tryz.underlying5 (by kernel_rfl) hf with ⟨hcs, _⟩ | ⟨ad, l, c, zs, hcs, _, hl, hm, hz, _, hcell, hwz⟩
  · simp [Value.cells] at hcs
    obtain ⟨rfl, rfl, rfl⟩ := hcs
    exact ⟨[], rfl, Row.nil _ _, fun _ => ⟨rfl, rfl⟩, Nat.le_refl _, by simp [maxLen]⟩
  · simp [Value.cells] at hcs
    obtain ⟨rfl, rfl, rfl⟩ := hcs
    have hzl : len0 ≤ zs.length := by rw [hz]; split <;> omega
    have hlen : (zs.take len0).length = len0 := by simp; omega
    refine ⟨zs.take len0, hlen, ⟨?_, ?_⟩, (fun h => by cases h), by rw [hlen]; exact hl, hm⟩
    · intro c hc
      have := bounds_u8 (hwz c (List.mem_of_mem_take hc))
      omega
    · intro hne
      have h0 : 0 < len0 := by
        rcases Nat.eq_zero_or_pos len0 with h | h
        · subst h; simp at hne
        · exact h
      obtain ⟨b, off, spot⟩ := ad
      have hc0 := hcell 0 (by omega)
      have hspot : spot = none := by simpa [Addr.add] using World.cell?_spot hc0
      subst hspot
      refine ⟨b, off, rfl, fun j hj => ?_⟩
      have := hcell j (by omega)
      rw [Addr.add_lit] at this
      rw [this]
      simp [show j < len0 by omega]
end Go.Proofs.YtepohbcpepkboaaGreat

namespace Go.Proofs.YtepohbcpepkboaaGreat
open Go.RowKit Go.Maps Go.WideMaps

def v1 : V := V.mk 3 false 1 0 ByteArray.empty [] []
set_option maxRecDepth 100000 in
theorem v1_packB : v1.packB = [2, 3, 4, 2] := by decide +kernel
set_option maxRecDepth 100000 in
theorem v1_enc : v1.enc = ([2, 3, 4, 2], 0) := by decide +kernel
set_option maxRecDepth 100000 in
theorem v1_cl : v1.cl := by unfold v1; simp [V.cl, V.cl.go]
set_option maxRecDepth 100000 in
theorem v1_nok : v1.nok := nok_leaf (by unfold I64; omega) i64_0
set_option maxRecDepth 100000 in
theorem v1_dec : decV [2, 3, 4, 2] = (v1, 0) := by
  have h := valF_pack 5 v1 v1_cl v1_nok (by decide +kernel) (by rw [v1_packB]; decide)
  rw [v1_packB] at h
  unfold decV
  have e : ([2, 3, 4, 2] : List Int).length + 1 = 5 := rfl
  rw [e, h, if_pos v1_enc]
set_option maxRecDepth 100000 in
theorem awake_facts : ∃ (v : V) (zs : List Int), v.enc = (zs, 0) ∧ decV zs = (v, 0) ∧ v.cl ∧ v.nok ∧ v.bulk ≤ 1048576 ∧ v.gn = 1 ∧ v.isK 3 = true ∧ strOfNums zs = { data := #[2, 3, 4, 2] } ∧ ∀ W' (ok : Nat → Prop), Rep W' ok (.iface 3 (.int .i64 1)) v :=
  ⟨v1, [2, 3, 4, 2], v1_enc, v1_dec, v1_cl, v1_nok, by decide +kernel, by decide +kernel, by decide +kernel, rfl, fun _ _ => Rep.int 1 (by unfold I64; omega)⟩
set_option maxRecDepth 100000 in
theorem pencode_is {W : World} {ok : Nat → Prop} {h : Value} {v : V} {zs : List Int} {er : Int} (hr : Rep W ok h v) (hcl : v.cl) (hnk : v.nok) (hbk : v.bulk ≤ 1048576) (he : v.enc = (zs, er)) :
    Calls Tryz.prog 10 #[.agg #[h]] W fun ex W' => ∃ a c, ex = .returned (.tuple #[.slice a zs.length c, .int .i64 er]) ∧ Row W' a zs ∧ (a = none → zs.length = 0 ∧ c = 0) ∧ zs.length ≤ c ∧ c ≤ maxLen ∧ (∀ ad, a = some ad → W.heap.size ≤ ad.block) ∧ Below W.heap.size W W' := by
  have C := pencode_any hr hcl hnk hbk
  rw [he] at C
  exact C
set_option maxRecDepth 100000 in
theorem pdecode_is {W : World} {a : Option Addr} {zs : List Int} {cap : Nat} {v : V} {er : Int} (hrow : Row W a zs) (hnil : a = none → zs.length = 0 ∧ cap = 0) (hlc : zs.length ≤ cap) (hd : decV zs = (v, er)) :
    Calls Tryz.prog 14 #[.slice a zs.length cap] W fun e W' => ∃ h, e = .returned (.tuple #[.agg #[h], .int .i64 er]) ∧ h.oneCell' = true ∧ Rep W' (fun b => W.heap.size ≤ b) h v ∧ Below W.heap.size W W' := by
  have C := pdecode_any hrow hnil hlc
  rw [hd] at C
  refine C.mono ?_
  rintro e W' ⟨h, rfl, h1, h2⟩
  exact ⟨h, rfl, h1.one, h1, h2⟩
set_option maxRecDepth 100000 in
set_option maxHeartbeats 3200000 in
theorem awake6_any (W : World) : Calls Tryz.prog 8 #[] W fun e w' => e = .returned (.bool true) ∧ Below W.heap.size W w' := by
  obtain ⟨v, zs, he, hd, hcl, hnk, hbk, hg, hk, hs, hr⟩ := awake_facts
  have HE := hide he
  have HD := hide hd
  have HR := hide hr
  have HS := hide hs
  clear he hd hr hs
  go_enter Tryz.func8, Tryz.ntmps8
  go_wp2_with fail
  refine (int_any 1 W).mono ?_
  rintro ex w1 ⟨rfl, hb1⟩
  go_wp2_with fail
  refine (pencode_is (HR.out w1 (fun _ => True)) hcl hnk hbk HE.out).mono ?_
  rintro ex w2 ⟨a, c, rfl, hrow, hnil, hlc, -, -, hb2⟩
  have hB2 := hb1.trans (hb2.mono hb1.size)
  have CDX := hide (pdecode_is hrow hnil hlc HD.out)
  clear hnil hlc hb1 hb2 HE HD HR hcl hnk hbk
  go_wp2_with fail
  refine CDX.out.mono ?_
  rintro ex w3 ⟨h, rfl, hone, hr, hb3⟩
  have st := store_new 34 h .nilIface hone w3
  have hbx : Below w3.heap.size w3 (w3.alloc (.cells #[h] 34)) := (Below.refl _ _).alloc (Nat.le_refl _) _
  have hc3 := cell_of_row _ _ 0 _ _ _ (heap_alloc_new w3 (.cells #[h] 34))
  have hb3x := hb3.trans (hbx.mono hb3.size)
  have hB3 := hB2.trans (hb3x.mono hB2.size)
  have hrow3 := hrow.below hb3x
  clear CDX hb3 hrow hB2 hb3x
  go_wp2_with fail
  refine (gint_any hr _).mono ?_
  rintro ex w4 ⟨rfl, hb4⟩
  have hcv := (hrow3.below hb4).text zs.length c rfl
  rw [HS.out] at hcv
  have hB4 := hB3.trans (hb4.mono hB3.size)
  clear hc3 st hrow3 hB3 hr
  go_wp2_with fail
  go_ret
  exact ⟨rfl, hB4⟩
end Go.Proofs.YtepohbcpepkboaaGreat

namespace Go.Proofs.YtepohbcpepkboaaGreat
open Go.ChangeShapes Go.WideShapes Go.ChangeAt Go.RowKit Go.Maps Go.WideMaps

set_option maxRecDepth 100000 in
theorem enc_right {v : V} {zs : List Int} (h : v.enc = (zs, 0)) : v.right = true := by
  unfold V.enc at h
  split at h
  · rename_i h1; exact h1.1
  · injection h with _ h2; simp at h2
set_option maxRecDepth 100000 in
theorem dec_ways (zs : List Int) (hz : ∀ c ∈ zs, 0 ≤ c ∧ c ≤ 255) : (∃ v, decV zs = (v, 0) ∧ v.enc = (zs, 0) ∧ v.right = true ∧ v.cl ∧ v.nok ∧ v.bulk ≤ 1048576) ∨ decV zs = (V.null, 4) := by
  unfold decV
  split
  · rename_i h
    have hg := valF_good (zs.length + 1) zs hz
    have hb := (valF_bulk (zs.length + 1) zs hz).2
    exact Or.inl ⟨_, rfl, h, enc_right h, hg.1, hg.2, by omega⟩
  · exact Or.inr rfl
set_option maxRecDepth 100000 in
set_option maxHeartbeats 6400000 in
theorem decodes_walk (a : Option Addr) (zs : List Int) (cap : Nat) (w : World) (h : BytesIn w a zs.length cap zs) :
    Calls Tryz.prog 4 #[.slice a zs.length cap] w fun e w' => e = .returned (.bool true) ∧ Below w.heap.size w w' := by
  have hrow := h.hrow
  have hnil := h.hnil
  have hlc := h.hcap
  have hmx := h.hmax
  unfold maxLen at hmx
  clear h
  by_cases h500 : 500 < zs.length
  · have h5 : (500 : Int) < (zs.length : Int) := by omega
    clear hrow hnil hlc
    go_enter Tryz.func4, Tryz.ntmps4
    go_wp2_with fail
    refine (awake6_any _).mono ?_
    rintro ex w1 ⟨rfl, hb1⟩
    go_wp2_with fail
    go_ret
    exact ⟨rfl, hb1⟩
  · have h5 : ¬ (500 : Int) < (zs.length : Int) := by omega
    have HW := hide (dec_ways zs hrow.byte)
    go_enter Tryz.func4, Tryz.ntmps4
    go_wp2_with fail
    refine (awake6_any _).mono ?_
    rintro ex w1 ⟨rfl, hb1⟩
    have hrow1 := hrow.below hb1
    clear hrow
    rcases HW.out with ⟨v, hd, he, hR, hcl, hnk, hbk⟩ | hd
    · have CD := hide (pdecode_is hrow1 hnil hlc hd)
      have HE := hide he
      clear hd he HW hnil hlc
      go_wp2_with fail
      refine CD.out.mono ?_
      rintro ex w2 ⟨h, rfl, hone, hr, hb2⟩
      have st := store_new 34 h .nilIface hone w2
      have hbx : Below w2.heap.size w2 (w2.alloc (.cells #[h] 34)) := (Below.refl _ _).alloc (Nat.le_refl _) _
      have hc3 := cell_of_row _ _ 0 _ _ _ (heap_alloc_new w2 (.cells #[h] 34))
      have hb2x := hb2.trans (hbx.mono hb2.size)
      have hB3 := hb1.trans (hb2x.mono hb1.size)
      have hr3 := hr.stays hbx
      have hrow3 := hrow1.below hb2x
      clear CD hb2 hr hrow1 hb2x hb1 hbx
      go_wp2_with fail
      refine (pencode_is hr3 hcl hnk hbk HE.out).mono ?_
      rintro ex w4 ⟨a4, c4, rfl, hrow4, -, -, -, -, hb4⟩
      have hcv1 := hrow4.text zs.length c4 rfl
      have hcv2 := (hrow3.below hb4).text zs.length cap rfl
      have hr4 := hr3.stays hb4
      have hB4 := hB3.trans (hb4.mono hB3.size)
      have hc4 := (hb4.cell (p := ⟨w2.heap.size, 0, none⟩) (by simp)).trans hc3
      simp only [List.getElem?_toArray, List.getElem?_cons_zero] at hc4
      have CR := hide (gright_any hr4)
      rw [hR] at CR
      clear hrow4 hrow3 hr3 hr4 hb4 hB3 hc3 st HE hcl hnk hbk hR
      generalize strOfNums zs = str at *
      go_wp2_with fail
      refine CR.out.mono ?_
      rintro ex w5 ⟨rfl, hb5⟩
      have hB5 := hB4.trans (hb5.mono hB4.size)
      go_wp2_with fail
      go_ret
      exact ⟨rfl, hB5⟩
    · have CD := hide (pdecode_is hrow1 hnil hlc hd)
      clear hd HW hnil hlc
      go_wp2_with fail
      refine CD.out.mono ?_
      rintro ex w2 ⟨h, rfl, hone, hr, hb2⟩
      have st := store_new 34 h .nilIface hone w2
      have hbx : Below w2.heap.size w2 (w2.alloc (.cells #[h] 34)) := (Below.refl _ _).alloc (Nat.le_refl _) _
      have hc3 := cell_of_row _ _ 0 _ _ _ (heap_alloc_new w2 (.cells #[h] 34))
      have hb2x := hb2.trans (hbx.mono hb2.size)
      have hB3 := hb1.trans (hb2x.mono hb1.size)
      have CK := hide (fun W => kind_any hr W)
      clear CD hb2 hr hrow1 hb2x hb1 hbx
      go_wp2_with fail
      refine (CK.out _).mono ?_
      rintro ex w5 ⟨rfl, hb5⟩
      have hB5 := hB3.trans (hb5.mono hB3.size)
      have hk0 : V.null.k = 0 := rfl
      rw [hk0]
      go_wp2_with fail
      go_ret
      exact ⟨rfl, hB5⟩

set_option maxRecDepth 100000 in
theorem packDecodes_lifted (os : Os) (started : os.Started) (H : Type) (tok : TypeId × Value → H) :
    ReturnsInHanded {} Tryz.checked os 4 .any (Rows.packDecodesSpec.pre6 tok Tryz.prog Tryz.f4 Rows.packDecodesRow.domain false) (Rows.packDecodesSpec.post tok Tryz.prog Tryz.f4 false true false false) := by
  refine returnsInHanded_of_change (C := Tryz.checked) own_knob started (by kernel_rfl) Tryz.func4
    (ChangeSpec.witness6 (enc := tok) (C := Tryz.checked) false ⟨#[], #[.slice none 0 0], []⟩ 8 (by kernel_rfl) (by kernel_rfl) (by kernel_rfl) (by kernel_rfl)) ?_
  intro W base args ds gs before hval0 hW hcnd _
  have hval : ∀ (j : Nat) t v, Tryz.f4.params[j]? = some t → args[j]? = some v → Value.okWide Tryz.prog W .any base t v := hval0
  have hW' := hW
  obtain ⟨p, q, hA0, hV, rfl, hfz, hnd⟩ := hW
  have hA : DataW.TrodAll tok Tryz.prog W 0 (fun _ => true) true Tryz.f4.params.toList args.toList ds p := hA0
  rw [Tryz.params4] at hA hval
  obtain ⟨v0, vs0, d0, ds0, p0, q0, hargs, rfl, rfl, h0, r0⟩ := trodAll_cons hA
  obtain ⟨rfl, rfl, rfl⟩ := trodAll_nil r0
  obtain rfl : args = #[v0] := by cases args; simp_all
  obtain ⟨rfl, rfl⟩ := trodVars_none hV
  obtain ⟨a0, len0, cap0, rfl⟩ := okWide_slice Tryz.underlying29 (hval 0 29 v0 rfl rfl)
  have k0 := h0
  have lt0 : ∀ x ∈ p0, x.block < W.heap.size := by obtain ⟨m, hm⟩ := k0; exact DataW.trod_lt m _ _ _ hm
  obtain ⟨z0, w0⟩ : ∃ zs, BytesIn W a0 len0 cap0 zs := by obtain ⟨fuel, hf⟩ := h0; exact bytes_in hf
  obtain rfl := w0.hlen
  clear hA0 hval0
  refine (decodes_walk a0 z0 cap0 W w0).mono fun e W' ⟨he, bel⟩ => ?_
  subst he
  exact ⟨_, rfl, _, _, _, [], _, [], hW', trodAll_mk1 (shut_bool Tryz.underlying4 _), (trodAll_cons_mk (Below.trod laid_out (by kernel_rfl) (of_decide_eq_true (by kernel_rfl)) k0 bel lt0) trodAll_mk0), rfl, bel.frame _, fun h => by cases h⟩

set_option maxRecDepth 100000 in
theorem packDecodes_holds : Rows.PackDecodesSaid :=
  OpenClaim.holds_of_wide 4 Tryz.f4 rfl rfl rfl rfl rfl rfl rfl ⟨rfl, rfl, rfl, rfl, rfl⟩ rfl rfl rfl rfl rfl (by kernel_rfl) Tryz.func4 (by kernel_rfl)
    (of_decide_eq_true (by kernel_rfl)) (by unfold Func.isWrapper; first | (rw [if_pos (by decide +kernel)]; kernel_rfl) | (rw [if_neg (by decide +kernel)]; exact ⟨rfl, rfl⟩))
    (fun os started H tok _ => packDecodes_lifted os started H tok)
#print axioms packDecodes_holds
end Go.Proofs.YtepohbcpepkboaaGreat

