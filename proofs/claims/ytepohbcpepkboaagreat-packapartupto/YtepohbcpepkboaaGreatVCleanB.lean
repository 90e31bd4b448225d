/- What the document's Clean has in memory while it runs. Condition: a value of at most 1048576 values and letters. -/
import Derived.Test.YtepohbcpepkboaaGreatPkL
import Derived.Test.YtepohbcpepkboaaGreatFld
import Derived.ProofKit
import Derived.OpenShut
import Derived.Test.YtepohbcpepkboaaGreatVFits
import Derived.Test.YtepohbcpepkboaaGreatVGoTo
import Derived.Test.YtepohbcpepkboaaGreatPkC
import Derived.Deep.RegionHeld
import Derived.Deep.RegionLaw
import Derived.Deep.CutRange
namespace Go.Proofs.YtepohbcpepkboaaGreat
open Go.RowKit Go.Maps Go.WideMaps

set_option maxRecDepth 100000 in
theorem bequal_any {w : World} {a b : Option Addr} {xs ys : List Int} {c d : Nat} (hx : Row w a xs) (hy : Row w b ys) : Calls Tryz.prog 39 #[.slice a xs.length c, .slice b ys.length d] w fun e w' => e = .returned (.bool (decide (xs = ys))) ∧ w = w' := by
  have h1 := hx.text xs.length c rfl
  have h2 := hy.text ys.length d rfl
  have h3 := str_beq xs ys hx.byte hy.byte
  clear hx hy
  generalize strOfNums xs = s at *
  generalize strOfNums ys = t at *
  go_enter Tryz.func39, Tryz.ntmps39
  go_wp2_with fail
  go_ret
  exact ⟨by rw [← h3]; rfl, rfl⟩
/-- What Decode answers. -/
def decV (zs : List Int) : V × Int := if (valF (zs.length + 1) zs).enc = (zs, 0) then (valF (zs.length + 1) zs, 0) else (V.null, 4)
set_option maxRecDepth 100000 in
set_option maxHeartbeats 6400000 in
theorem pdecode_any {W : World} {a : Option Addr} {zs : List Int} {cap : Nat} (hrow : Row W a zs) (hnil : a = none → zs.length = 0 ∧ cap = 0) (hlc : zs.length ≤ cap) :
    Calls Tryz.prog 14 #[.slice a zs.length cap] W fun e W' => ∃ h, e = .returned (.tuple #[.agg #[h], .int .i64 (decV zs).2]) ∧ Rep W' (fun b => W.heap.size ≤ b) h (decV zs).1 ∧ Below W.heap.size W W' := by
  obtain ⟨hcl, hnk⟩ := valF_good (zs.length + 1) zs hrow.byte
  have hbk := (valF_bulk (zs.length + 1) zs hrow.byte).2
  have hb0 : Below W.heap.size W (W.alloc (.cells #[.nilIface] 34)) := (Below.refl _ _).alloc (Nat.le_refl _) _
  have hH0 := heap_alloc_new W (.cells #[.nilIface] 34)
  have CV := hide (valueof_all (zs.length + 1) zs (by omega) (W.alloc (.cells #[.nilIface] 34)) a cap (hrow.below hb0) hnil hlc)
  have HROW := hide hrow
  have HD : Hid (decV zs = if (valF (zs.length + 1) zs).enc = (zs, 0) then (valF (zs.length + 1) zs, 0) else (V.null, 4)) := rfl
  clear hrow hnil hlc
  generalize valF (zs.length + 1) zs = v at *
  go_enter Tryz.func14, Tryz.ntmps14
  go_wp2_with fail
  refine CV.out.mono ?_
  rintro ex w1 ⟨h, rfl, hr1, hb1⟩
  have hone := hr1.one
  have st1 := store_new 34 h .nilIface hone w1
  have hb2 : Below w1.heap.size w1 (w1.alloc (.cells #[h] 34)) := (Below.refl _ _).alloc (Nat.le_refl _) _
  have hc2 := cell_of_row _ _ 0 _ _ _ (heap_alloc_new w1 (.cells #[h] 34))
  have hzW : W.heap.size < w1.heap.size := by have := hb1.size; simp at this; omega
  have hH2 := (hb2.block _ hzW).trans ((hb1.block _ (by simp)).trans hH0)
  have hB1 := hb0.trans (hb1.mono hb0.size)
  have hB2 := hB1.trans (hb2.mono hB1.size)
  have hr2 : Rep (w1.alloc (.cells #[h] 34)) (fun b => W.heap.size < b ∧ b < w1.heap.size) h v := ((hr1.mono (ok' := fun b => W.heap.size < b ∧ b < w1.heap.size) (fun b h1 h2 => ⟨by simp at h1; omega, h2⟩))).stays hb2
  clear CV hr1 hb0 hb1 hb2 hH0
  go_wp2_with fail
  refine (pencode_any hr2 hcl hnk (by omega)).mono ?_
  rintro ex w3 ⟨a3, c3, rfl, hrow3, hn3, hl3, hm3, hf3, hb3⟩
  have hH3 := (hb3.block _ (Array.getElem?_eq_some_iff.1 hH2).1).trans hH2
  have hB3 := hB2.trans (hb3.mono hB2.size)
  have hc3 := (hb3.cell (p := ⟨w1.heap.size, 0, none⟩) (by simp)).trans hc2
  simp only [List.getElem?_toArray, List.getElem?_cons_zero] at hc3
  have hr3 := hr2.stays hb3
  have hrow := HROW.out.below hB3
  clear hc2 hH2 hB2 hr2 hb3 st1 hB1 HROW
  by_cases hE : v.enc = (zs, 0)
  · rw [hE] at hrow3
    have e1 : v.enc.1 = zs := by rw [hE]
    have e2 : v.enc.2 = 0 := by rw [hE]
    obtain ⟨st, hcu, hBf, hrf⟩ := fin_box hH3 hB3 (hr3.mono (fun b hb _ => hb.1))
    have hD : decV zs = (v, 0) := by have := HD.out; rw [this, if_pos hE]
    have HF := hide (And.intro hD (And.intro hBf hrf))
    rw [e1, e2]
    have CQ := hide (bequal_any (c := c3) (d := cap) hrow3 hrow)
    rw [decide_eq_true (rfl : zs = zs)] at CQ
    clear hBf hrf hD HD hE hn3 hl3 hrow3 hrow e1 e2
    go_wp2_with fail
    refine CQ.out.mono ?_
    rintro ex w4 ⟨rfl, rfl⟩
    go_wp2_with fail
    exact bodyPost_ret (v := .tuple #[.agg #[h], .int .i64 0]) (by simp [results, Tryz.results14, go_sem, hcu]) rfl ⟨h, by rw [HF.out.1], by rw [HF.out.1]; exact HF.out.2.2, HF.out.2.1⟩
  · obtain ⟨st, hcu, hBf, hrf⟩ := fin_box (u := .nilIface) (y := V.null) hH3 hB3 Rep.null
    have hD : decV zs = (V.null, 4) := by have := HD.out; rw [this, if_neg hE]
    have HF := hide (And.intro hD (And.intro hBf hrf))
    have hcB : w3.cell? ⟨W.heap.size, 0, none⟩ = some .nilIface := cell_of_row _ _ _ _ _ _ hH3
    have hfB : w3.frozen? ⟨W.heap.size, 0, none⟩ = false := frozen_of_row _ _ _ _ _ hH3
    clear hBf hrf hD HD st
    by_cases h0 : v.enc.2 = 0
    · have hne : v.enc.1 ≠ zs := fun e => hE (by rw [← e, ← h0])
      rw [h0]
      have CQ := hide (bequal_any (c := c3) (d := cap) hrow3 hrow)
      rw [decide_eq_false hne] at CQ
      clear hE hn3 hl3 hrow3 hrow h0 hne
      go_wp2_with fail
      refine CQ.out.mono ?_
      rintro ex w4 ⟨rfl, rfl⟩
      go_wp2_with fail
      exact bodyPost_ret (v := .tuple #[.agg #[.nilIface], .int .i64 4]) (by simp [results, Tryz.results14, go_sem, hcu]) rfl ⟨.nilIface, by rw [HF.out.1], by rw [HF.out.1]; exact HF.out.2.2, HF.out.2.1⟩
    · have h0' : (v.enc.2 != 0) = true := by simpa using h0
      clear hE hn3 hl3 hrow3 hrow h0
      go_wp2_with fail
      exact bodyPost_ret (v := .tuple #[.agg #[.nilIface], .int .i64 4]) (by simp [results, Tryz.results14, go_sem, hcu]) rfl ⟨.nilIface, by rw [HF.out.1], by rw [HF.out.1]; exact HF.out.2.2, HF.out.2.1⟩
end Go.Proofs.YtepohbcpepkboaaGreat

namespace Go.Proofs.YtepohbcpepkboaaGreat
open Go.ChangeShapes Go.WideShapes Go.ChangeAt Go.RowKit

set_option maxRecDepth 100000 in
theorem own_knob : ownKnob Tryz.prog.godebug = none := by kernel_rfl
set_option maxRecDepth 100000 in
theorem laid_out : laidOutB Tryz.prog = true := by kernel_rfl

/-- A slice of bytes that came in. -/
structure BytesIn (w : World) (a : Option Addr) (len cap : Nat) (zs : List Int) : Prop where
  hlen : zs.length = len
  hrow : Row w a zs
  hnil : a = none → zs.length = 0 ∧ cap = 0
  hcap : zs.length ≤ cap
  hmax : cap ≤ maxLen

set_option maxRecDepth 100000 in
theorem bytes_in {H : Type} {tok : TypeId × Value → H} {W : World} {a0 : Option Addr} {len0 cap0 : Nat} {base : Nat} {sp : Nat → Bool} {held : Bool} {fuel : Nat} {x : DataW H × List MemPlace}
    (hf : DataW.trod tok Tryz.prog W base sp held fuel 29 (Value.slice a0 len0 cap0).cells.toList = some x) : ∃ zs, BytesIn W a0 len0 cap0 zs := by
  rcases open_ints Tryz.underlying29 Tryz.underlying5 (by kernel_rfl) hf with ⟨hcs, _⟩ | ⟨ad, l, c, zs, hcs, _, hl, hm, hz, _, hcell, hwz⟩
  · simp [Value.cells] at hcs
    obtain ⟨rfl, rfl, rfl⟩ := hcs
    exact ⟨[], rfl, Row.nil _ _, fun _ => ⟨rfl, rfl⟩, Nat.le_refl _, by simp [maxLen]⟩
  · simp [Value.cells] at hcs
    obtain ⟨rfl, rfl, rfl⟩ := hcs
    have hzl : len0 ≤ zs.length := by rw [hz]; split <;> omega
    have hlen : (zs.take len0).length = len0 := by simp; omega
    refine ⟨zs.take len0, hlen, ⟨?_, ?_⟩, (fun h => by cases h), by rw [hlen]; exact hl, hm⟩
    · intro c hc
      have := bounds_u8 (hwz c (List.mem_of_mem_take hc))
      omega
    · intro hne
      have h0 : 0 < len0 := by
        rcases Nat.eq_zero_or_pos len0 with h | h
        · subst h; simp at hne
        · exact h
      obtain ⟨b, off, spot⟩ := ad
      have hc0 := hcell 0 (by omega)
      have hspot : spot = none := by simpa [Addr.add] using World.cell?_spot hc0
      subst hspot
      refine ⟨b, off, rfl, fun j hj => ?_⟩
      have := hcell j (by omega)
      rw [Addr.add_lit] at this
      rw [this]
      simp [show j < len0 by omega]
end Go.Proofs.YtepohbcpepkboaaGreat

namespace Go.Proofs.YtepohbcpepkboaaGreat
open Go.RowKit Go.Maps Go.WideMaps

def v1 : V := V.mk 3 false 1 0 ByteArray.empty [] []
set_option maxRecDepth 100000 in
theorem v1_packB : v1.packB = [2, 3, 4, 2] := by decide +kernel
set_option maxRecDepth 100000 in
theorem v1_enc : v1.enc = ([2, 3, 4, 2], 0) := by decide +kernel
set_option maxRecDepth 100000 in
theorem v1_cl : v1.cl := by unfold v1; simp [V.cl, V.cl.go]
set_option maxRecDepth 100000 in
theorem v1_nok : v1.nok := nok_leaf (by unfold I64; omega) pk_i64_0
set_option maxRecDepth 100000 in
theorem v1_dec : decV [2, 3, 4, 2] = (v1, 0) := by
  have h := valF_pack 5 v1 v1_cl v1_nok (by decide +kernel) (by rw [v1_packB]; decide)
  rw [v1_packB] at h
  unfold decV
  have e : ([2, 3, 4, 2] : List Int).length + 1 = 5 := rfl
  rw [e, h, if_pos v1_enc]
set_option maxRecDepth 100000 in
theorem awake_facts : ∃ (v : V) (zs : List Int), v.enc = (zs, 0) ∧ decV zs = (v, 0) ∧ v.cl ∧ v.nok ∧ v.bulk ≤ 1048576 ∧ v.gn = 1 ∧ v.isK 3 = true ∧ strOfNums zs = { data := #[2, 3, 4, 2] } ∧ ∀ W' (ok : Nat → Prop), Rep W' ok (.iface 3 (.int .i64 1)) v :=
  ⟨v1, [2, 3, 4, 2], v1_enc, v1_dec, v1_cl, v1_nok, by decide +kernel, by decide +kernel, by decide +kernel, rfl, fun _ _ => Rep.int 1 (by unfold I64; omega)⟩
set_option maxRecDepth 100000 in
theorem pencode_is {W : World} {ok : Nat → Prop} {h : Value} {v : V} {zs : List Int} {er : Int} (hr : Rep W ok h v) (hcl : v.cl) (hnk : v.nok) (hbk : v.bulk ≤ 1048576) (he : v.enc = (zs, er)) :
    Calls Tryz.prog 10 #[.agg #[h]] W fun ex W' => ∃ a c, ex = .returned (.tuple #[.slice a zs.length c, .int .i64 er]) ∧ Row W' a zs ∧ (a = none → zs.length = 0 ∧ c = 0) ∧ zs.length ≤ c ∧ c ≤ maxLen ∧ (∀ ad, a = some ad → W.heap.size ≤ ad.block) ∧ Below W.heap.size W W' := by
  have C := pencode_any hr hcl hnk hbk
  rw [he] at C
  exact C
set_option maxRecDepth 100000 in
theorem pdecode_is {W : World} {a : Option Addr} {zs : List Int} {cap : Nat} {v : V} {er : Int} (hrow : Row W a zs) (hnil : a = none → zs.length = 0 ∧ cap = 0) (hlc : zs.length ≤ cap) (hd : decV zs = (v, er)) :
    Calls Tryz.prog 14 #[.slice a zs.length cap] W fun e W' => ∃ h, e = .returned (.tuple #[.agg #[h], .int .i64 er]) ∧ h.oneCell' = true ∧ Rep W' (fun b => W.heap.size ≤ b) h v ∧ Below W.heap.size W W' := by
  have C := pdecode_any hrow hnil hlc
  rw [hd] at C
  refine C.mono ?_
  rintro e W' ⟨h, rfl, h1, h2⟩
  exact ⟨h, rfl, h1.one, h1, h2⟩
set_option maxRecDepth 100000 in
set_option maxHeartbeats 3200000 in
theorem awake6_any (W : World) : Calls Tryz.prog 8 #[] W fun e w' => e = .returned (.bool true) ∧ Below W.heap.size W w' := by
  obtain ⟨v, zs, he, hd, hcl, hnk, hbk, hg, hk, hs, hr⟩ := awake_facts
  have HE := hide he
  have HD := hide hd
  have HR := hide hr
  have HS := hide hs
  clear he hd hr hs
  go_enter Tryz.func8, Tryz.ntmps8
  go_wp2_with fail
  refine (int_any 1 W).mono ?_
  rintro ex w1 ⟨rfl, hb1⟩
  go_wp2_with fail
  refine (pencode_is (HR.out w1 (fun _ => True)) hcl hnk hbk HE.out).mono ?_
  rintro ex w2 ⟨a, c, rfl, hrow, hnil, hlc, -, -, hb2⟩
  have hB2 := hb1.trans (hb2.mono hb1.size)
  have CDX := hide (pdecode_is hrow hnil hlc HD.out)
  clear hnil hlc hb1 hb2 HE HD HR hcl hnk hbk
  go_wp2_with fail
  refine CDX.out.mono ?_
  rintro ex w3 ⟨h, rfl, hone, hr, hb3⟩
  have st := store_new 34 h .nilIface hone w3
  have hbx : Below w3.heap.size w3 (w3.alloc (.cells #[h] 34)) := (Below.refl _ _).alloc (Nat.le_refl _) _
  have hc3 := cell_of_row _ _ 0 _ _ _ (heap_alloc_new w3 (.cells #[h] 34))
  have hb3x := hb3.trans (hbx.mono hb3.size)
  have hB3 := hB2.trans (hb3x.mono hB2.size)
  have hrow3 := hrow.below hb3x
  clear CDX hb3 hrow hB2 hb3x
  go_wp2_with fail
  refine (gint_any hr _).mono ?_
  rintro ex w4 ⟨rfl, hb4⟩
  have hcv := (hrow3.below hb4).text zs.length c rfl
  rw [HS.out] at hcv
  have hB4 := hB3.trans (hb4.mono hB3.size)
  clear hc3 st hrow3 hB3 hr
  go_wp2_with fail
  go_ret
  exact ⟨rfl, hB4⟩
end Go.Proofs.YtepohbcpepkboaaGreat

namespace Go.Proofs.YtepohbcpepkboaaGreat
open Go.RowKit

/-- A key's place; -1: it isn't there. -/
def V.find (v : V) (key : ByteArray) : Int := if v.hasK key = true then (posK v.keys key : Int) else -1
set_option maxRecDepth 100000 in
theorem find_hit {q : List ByteArray} {key : ByteArray} {j : Nat} (hj : j < q.length) (h : q[j] = key) (hb : ∀ i (hi : i < q.length), i < j → q[i] ≠ key) : posK q key = j := by
  have hm : key ∈ q := by rw [← h]; exact List.getElem_mem hj
  rcases Nat.lt_trichotomy (posK q key) j with h1 | h1 | h1
  · exact absurd (posK_at hm) (hb _ (posK_lt hm) h1)
  · exact h1
  · have := List.not_of_lt_findIdx (p := fun x => decide (x = key)) (xs := q) h1
    simp [h] at this
set_option maxRecDepth 100000 in
theorem toList_ne {a b : ByteArray} (h : a ≠ b) : (a.toList == b.toList) = false := by
  rw [beq_eq_false_iff_ne, ByteArray.toList_eq, ByteArray.toList_eq]
  exact fun e => h (Go.WideShapes.bytes_inj e)
end Go.Proofs.YtepohbcpepkboaaGreat

namespace Go.Proofs.YtepohbcpepkboaaGreat
open Go.RowKit Go.Maps Go.WideMaps

/-- Clean's own blocks: the value, the answer. -/
def BC (w W : World) (v : V) (p : VP) : Prop :=
  W.heap[w.heap.size]? = some (.cells #[.int .i64 v.k, .bool v.b, .int .i64 v.n, .int .i64 v.m, .string v.s, .slice p.la v.l.length p.lc, .slice p.ka v.keys.length p.kc] 25 (0, 0)) ∧ W.heap[w.heap.size + 1]? = some (.cells #[.int .i64 0, .bool false, .int .i64 0, .int .i64 0, .string ByteArray.empty, .slice none 0 0, .slice none 0 0] 25 (0, 0)) ∧ Below w.heap.size w W
set_option maxRecDepth 100000 in
theorem BC.start (w : World) (v : V) (p : VP) : BC w ((w.alloc (.cells #[.int .i64 v.k, .bool v.b, .int .i64 v.n, .int .i64 v.m, .string v.s, .slice p.la v.l.length p.lc, .slice p.ka v.keys.length p.kc] 25)).alloc (.cells #[.int .i64 0, .bool false, .int .i64 0, .int .i64 0, .string ByteArray.empty, .slice none 0 0, .slice none 0 0] 25)) v p := by
  refine ⟨?_, ?_, ((Below.refl _ _).alloc (Nat.le_refl _) _).alloc (by simp) _⟩
  · rw [Below.heap_alloc _ _ _ (by simp)]; exact heap_alloc_new _ _
  · simpa using heap_alloc_new (w.alloc (.cells #[.int .i64 v.k, .bool v.b, .int .i64 v.n, .int .i64 v.m, .string v.s, .slice p.la v.l.length p.lc, .slice p.ka v.keys.length p.kc] 25)) (.cells #[.int .i64 0, .bool false, .int .i64 0, .int .i64 0, .string ByteArray.empty, .slice none 0 0, .slice none 0 0] 25)
set_option maxRecDepth 100000 in
theorem BC.lt {w W : World} {v : V} {p : VP} (hB : BC w W v p) : w.heap.size + 1 < W.heap.size := (Array.getElem?_eq_some_iff.1 hB.2.1).1
set_option maxRecDepth 100000 in
theorem BC.below {w W W' : World} {v : V} {p : VP} (hB : BC w W v p) (hb : Below W.heap.size W W') : BC w W' v p := by
  have l := hB.lt
  obtain ⟨a, b, d⟩ := hB
  exact ⟨(hb.block _ (by omega)).trans a, (hb.block _ l).trans b, d.trans (hb.mono (by omega))⟩
set_option maxRecDepth 100000 in
theorem BC.set {w W : World} {v : V} {p : VP} (hB : BC w W v p) {i k : Nat} (hk : w.heap.size + 2 ≤ k) (u : Value) : BC w (W.setCell ⟨k, i, none⟩ u) v p := by
  obtain ⟨a, b, d⟩ := hB
  exact ⟨(heap_setCell_other _ _ _ _ (by simp; omega)).trans a, (heap_setCell_other _ _ _ _ (by simp; omega)).trans b, d.setCell (by simp; omega) _⟩
set_option maxRecDepth 100000 in
theorem BC.grown {w W W' : World} {v : V} {p : VP} (hB : BC w W v p) {row : Option Nat} (hg : W.grownBy W' row) (hr : ∀ k, row = some k → w.heap.size + 2 ≤ k) : BC w W' v p := by
  have l := hB.lt
  obtain ⟨a, b, d⟩ := hB
  exact ⟨(hg.block _ (by omega) (fun e => by have := hr _ e.symm; omega)).trans a, (hg.block _ l (fun e => by have := hr _ e.symm; omega)).trans b, d.grown hg (by omega) (fun k hk => by have := hr k hk; omega)⟩
set_option maxRecDepth 100000 in
theorem BC.cells {w W : World} {v : V} {p : VP} (hB : BC w W v p) (i : Nat) : W.cell? ⟨w.heap.size, i, none⟩ = (v.cells p)[i]? := by
  rw [cell_of_row _ _ _ _ _ _ hB.1]; simp [V.cells]
set_option maxRecDepth 100000 in
theorem VIn.plain (w : World) (ok : Nat → Prop) (k : Int) (b : Bool) (n m : Int) (s : ByteArray) (hk : I64 k) (hn : I64 n) (hm : I64 m) (hs : s.size ≤ maxLen) : VIn w ok (.mk k b n m s [] []) ⟨none, 0, none, 0⟩ :=
  VIn.mk k b n m s [] [] _ (fun _ => ⟨none, 0, none, 0⟩) hk hn hm hs ⟨fun _ => ⟨rfl, rfl⟩, Nat.le_refl _, by simp [maxLen]⟩ ⟨fun _ => ⟨rfl, rfl⟩, Nat.le_refl _, by simp [maxLen]⟩ (SRow.nil _ _ _) (fun h => absurd rfl h) (fun j hj => by simp at hj)
set_option maxRecDepth 100000 in
theorem new_cells (W : World) (v : V) (p : VP) : ∀ j u, (v.cells p)[j]? = some u → (W.alloc (.cells #[.int .i64 v.k, .bool v.b, .int .i64 v.n, .int .i64 v.m, .string v.s, .slice p.la v.l.length p.lc, .slice p.ka v.keys.length p.kc] 25)).cell? ((⟨W.heap.size, 0, none⟩ : Addr).add j) = some u := by
  intro j u h
  rw [Addr.add_lit, cell_of_row _ _ _ _ _ _ (heap_alloc_new W _)]
  simpa [V.cells] using h
set_option maxRecDepth 100000 in
theorem set7 {w W : World} {v : V} {p : VP} (hB : BC w W v p) (u0 u1 u2 u3 u4 u5 u6 : Value) {x : V} {xp : VP} (hv : VIn W (fun b => w.heap.size + 3 ≤ b) x xp) :
    (((((((W.setCell ⟨w.heap.size + 1, 0, none⟩ u0).setCell ⟨w.heap.size + 1, 1, none⟩ u1).setCell ⟨w.heap.size + 1, 2, none⟩ u2).setCell ⟨w.heap.size + 1, 3, none⟩ u3).setCell ⟨w.heap.size + 1, 4, none⟩ u4).setCell ⟨w.heap.size + 1, 5, none⟩ u5).setCell ⟨w.heap.size + 1, 6, none⟩ u6).heap[w.heap.size + 1]? = some (.cells #[u0, u1, u2, u3, u4, u5, u6] 25 (0, 0)) ∧ Below w.heap.size w (((((((W.setCell ⟨w.heap.size + 1, 0, none⟩ u0).setCell ⟨w.heap.size + 1, 1, none⟩ u1).setCell ⟨w.heap.size + 1, 2, none⟩ u2).setCell ⟨w.heap.size + 1, 3, none⟩ u3).setCell ⟨w.heap.size + 1, 4, none⟩ u4).setCell ⟨w.heap.size + 1, 5, none⟩ u5).setCell ⟨w.heap.size + 1, 6, none⟩ u6) ∧ VIn (((((((W.setCell ⟨w.heap.size + 1, 0, none⟩ u0).setCell ⟨w.heap.size + 1, 1, none⟩ u1).setCell ⟨w.heap.size + 1, 2, none⟩ u2).setCell ⟨w.heap.size + 1, 3, none⟩ u3).setCell ⟨w.heap.size + 1, 4, none⟩ u4).setCell ⟨w.heap.size + 1, 5, none⟩ u5).setCell ⟨w.heap.size + 1, 6, none⟩ u6) (fun b => w.heap.size ≤ b) x xp := by
  refine ⟨?_, ?_, ?_⟩
  · exact heap_setCell_same _ _ 6 _ _ _ (heap_setCell_same _ _ 5 _ _ _ (heap_setCell_same _ _ 4 _ _ _ (heap_setCell_same _ _ 3 _ _ _ (heap_setCell_same _ _ 2 _ _ _ (heap_setCell_same _ _ 1 _ _ _ (heap_setCell_same _ _ 0 _ _ _ hB.2.1))))))
  · exact ((((((hB.2.2.setCell (by simp) _).setCell (by simp) _).setCell (by simp) _).setCell (by simp) _).setCell (by simp) _).setCell (by simp) _).setCell (by simp) _
  · exact (((((((hv.agree (Agree.setCell u0 (by omega))).agree (Agree.setCell u1 (by omega))).agree (Agree.setCell u2 (by omega))).agree (Agree.setCell u3 (by omega))).agree (Agree.setCell u4 (by omega))).agree (Agree.setCell u5 (by omega))).agree (Agree.setCell u6 (by omega))).mono (fun b hb _ => by omega)
set_option maxRecDepth 100000 in
theorem i64_0 : I64 0 := by unfold I64; omega
set_option maxRecDepth 100000 in
theorem empty_max : ByteArray.empty.size ≤ maxLen := by simp [maxLen]
end Go.Proofs.YtepohbcpepkboaaGreat

