/- What the document's Encode answers: that of the program's. Conditions: at most 80 fields of at most 5000 bytes each. -/
import Derived.Test.YteidjnkkjjigoaaRefD
import Derived.Test.YteidjnkkjjigoaaRefE
import Derived.Test.YteidjnkkjjigoaaPureJ
import Derived.Test.YteidjnkkjjigoaaMsgG
import Derived.Deep.RegionWith
import Derived.Deep.CutRange
namespace Go.Proofs.Yteidjnkkjjigoaa
open Go.RowKit

/-- The last of some fields, or none's. -/
def lastF (fs : List Fld) : Fld := fs.getLast?.getD zeroF
theorem lastF_snoc (fs : List Fld) (f : Fld) : lastF (fs ++ [f]) = f := by simp [lastF]
theorem fits_last (ahead : List Fld) (f : Fld) : fitsB f (lastF ahead) = (fmay ahead f && !mixedB f) := by
  unfold fitsB fmay lastF
  by_cases h1 : f.tag < 1
  · simp [h1]
  by_cases h2 : 1000 < f.tag
  · simp [h2]
  cases h3 : mixedB f
  · cases ahead.getLast? with
    | none =>
      have hzt : zeroF.tag = 0 := rfl
      have h4 : ¬ (f.tag < 1 ∨ 1000 < f.tag ∨ false = true ∨ f.tag < zeroF.tag) := by simp; omega
      have h5 : ¬ (f.tag < 1 ∨ 1000 < f.tag) := by omega
      rw [Option.getD_none, if_neg h4, if_neg h5]
      simp [hzt]; omega
    | some l =>
      rw [Option.getD_some]
      have h5 : ¬ (f.tag < 1 ∨ 1000 < f.tag) := by omega
      rw [if_neg h5]
      by_cases h6 : f.tag = l.tag
      · have h4 : ¬ (f.tag < 1 ∨ 1000 < f.tag ∨ false = true ∨ f.tag < l.tag) := by simp; omega
        rw [if_neg h4]
        simp [h6]
      · by_cases h7 : f.tag < l.tag
        · have h8 : ¬ l.tag < f.tag := by omega
          simp [h7, h6, h8]
        · have h4 : ¬ (f.tag < 1 ∨ 1000 < f.tag ∨ false = true ∨ f.tag < l.tag) := by simp; omega
          have h8 : l.tag < f.tag := by omega
          rw [if_neg h4]
          simp [h6, h8]
  · simp
theorem okF_snoc (fs : List Fld) (f : Fld) : okF [] (fs ++ [f]) = (okF [] fs && fitsB f (lastF fs)) := by
  rw [okF_append, fits_last]; simp [okF]
theorem blen_le : ∀ fs : List Fld, (∀ f ∈ fs, f.b.length ≤ 5000) → blen fs ≤ 5000 * fs.length
  | [], _ => by simp [blen]
  | f :: fs, h => by
    have h1 := h f (by simp)
    have h2 := blen_le fs (fun g hg => h g (by simp [hg]))
    simp only [blen, List.map_cons, List.sum_cons, List.length_cons] at h2 ⊢
    omega
/-- A store into a box of fields. -/
theorem box_set4 {w : World} {B : Nat} {c0 c1 c2 c3 : Value} {T : TypeId} (h : w.heap[B]? = some (.cells #[c0, c1, c2, c3] T (0, 0))) (x0 x1 x2 x3 : Value) :
    ((((w.setCell ⟨B, 0, none⟩ x0).setCell ⟨B, 1, none⟩ x1).setCell ⟨B, 2, none⟩ x2).setCell ⟨B, 3, none⟩ x3).heap[B]? = some (.cells #[x0, x1, x2, x3] T (0, 0)) :=
  heap_setCell_same _ _ 3 _ _ x3 (heap_setCell_same _ _ 2 _ _ x2 (heap_setCell_same _ _ 1 _ _ x1 (heap_setCell_same _ _ 0 _ _ x0 h)))
theorem below_set4 (w : World) (B : Nat) (x0 x1 x2 x3 : Value) : Below B w ((((w.setCell ⟨B, 0, none⟩ x0).setCell ⟨B, 1, none⟩ x1).setCell ⟨B, 2, none⟩ x2).setCell ⟨B, 3, none⟩ x3) := by
  refine Below.setCell ?_ (Nat.le_refl B) _
  refine Below.setCell ?_ (Nat.le_refl B) _
  refine Below.setCell ?_ (Nat.le_refl B) _
  exact Below.setCell (Below.refl _ _) (Nat.le_refl B) _
theorem grown_set4 (w : World) (B : Nat) (x0 x1 x2 x3 : Value) : w.grownBy ((((w.setCell ⟨B, 0, none⟩ x0).setCell ⟨B, 1, none⟩ x1).setCell ⟨B, 2, none⟩ x2).setCell ⟨B, 3, none⟩ x3) (some B) := by
  have hb := below_set4 w B x0 x1 x2 x3
  refine ⟨hb.os, hb.tape, hb.output, hb.size, fun k hk hne => ?_⟩
  have hk' : k ≠ B := fun e => hne (by rw [e])
  rw [Below.heap_setCell _ _ _ _ hk', Below.heap_setCell _ _ _ _ hk', Below.heap_setCell _ _ _ _ hk', Below.heap_setCell _ _ _ _ hk']
theorem own_box {w w' : World} {B base n : Nat} {cs : Array Value} {T : TypeId} {mk : Nat × Nat} {v : Value} {xs : List Value} (h : w.heap[B]? = some (.cells cs T mk)) (hT : T ≠ 5)
    (hown : w.ownsRow base 5 1 v n xs) (hg : w.grownBy w' (some B)) : w'.ownsRow base 5 1 v n xs := by
  refine hown.kept hg ?_
  rcases hown.2 with ⟨hv, _⟩ | ⟨g, cap, cur, hv, _, hh, _⟩
  · left; rw [hv]; rfl
  · right
    rw [hv]
    simp only [Value.ownBlock]
    intro e
    have e' : g = B := Option.some.inj e
    rw [e', h] at hh
    simp at hh
    exact hT hh.2.1
theorem fits_tag {f l : Fld} (h : fitsB f l = true) : 1 ≤ f.tag ∧ f.tag ≤ 1000 := by
  unfold fitsB at h
  split at h
  · cases h
  · omega

set_option maxHeartbeats 6400000 in
set_option maxRecDepth 100000 in
theorem rencode_any (ao : Option Addr) (fs : List Fld) (cap : Nat) (w : World) (hr : FRow w ao fs) (hm : fs.length ≤ 80) (h5 : ∀ f ∈ fs, f.b.length ≤ 5000) :
    Calls Try.prog 27 #[.slice ao fs.length cap] w fun e w' => ∃ v, e = .returned (.tuple #[v, .int .i64 (encM fs).2]) ∧
      w'.ownsRow w.heap.size 5 1 v (encM fs).1.length ((encM fs).1.map (Value.int .u8)) ∧ Below w.heap.size w w' := by
  by_cases h64 : 64 < fs.length
  · have E : Hid (encM fs = ([], 3)) := by show encM fs = _; simp [encM, tooB, h64]
    clear hr
    go_enter Try.func27, Try.ntmps27
    go_wp2
    go_ret2
    exact ⟨_, by rw [E.out]; rfl, by rw [E.out]; exact World.ownsRow_nil _ _ _ _, Below.refl _ _⟩
  have h64' : fs.length ≤ 64 := by omega
  go_enter Try.func27, Try.ntmps27
  go_wp2
  go_loopw [4, 5, 7, 8] (fun s4 v s7 si wr => ∃ (k : Nat) (ys : List Int) (la : Option Addr) (lc : Nat), k ≤ fs.length ∧ si = .int .i64 k ∧ s4 = .int .i64 (blen (fs.take k)) ∧ s7 = .bool (okF [] (fs.take k)) ∧
      wr.heap[w.heap.size]? = some (.cells #[.int .i64 (lastF (fs.take k)).tag, .bool (lastF (fs.take k)).isB, .int .u64 (lastF (fs.take k)).n, .slice la (lastF (fs.take k)).b.length lc] 75 (0, 0)) ∧
      wr.ownsRow w.heap.size 5 1 v ys.length (ys.map (Value.int .u8)) ∧ Hid (okF [] (fs.take k) = true → ys = layAll (fs.take k)) ∧ ys.length ≤ 5020 * k ∧ Below w.heap.size w wr) (fun _ _ _ si _ => fs.length - (intOf si).toNat)
  case atStart => exact ⟨0, [], none, 0, by omega, rfl, rfl, rfl, heap_alloc_new w _, World.ownsRow_nil _ _ _ _, fun _ => rfl, by simp, (Below.refl _ _).alloc (Nat.le_refl _) _⟩
  case round =>
    obtain ⟨k, ys, la, lc, hk, rfl, rfl, rfl, hbx, hown, hys, hyl, hb⟩ := hrel
    by_cases hlt : k < fs.length
    · have hz : fs ≠ [] := by intro h; rw [h] at hlt; simp at hlt
      obtain ⟨b0, off, rfl, hc⟩ := hr.2 hz
      obtain ⟨fa, fc, c0, c1, c2, c3, hsh⟩ := hc k hlt
      have hlt0 : b0 < w.heap.size := World.block_lt_of_cell? w ⟨b0, off + k * 4, none⟩ c0
      have d0 := (hb.cell (p := ⟨b0, off + k * 4, none⟩) hlt0).trans c0
      have d1 := (hb.cell (p := ⟨b0, off + k * 4 + 1, none⟩) hlt0).trans c1
      have d2 := (hb.cell (p := ⟨b0, off + k * 4 + 2, none⟩) hlt0).trans c2
      have d3 := (hb.cell (p := ⟨b0, off + k * 4 + 3, none⟩) hlt0).trans c3
      have htake : fs.take (k + 1) = fs.take k ++ [fs[k]] := List.take_succ_eq_append_getElem hlt
      have HK : Hid (fs.take (k + 1) = fs.take k ++ [fs[k]]) := htake
      have hokf := hr.1 fs[k] (List.getElem_mem hlt)
      have h5f := h5 fs[k] (List.getElem_mem hlt)
      have hbl := blen_le (fs.take k) (fun f hf => h5 f (List.mem_of_mem_take hf))
      rw [List.length_take, Nat.min_eq_left hk] at hbl
      clear c0 c1 c2 c3 htake hc
      generalize fs[k] = f at *
      have HB : Hid (blen (fs.take (k + 1)) = blen (fs.take k) + f.b.length) := by show blen _ = _; rw [HK.out, blen_snoc]
      have HO : Hid (okF [] (fs.take (k + 1)) = (okF [] (fs.take k) && fitsB f (lastF (fs.take k)))) := by show okF _ _ = _; rw [HK.out, okF_snoc]
      have HF : Hid (lastF (fs.take (k + 1)) = f) := by show lastF _ = _; rw [HK.out, lastF_snoc]
      have HY : Hid (layAll (fs.take (k + 1)) = layAll (fs.take k) ++ lay f) := by show layAll _ = _; rw [HK.out, layAll_snoc]
      clear HK
      have hwr : IntKind.i64.wrap ((blen (fs.take k) : Int) + (f.b.length : Int)) = (blen (fs.take k) : Int) + (f.b.length : Int) := IntWalk.i64_in _ ⟨by omega, by omega⟩
      generalize lastF (fs.take k) = l at *
      generalize blen (fs.take k) = nb at *
      have CF : Hid (∀ W, Calls Try.prog 44 #[f.val fa fc, l.val la lc] W fun e w' => e = .returned (.bool (fitsB f l)) ∧ Below W.heap.size W w') := fun W => rfits_any f fa fc l la lc W
      have CL : Hid (∀ W, Below w.heap.size w W → fitsB f l = true → Calls Try.prog 45 #[f.val fa fc] W fun e w' => ∃ g cap, e = .returned (.slice (some ⟨g, 0, none⟩) (lay f).length cap) ∧ w'.ownsRow W.heap.size 5 1 (.slice (some ⟨g, 0, none⟩) (lay f).length cap) (lay f).length ((lay f).map (Value.int .u8)) ∧ Below W.heap.size W w') := fun W hW hf => rlay_any f fa fc W hokf (fits_tag hf) (hsh.below hW) h5f
      have hll := lay_len f
      have hlb : fitsB f l = true → ∀ c ∈ lay f, 0 ≤ c ∧ c ≤ 255 := fun hf => lay_byte f hokf (fits_tag hf).1 hsh.1.1
      have HLB : Hid (fitsB f l = true → ∀ c ∈ lay f, 0 ≤ c ∧ c ≤ 255) := hlb
      clear hlb hsh hokf
      have hLf : (lay f).length ≤ 5020 := by omega
      unfold Fld.val at CF CL
      generalize hly : lay f = ly at *
      clear hly hll
      generalize hft : fitsB f l = ft at *
      generalize hoo : okF [] (fs.take k) = oo at *
      clear hft hoo
      obtain ⟨tag, isB, n, b⟩ := f
      obtain ⟨ltag, lB, ln, lb⟩ := l
      simp only at d0 d1 d2 d3 h5f hbx hwr CF CL
      have e0 : wr.cell? ⟨w.heap.size, 0, none⟩ = some (.int .i64 ltag) := box_cell hbx 0
      have e1 : wr.cell? ⟨w.heap.size, 1, none⟩ = some (.bool lB) := box_cell hbx 1
      have e2 : wr.cell? ⟨w.heap.size, 2, none⟩ = some (.int .u64 ln) := box_cell hbx 2
      have e3 : wr.cell? ⟨w.heap.size, 3, none⟩ = some (.slice la lb.length lc) := box_cell hbx 3
      go_upto_region 11 with fail
      go_cut [7] from 27 to 36 (fun s7 wx => s7 = .bool (oo && ft) ∧ Below w.heap.size w wx ∧ Below wr.heap.size wr wx)
      case first =>
        cases oo
        · first | go_region_with fail | fail
          all_goals
            go_wp2_with fail
            go_meet
            case rel => exact ⟨rfl, hb.drew, (Below.refl _ _).drew⟩
        · go_region_with (first
            | (go_at_call 44; refine (CF.out _).mono ?_; rintro e w5 ⟨rfl, hb5⟩))
          all_goals
            go_wp2_with fail
            go_meet
            case rel => exact ⟨rfl, hb.drew.trans (hb5.mono hb.size), (Below.refl _ _).drew.trans hb5⟩
      case rest =>
        obtain ⟨h7, hbw, hbr⟩ := hcut
        subst h7
        have hlt1 : b0 < wr.heap.size := Nat.lt_of_lt_of_le hlt0 hb.size
        have hlt2 : b0 < wc.heap.size := Nat.lt_of_lt_of_le hlt1 hbr.size
        have g0 := (hbr.cell (p := ⟨b0, off + k * 4, none⟩) hlt1).trans d0
        have g1 := (hbr.cell (p := ⟨b0, off + k * 4 + 1, none⟩) hlt1).trans d1
        have g2 := (hbr.cell (p := ⟨b0, off + k * 4 + 2, none⟩) hlt1).trans d2
        have g3 := (hbr.cell (p := ⟨b0, off + k * 4 + 3, none⟩) hlt1).trans d3
        have hbx2 := box_below hbx hbr
        have hown2 := own_below hown hbr
        have i0 : wc.cell? ⟨w.heap.size, 0, none⟩ = some (.int .i64 ltag) := box_cell hbx2 0
        have i1 : wc.cell? ⟨w.heap.size, 1, none⟩ = some (.bool lB) := box_cell hbx2 1
        have i2 : wc.cell? ⟨w.heap.size, 2, none⟩ = some (.int .u64 ln) := box_cell hbx2 2
        have i3 : wc.cell? ⟨w.heap.size, 3, none⟩ = some (.slice la lb.length lc) := box_cell hbx2 3
        have hfz := fun o => frozen_of_row wc w.heap.size o _ _ hbx2
        clear d0 d1 d2 d3 e0 e1 e2 e3 hbx hown hbr hb CF
        go_upto_region 13 with fail
        have hbx3 := box_set4 hbx2 (.int .i64 tag) (.bool isB) (.int .u64 n) (.slice fa b.length fc)
        have hgs := grown_set4 wc w.heap.size (.int .i64 tag) (.bool isB) (.int .u64 n) (.slice fa b.length fc)
        have hbs := below_set4 wc w.heap.size (.int .i64 tag) (.bool isB) (.int .u64 n) (.slice fa b.length fc)
        have hown3 := own_box hbx2 (by decide) hown2 hgs
        have j0 := hgs.cell g0 (by simp; omega)
        have j1 := hgs.cell g1 (by simp; omega)
        have j2 := hgs.cell g2 (by simp; omega)
        have j3 := hgs.cell g3 (by simp; omega)
        generalize ((((wc.setCell ⟨w.heap.size, 0, none⟩ (.int .i64 tag)).setCell ⟨w.heap.size, 1, none⟩ (.bool isB)).setCell ⟨w.heap.size, 2, none⟩ (.int .u64 n)).setCell ⟨w.heap.size, 3, none⟩ (.slice fa b.length fc)) = w2 at *
        have hB2 : Below w.heap.size w w2 := hbw.trans hbs
        clear g0 g1 g2 g3 i0 i1 i2 i3 hfz hgs hbs hbw hbx2 hown2
        have hpo : (oo && ft) = true → oo = true ∧ ft = true := by simp
        have HPO : Hid ((oo && ft) = true → oo = true ∧ ft = true) := hpo
        clear hpo
        generalize (oo && ft) = p at *
        have hB : (nb : Int) + (b.length : Int) = ((blen (fs.take (k + 1)) : Nat) : Int) := by rw [HB.out]; simp
        have HN : Hid ((nb : Int) + (b.length : Int) = ((blen (fs.take (k + 1)) : Nat) : Int)) := hB
        clear hB HB
        cases p
        · go_wp2
          go_roundw
          case rel => exact ⟨k + 1, ys, fa, fc, by omega, by go_num, by rw [HN.out], by rw [HO.out], by rw [HF.out]; exact hbx3, hown3, (fun h => by rw [HO.out] at h; cases h), by omega, hB2⟩
          case measure => simp [intOf]; omega
        · obtain ⟨ho, hf⟩ := HPO.out rfl
          have hyy : ys = layAll (fs.take k) := hys.out ho
          have HYY : Hid (ys = layAll (fs.take k)) := hyy
          clear hyy hys
          go_wp2_with fail
          refine (CL.out _ hB2 hf).mono ?_
          rintro e w5 ⟨g, c5, rfl, hown5, hb5⟩
          have hown6 := own_below hown3 hb5
          have hr5 := Row.own (HLB.out hf) rfl hown5
          have hs5 : w.heap.size ≤ w5.heap.size := Nat.le_trans hB2.size hb5.size
          go_wp2_with (at_builtin; go_must (refine wpList_append_bytes rfl (.tmp 41) (.tmp 46) rfl w.heap.size _ ys.length (ys.map (Value.int .u8)) rfl hown6 _ ly ly.length c5 rfl rfl hr5 (by intro h; cases h) (by omega) hs5 ?_; intro v7 w7 hown7 hgrow7))
          have hbx7 := box_grown (box_below hbx3 hb5) (by decide) hown6 hgrow7
          have hB7 := below_own (hB2.trans (hb5.mono hB2.size)) hown6 hs5 hgrow7
          clear hown3 hown5 hown6 hgrow7 hb5 hbx3 j0 j1 j2 j3
          go_roundw
          case rel => exact ⟨k + 1, ys ++ ly, fa, fc, by omega, by go_num, by rw [HN.out], by rw [HO.out], by rw [HF.out]; exact hbx7, by rw [List.length_append, List.map_append]; exact hown7, (fun _ => by rw [HYY.out, HY.out]), by rw [List.length_append]; omega, hB7⟩
          case measure => simp [intOf]; omega
    · have hkl : fs.take k = fs := List.take_of_length_le (by omega)
      rw [hkl] at hys ⊢
      clear hbx
      have HE : Hid (encM fs = if 4096 < blen fs then ([], 3) else if okF [] fs then (if 4096 < (layAll fs).length then ([], 3) else (layAll fs, 0)) else ([], 1)) := by
        show encM fs = _
        simp [encM, tooB, h64]
      obtain ⟨a6, c6, hv⟩ : ∃ a6 c6, u5 = .slice a6 ys.length c6 := by
        rcases hown.2 with ⟨hv, h0⟩ | ⟨g, c, cur, hv, -⟩
        · exact ⟨none, 0, by rw [h0]; exact hv⟩
        · exact ⟨_, c, hv⟩
      subst hv
      have hbl := blen_le fs h5
      generalize okF [] fs = oo at *
      generalize blen fs = nb at *
      by_cases hbig : 4096 < nb
      · have hv : Hid (encM fs = ([], 3)) := by show encM fs = _; rw [HE.out, if_pos hbig]
        clear HE
        go_wp2
        go_ret2
        exact ⟨_, by rw [hv.out]; rfl, by rw [hv.out]; exact World.ownsRow_nil _ _ _ _, hb⟩
      · cases oo
        · have hv : Hid (encM fs = ([], 1)) := by show encM fs = _; rw [HE.out, if_neg hbig]; rfl
          clear HE
          go_wp2
          go_ret2
          exact ⟨_, by rw [hv.out]; rfl, by rw [hv.out]; exact World.ownsRow_nil _ _ _ _, hb⟩
        · have hyy : ys = layAll fs := hys.out rfl
          by_cases hlong : 4096 < ys.length
          · have hv : Hid (encM fs = ([], 3)) := by show encM fs = _; rw [HE.out, if_neg hbig, if_pos rfl, if_pos (by rw [← hyy]; exact hlong)]
            clear HE hyy
            go_wp2
            go_ret2
            exact ⟨_, by rw [hv.out]; rfl, by rw [hv.out]; exact World.ownsRow_nil _ _ _ _, hb⟩
          · have hv : Hid (encM fs = (ys, 0)) := by show encM fs = _; rw [HE.out, if_neg hbig, if_pos rfl, if_neg (by rw [← hyy]; exact hlong), ← hyy]
            clear HE hyy
            go_wp2
            go_ret2
            exact ⟨_, by rw [hv.out]; rfl, by rw [hv.out]; exact hown, hb⟩
end Go.Proofs.Yteidjnkkjjigoaa
