/- Two messages, the second one's tags all above the first one's, joined are the message of both: in plain mathematics. No program. -/
import Derived.Test.YtepohbcpepkboaaGreatMsgC
import Derived.Deep.RegionWith
import Derived.Deep.CutRange
import Derived.Test.YtepohbcpepkboaaGreatFld
namespace Go.Proofs.YtepohbcpepkboaaGreat
open Go.RowKit

/-- May all fields stand, behind those ahead? -/
def okF : List Fld → List Fld → Bool
  | _, [] => true
  | ahead, f :: fs => (fmay ahead f && !mixedB f) && okF (ahead ++ [f]) fs
def layAll (fs : List Fld) : List Int := (fs.map lay).flatten
/-- Fields' bytes, and the error. -/
def encM (fs : List Fld) : List Int × Int :=
  if tooB fs then ([], 3) else if okF [] fs then (if 4096 < (layAll fs).length then ([], 3) else (layAll fs, 0)) else ([], 1)

set_option maxRecDepth 100000 in
theorem fmay_tag {ahead : List Fld} {f : Fld} (h : fmay ahead f = true) : 1 ≤ f.tag ∧ f.tag ≤ 1000 := by
  unfold fmay at h
  split at h
  · cases h
  · omega
set_option maxRecDepth 100000 in
theorem okF_at : ∀ (fs ahead : List Fld), okF ahead fs = true → ∀ f ∈ fs, 1 ≤ f.tag ∧ f.tag ≤ 1000
  | [], _, _, f, hf => by simp at hf
  | g :: fs, ahead, h, f, hf => by
    simp only [okF, Bool.and_eq_true] at h
    rcases List.mem_cons.1 hf with rfl | hf
    · exact fmay_tag h.1.1
    · exact okF_at fs _ h.2 f hf
set_option maxRecDepth 100000 in
theorem lay_len (f : Fld) : (lay f).length ≤ 20 + f.b.length := by
  unfold lay
  have h1 := enc_len (f.tag * 2 + 1)
  have h2 := enc_len (f.b.length : Int)
  have h3 := enc_len (f.tag * 2)
  have h4 := enc_len f.n
  split <;> simp <;> omega
set_option maxRecDepth 100000 in
theorem layAll_snoc (fs : List Fld) (f : Fld) : layAll (fs ++ [f]) = layAll fs ++ lay f := by simp [layAll]
set_option maxRecDepth 100000 in
theorem layAll_len : ∀ fs : List Fld, (layAll fs).length ≤ 20 * fs.length + blen fs
  | [] => by simp [layAll]
  | f :: fs => by
    have h1 := layAll_len fs
    have h2 := lay_len f
    simp only [layAll, blen, List.map_cons, List.flatten_cons, List.length_append, List.length_cons, List.sum_cons] at h1 ⊢
    omega
set_option maxRecDepth 100000 in
theorem lay_byte (f : Fld) (hok : f.ok) (ht : 1 ≤ f.tag) (hb : ∀ c ∈ f.b, 0 ≤ c ∧ c ≤ 255) : ∀ c ∈ lay f, 0 ≤ c ∧ c ≤ 255 := by
  intro c hc
  unfold lay at hc
  split at hc
  · simp only [List.mem_append] at hc
    rcases hc with (h | h) | h
    · exact enc_byte _ (by omega) c h
    · exact enc_byte _ (by omega) c h
    · exact hb c h
  · simp only [List.mem_append] at hc
    rcases hc with h | h
    · exact enc_byte _ (by omega) c h
    · exact enc_byte _ hok.2.1 c h

set_option maxHeartbeats 3200000 in
set_option maxRecDepth 100000 in
theorem encode_any (ao : Option Addr) (fs : List Fld) (cap : Nat) (w : World) (hr : FRow w ao fs) (hlc : fs.length ≤ cap) (hm : cap ≤ maxLen) :
    Calls Tryz.prog 51 #[.slice ao fs.length cap] w fun e w' => ∃ v, e = .returned (.tuple #[v, .int .i64 (encM fs).2]) ∧
      w'.ownsRow w.heap.size 5 1 v (encM fs).1.length ((encM fs).1.map (Value.int .u8)) ∧ Below w.heap.size w w' := by
  unfold maxLen at hm
  cases htoo : tooB fs with
  | true =>
    have E : Hid (encM fs = ([], 3)) := by show encM fs = _; simp [encM, htoo]
    have HT : Hid (tooB fs = true) := htoo
    clear htoo
    go_enter Tryz.func51, Tryz.ntmps51
    go_wp2_with fail
    refine (too_any ao fs cap _ hr (by omega)).mono ?_
    rintro e w1 ⟨rfl, hb1⟩
    rw [HT.out]
    go_wp2
    go_ret2
    exact ⟨_, by rw [E.out]; rfl, by rw [E.out]; exact World.ownsRow_nil _ _ _ _, hb1⟩
  | false =>
    have h64 : fs.length ≤ 64 ∧ blen fs ≤ 4096 := by simp [tooB] at htoo; omega
    have HT : Hid (tooB fs = false) := htoo
    clear htoo
    go_enter Tryz.func51, Tryz.ntmps51
    go_wp2_with fail
    refine (too_any ao fs cap _ hr (by omega)).mono ?_
    rintro e w1 ⟨rfl, hb1⟩
    rw [HT.out]
    go_wp2
    go_loopw [13] (fun si wr => ∃ k : Nat, k ≤ fs.length ∧ si = .int .i64 k ∧ Hid (okF [] fs = okF (fs.take k) (fs.drop k)) ∧ Below w.heap.size w wr) (fun si _ => fs.length - (intOf si).toNat)
    case atStart => exact ⟨0, by omega, rfl, rfl, hb1⟩
    case round =>
      obtain ⟨k, hk, rfl, hok, hb⟩ := hrel
      by_cases hlt : k < fs.length
      · have hz : fs ≠ [] := by intro h; rw [h] at hlt; simp at hlt
        obtain ⟨b0, off, rfl, hc⟩ := hr.2 hz
        obtain ⟨fa, fc, c0, c1, c2, c3, hsh⟩ := hc k hlt
        have hlt0 : b0 < w.heap.size := World.block_lt_of_cell? w ⟨b0, off + k * 4, none⟩ c0
        have d0 := (hb.cell (p := ⟨b0, off + k * 4, none⟩) hlt0).trans c0
        have d1 := (hb.cell (p := ⟨b0, off + k * 4 + 1, none⟩) hlt0).trans c1
        have d2 := (hb.cell (p := ⟨b0, off + k * 4 + 2, none⟩) hlt0).trans c2
        have d3 := (hb.cell (p := ⟨b0, off + k * 4 + 3, none⟩) hlt0).trans c3
        have hlt1 : b0 < wr.heap.size := Nat.lt_of_lt_of_le hlt0 hb.size
        have hdrop : fs.drop k = fs[k] :: fs.drop (k + 1) := List.drop_eq_getElem_cons hlt
        have htake : fs.take (k + 1) = fs.take k ++ [fs[k]] := List.take_succ_eq_append_getElem hlt
        have HD : Hid (fs.drop k = fs[k] :: fs.drop (k + 1)) := hdrop
        have HK : Hid (fs.take (k + 1) = fs.take k ++ [fs[k]]) := htake
        have hrk := fun (W : World) (h : Below w.heap.size w W) => (hr.take k).below h
        clear c0 c1 c2 c3 hdrop htake hsh hc
        generalize fs[k] = f at *
        obtain ⟨tag, isB, n, b⟩ := f
        simp only at d0 d1 d2 d3
        have CM : Hid (∀ W, Below w.heap.size w W → Calls Tryz.prog 80 #[.slice (some ⟨b0, off, none⟩) k cap, .agg #[.int .i64 tag, .bool isB, .int .u64 n, .slice fa b.length fc]] W fun e w' => e = .returned (.bool (fmay (fs.take k) ⟨tag, isB, n, b⟩)) ∧ Below W.heap.size W w') := fun W hW => by
          have := fmay_any (some ⟨b0, off, none⟩) (fs.take k) cap ⟨tag, isB, n, b⟩ fa fc W (hrk W hW) (by simp; omega)
          rw [List.length_take, Nat.min_eq_left hk] at this
          exact this
        have CX : Hid (∀ W, Calls Tryz.prog 81 #[.agg #[.int .i64 tag, .bool isB, .int .u64 n, .slice fa b.length fc]] W fun e w' => e = .returned (.bool (mixedB ⟨tag, isB, n, b⟩)) ∧ Below W.heap.size W w') := fun W => mixed_any ⟨tag, isB, n, b⟩ fa fc W
        clear hrk
        have hE : okF [] fs = ((fmay (fs.take k) ⟨tag, isB, n, b⟩ && !mixedB ⟨tag, isB, n, b⟩) && okF (fs.take (k + 1)) (fs.drop (k + 1))) := by rw [hok.out, HD.out, HK.out]; rfl
        have HE : Hid (okF [] fs = ((fmay (fs.take k) ⟨tag, isB, n, b⟩ && !mixedB ⟨tag, isB, n, b⟩) && okF (fs.take (k + 1)) (fs.drop (k + 1)))) := hE
        clear hE HD HK hok
        generalize fmay (fs.take k) ⟨tag, isB, n, b⟩ = m1 at *
        generalize mixedB ⟨tag, isB, n, b⟩ = m2 at *
        have hk0 : (0 : Int) ≤ (k : Int) := by omega
        have hkc : (k : Int) ≤ (cap : Int) := by omega
        have hcap0 : ¬ cap = 0 := by omega
        go_upto_region 6 with fail
        go_cut [27] from 14 to 28 (fun s27 wx => s27 = .bool (!m1 || m2) ∧ Below w.heap.size w wx)
        case first =>
          have hbx : Below w.heap.size w (wr.alloc (.cells #[.int .i64 tag, .bool isB, .int .u64 n, .slice fa b.length fc] 149)).drew := (hb.alloc hb.size _).drew
          cases m1
          · go_region_with (first
              | (go_at_call 80; refine (CM.out _ hbx).mono ?_; rintro e w5 ⟨rfl, hb5⟩; obtain ⟨hc5, hf5⟩ := bcell hb5))
            all_goals
              go_wp2_with fail
              go_meet
              case rel => exact ⟨rfl, hbx.trans (hb5.mono hbx.size)⟩
          · go_region_with (first
              | (go_at_call 80; refine (CM.out _ hbx).mono ?_; rintro e w5 ⟨rfl, hb5⟩; obtain ⟨hc5, hf5⟩ := bcell hb5)
              | (go_at_call 81; refine (CX.out _).mono ?_; rintro e w6 ⟨rfl, hb6⟩))
            all_goals
              go_wp2_with fail
              go_meet
              case rel => exact ⟨rfl, (hbx.trans (hb5.mono hbx.size)).trans (hb6.mono (Nat.le_trans hbx.size hb5.size))⟩
        case rest =>
          obtain ⟨h27, hbc⟩ := hcut
          clear CM CX d0 d1 d2 d3
          cases m1
          · simp only [Bool.not_false, Bool.true_or] at h27
            subst h27
            have hv : Hid (encM fs = ([], 1)) := by
              have h := HE.out
              simp only [Bool.false_and] at h
              show encM fs = _
              simp [encM, HT.out, h]
            clear HE
            go_wp2
            go_ret2
            exact ⟨_, by rw [hv.out]; rfl, by rw [hv.out]; exact World.ownsRow_nil _ _ _ _, hbc⟩
          · cases m2
            · simp only [Bool.not_true, Bool.false_or] at h27
              subst h27
              have hE2 : Hid (okF [] fs = okF (fs.take (k + 1)) (fs.drop (k + 1))) := by
                have h := HE.out
                show okF [] fs = _
                simpa using h
              clear HE
              go_wp2
              go_roundw
              case rel => exact ⟨k + 1, by omega, by go_num, hE2, hbc⟩
              case measure => simp [intOf]; omega
            · simp only [Bool.not_true, Bool.false_or] at h27
              subst h27
              have hv : Hid (encM fs = ([], 1)) := by
                have h := HE.out
                simp only [Bool.not_true, Bool.and_false, Bool.false_and] at h
                show encM fs = _
                simp [encM, HT.out, h]
              clear HE
              go_wp2
              go_ret2
              exact ⟨_, by rw [hv.out]; rfl, by rw [hv.out]; exact World.ownsRow_nil _ _ _ _, hbc⟩
      · have hall : okF [] fs = true := by rw [hok.out, List.drop_eq_nil_of_le (by omega)]; rfl
        have htags := okF_at fs [] hall
        have hE : encM fs = if 4096 < (layAll fs).length then ([], 3) else (layAll fs, 0) := by simp [encM, HT.out, hall]
        have HE : Hid (encM fs = if 4096 < (layAll fs).length then ([], 3) else (layAll fs, 0)) := hE
        have hlen := layAll_len fs
        clear hall hE hok
        go_wp2
        go_loopw [6, 31] (fun v si wr => ∃ k : Nat, k ≤ fs.length ∧ si = .int .i64 k ∧ wr.ownsRow w.heap.size 5 1 v (layAll (fs.take k)).length ((layAll (fs.take k)).map (Value.int .u8)) ∧ Below w.heap.size w wr) (fun _ si _ => fs.length - (intOf si).toNat)
        case atStart => exact ⟨0, by omega, rfl, World.ownsRow_nil _ _ _ _, hb⟩
        case round =>
          obtain ⟨j, hj, rfl, hown, hb2⟩ := hrel
          by_cases hlt2 : j < fs.length
          · have hz : fs ≠ [] := by intro h; rw [h] at hlt2; simp at hlt2
            obtain ⟨b0, off, rfl, hc⟩ := hr.2 hz
            obtain ⟨fa, fc, c0, c1, c2, c3, hsh⟩ := hc j hlt2
            have hlt0 : b0 < w.heap.size := World.block_lt_of_cell? w ⟨b0, off + j * 4, none⟩ c0
            have d0 := (hb2.cell (p := ⟨b0, off + j * 4, none⟩) hlt0).trans c0
            have d1 := (hb2.cell (p := ⟨b0, off + j * 4 + 1, none⟩) hlt0).trans c1
            have d2 := (hb2.cell (p := ⟨b0, off + j * 4 + 2, none⟩) hlt0).trans c2
            have d3 := (hb2.cell (p := ⟨b0, off + j * 4 + 3, none⟩) hlt0).trans c3
            have hlt1 : b0 < wr.heap.size := Nat.lt_of_lt_of_le hlt0 hb2.size
            have hlay : layAll (fs.take (j + 1)) = layAll (fs.take j) ++ lay fs[j] := by rw [List.take_succ_eq_append_getElem hlt2, layAll_snoc]
            have HL : Hid (layAll (fs.take (j + 1)) = layAll (fs.take j) ++ lay fs[j]) := hlay
            have hll := layAll_len (fs.take j)
            have hbl := blen_take_le fs j
            have hbl2 : (fs[j]).b.length ≤ blen fs := by
              have h1 := blen_take_le fs (j + 1)
              rw [List.take_succ_eq_append_getElem hlt2, blen_snoc] at h1
              omega
            have hokf := hr.1 fs[j] (List.getElem_mem hlt2)
            have htag := htags fs[j] (List.getElem_mem hlt2)
            have hshw := hsh.below hb2
            have hltb : (fs[j]).b ≠ [] → ∀ x, fa = some x → x.block < w.heap.size := fun hne x hx => by
              obtain ⟨b1, off1, hx1, -⟩ := hsh.1.2 hne
              rw [hx1] at hx
              obtain rfl := Option.some.inj hx
              exact Row.lt (hx1 ▸ hsh.1) hne
            have hjl : (fs.take j).length ≤ 64 := by simp; omega
            clear c0 c1 c2 c3 hlay hsh hc
            generalize fs[j] = f at *
            obtain ⟨tag, isB, n, b⟩ := f
            simp only at d0 d1 d2 d3
            go_wp2_with fail
            refine (appendField_any w.heap.size _ (layAll (fs.take j)).length (layAll (fs.take j)) ⟨tag, isB, n, b⟩ fa fc _ (hown.alloc _) (by have := hb2.size; simp; omega) hokf htag (hshw.below ((Below.refl _ _).alloc (Nat.le_refl _) _)) hltb (by simp only at hbl2 ⊢; omega)).mono ?_
            rintro e w5 ⟨v5, rfl, hown5, hb5⟩
            have hB5 := (hb2.alloc hb2.size _).trans hb5
            have hown5' : w5.ownsRow w.heap.size 5 1 v5 (layAll (fs.take (j + 1))).length ((layAll (fs.take (j + 1))).map (Value.int .u8)) := by rw [HL.out, List.length_append]; exact hown5
            clear hown5 hb5 hown d0 d1 d2 d3 hshw HL
            go_wp2
            go_roundw
            case rel => exact ⟨j + 1, by omega, by go_num, hown5', hB5⟩
            case measure => simp [intOf]; omega
          · have hjl : fs.take j = fs := List.take_of_length_le (by omega)
            rw [hjl] at hown
            clear hjl htags
            obtain ⟨a6, c6, hv⟩ : ∃ a6 c6, u6 = .slice a6 (layAll fs).length c6 := by
              rcases hown.2 with ⟨hv, h0⟩ | ⟨g, c, cur, hv, -⟩
              · exact ⟨none, 0, by rw [h0]; exact hv⟩
              · exact ⟨_, c, hv⟩
            subst hv
            by_cases hbig : 4096 < (layAll fs).length
            · have hv : Hid (encM fs = ([], 3)) := by show encM fs = _; rw [HE.out, if_pos hbig]
              clear HE
              go_wp2
              go_ret2
              exact ⟨_, by rw [hv.out]; rfl, by rw [hv.out]; exact World.ownsRow_nil _ _ _ _, hb2⟩
            · have hv : Hid (encM fs = (layAll fs, 0)) := by show encM fs = _; rw [HE.out, if_neg hbig]
              clear HE
              go_wp2
              go_ret2
              exact ⟨_, by rw [hv.out]; rfl, by rw [hv.out]; exact hown, hb2⟩
end Go.Proofs.YtepohbcpepkboaaGreat

namespace Go.Proofs.YtepohbcpepkboaaGreat
open Go.RowKit

set_option maxRecDepth 100000 in
theorem fmay_shift (A B : List Fld) (f : Fld) (t : Int) (hA : ∀ l ∈ A, l.tag ≤ t) (hf : t < f.tag) (h : fmay B f = true) : fmay (A ++ B) f = true := by
  by_cases hB : B = []
  · subst hB
    have ht := fmay_tag h
    have hn : ¬ (f.tag < 1 ∨ 1000 < f.tag) := by omega
    rw [List.append_nil]
    cases hl : A.getLast? with
    | none => simp [fmay, hn, hl]
    | some l =>
      have hm := hA l (List.mem_of_getLast? hl)
      have h1 : ¬ f.tag = l.tag := by omega
      have h2 : l.tag < f.tag := by omega
      simp [fmay, hn, hl, h1, h2]
  · have e : (A ++ B).getLast? = B.getLast? := by
      rw [List.getLast?_append]
      cases hB2 : B.getLast? with
      | none => exact absurd (List.getLast?_eq_none_iff.1 hB2) hB
      | some l => rfl
    unfold fmay at h ⊢
    rw [e]; exact h
set_option maxRecDepth 100000 in
theorem okF_shift : ∀ (fs A B : List Fld) (t : Int), (∀ l ∈ A, l.tag ≤ t) → (∀ f ∈ fs, t < f.tag) → okF B fs = true → okF (A ++ B) fs = true
  | [], _, _, _, _, _, _ => rfl
  | f :: fs, A, B, t, hA, hfs, h => by
    simp only [okF, Bool.and_eq_true] at h ⊢
    refine ⟨⟨fmay_shift A B f t hA (hfs f (by simp)) h.1.1, h.1.2⟩, ?_⟩
    rw [List.append_assoc]
    exact okF_shift fs A (B ++ [f]) t hA (fun g hg => hfs g (List.mem_cons_of_mem _ hg)) h.2
set_option maxRecDepth 100000 in
theorem okF_append : ∀ (fs gs A : List Fld), okF A (fs ++ gs) = (okF A fs && okF (A ++ fs) gs)
  | [], gs, A => by simp [okF]
  | f :: fs, gs, A => by
    simp only [List.cons_append, okF]
    rw [okF_append fs gs (A ++ [f]), List.append_assoc, List.singleton_append]
    simp only [Bool.and_assoc]
set_option maxRecDepth 100000 in
theorem blen_lay : ∀ (fs A : List Fld), okF A fs = true → blen fs ≤ (layAll fs).length
  | [], _, _ => by simp [blen, layAll]
  | f :: fs, A, h => by
    simp only [okF, Bool.and_eq_true, Bool.not_eq_true'] at h
    have ih := blen_lay fs (A ++ [f]) h.2
    have hf : f.b.length ≤ (lay f).length := by
      have hm := h.1.2
      unfold mixedB at hm
      unfold lay
      split
      · simp; omega
      · rename_i hb
        rw [if_neg hb] at hm
        simp at hm
        simp [hm]
    simp only [blen, layAll, List.map_cons, List.sum_cons, List.flatten_cons, List.length_append] at ih ⊢
    omega
set_option maxRecDepth 100000 in
theorem encM_ok {fs : List Fld} (h : (encM fs).2 = 0) : okF [] fs = true ∧ (encM fs).1 = layAll fs := by
  unfold encM at h ⊢
  split at h
  · cases h
  · split at h
    · split at h
      · cases h
      · rename_i h1 h2 h3
        rw [if_neg h1, if_pos h2, if_neg h3]
        exact ⟨h2, rfl⟩
    · cases h
set_option maxRecDepth 100000 in
theorem encM_join (fs gs : List Fld) (t : Int) (hf : ∀ f ∈ fs, f.tag ≤ t) (hg : ∀ g ∈ gs, t < g.tag) (h1 : (encM fs).2 = 0) (h2 : (encM gs).2 = 0) (hl : fs.length + gs.length ≤ 64)
    (hb : (encM fs).1.length + (encM gs).1.length ≤ 4096) : encM (fs ++ gs) = ((encM fs).1 ++ (encM gs).1, 0) := by
  obtain ⟨o1, e1⟩ := encM_ok h1
  obtain ⟨o2, e2⟩ := encM_ok h2
  rw [e1, e2] at hb ⊢
  have b1 := blen_lay fs [] o1
  have b2 := blen_lay gs [] o2
  have hL : layAll (fs ++ gs) = layAll fs ++ layAll gs := by simp [layAll]
  have hB : blen (fs ++ gs) = blen fs + blen gs := by simp [blen]
  have ht : tooB (fs ++ gs) = false := by
    simp only [tooB, Bool.or_eq_false_iff, decide_eq_false_iff_not, List.length_append, hB]
    omega
  have ho : okF [] (fs ++ gs) = true := by
    rw [okF_append, o1, Bool.true_and]
    have := okF_shift gs fs [] t hf hg o2
    simpa using this
  have hlen : ¬ 4096 < (layAll (fs ++ gs)).length := by rw [hL, List.length_append]; omega
  rw [encM, ht, ho]
  simp only [Bool.false_eq_true, if_false, if_true]
  rw [if_neg hlen, hL]
set_option maxRecDepth 100000 in
theorem FRow.bytes {w : World} {a : Option Addr} {fs : List Fld} (h : FRow w a fs) : ∀ f ∈ fs, ∀ c ∈ f.b, 0 ≤ c ∧ c ≤ 255 := by
  intro f hf
  obtain ⟨j, hj, rfl⟩ := List.getElem_of_mem hf
  obtain ⟨b, off, rfl, hc⟩ := h.2 (by intro e; rw [e] at hj; simp at hj)
  obtain ⟨_, _, _, _, _, _, hs⟩ := hc j hj
  exact hs.1.byte
set_option maxRecDepth 100000 in
theorem encM_byte (fs : List Fld) (hok : ∀ f ∈ fs, f.ok) (hb : ∀ f ∈ fs, ∀ c ∈ f.b, 0 ≤ c ∧ c ≤ 255) : ∀ c ∈ (encM fs).1, 0 ≤ c ∧ c ≤ 255 := by
  by_cases h : (encM fs).2 = 0
  · obtain ⟨ho, he⟩ := encM_ok h
    rw [he]
    intro c hc
    obtain ⟨l, hl, hcl⟩ := List.mem_flatten.1 hc
    obtain ⟨f, hf, rfl⟩ := List.mem_map.1 hl
    exact lay_byte f (hok f hf) (okF_at fs [] ho f hf).1 (hb f hf) c hcl
  · have he : (encM fs).1 = [] := by
      unfold encM at h ⊢
      split
      · rfl
      · split
        · split
          · rfl
          · rename_i h1 h2 h3
            rw [if_neg h1, if_pos h2, if_neg h3] at h
            exact absurd rfl h
        · rfl
    rw [he]; simp
set_option maxRecDepth 100000 in
theorem encM_len (fs : List Fld) : (encM fs).1.length ≤ 4096 := by
  unfold encM
  split
  · simp
  · split
    · split
      · simp
      · simp only; omega
    · simp
end Go.Proofs.YtepohbcpepkboaaGreat

