/- Bytes' fields, laid again, are the bytes. No function of the program. -/
import Derived.Test.YtepohbcpepkboaaGreatFOwn
import Derived.Test.YtepohbcpepkboaaGreatPureJ
import Derived.Test.YtepohbcpepkboaaGreatMsgE
namespace Go.Proofs.YtepohbcpepkboaaGreat
open Go.RowKit

/-- The fields of bytes, with fuel: those ahead, and where they end. -/
def decF : Nat → List Fld → Int → List Int → List Fld × Int × Int
  | 0, l, _, _ => (l, l.length, 0)
  | f + 1, l, k, zs =>
    if zs = [] then (l, l.length, 0) else
    if (rf zs).2.2 ≠ 0 then ([], k, (rf zs).2.2) else
    if nextE l (rf zs).1 ≠ 0 then ([], k, nextE l (rf zs).1) else decF f (l ++ [(rf zs).1]) (k + (rf zs).2.1) (zs.drop (rf zs).2.1.toNat)
def decM (zs : List Int) : List Fld × Int × Int := if 4096 < zs.length then ([], 0, 3) else decF zs.length [] 0 zs
set_option maxRecDepth 100000 in
theorem decF_nil (f : Nat) (l : List Fld) (k : Int) : decF f l k [] = (l, (l.length : Int), 0) := by cases f <;> simp [decF]

set_option maxRecDepth 100000 in
theorem rf_ok (zs : List Int) (hz : ∀ c ∈ zs, 0 ≤ c ∧ c ≤ 255) (h : (rf zs).2.2 = 0) :
    ∃ s : Nat, (rf zs).2.1 = s ∧ 1 ≤ s ∧ s ≤ zs.length ∧ (rf zs).1.ok := by
  by_cases h0 : (rd zs).2.2 = 0
  · obtain ⟨hk0, hk1, hkt, hks⟩ := rd_ok zs hz h0
    have hl1 := enc_len (rd zs).1
    have hle1 : (enc (rd zs).1).length ≤ zs.length := by
      have := congrArg List.length hkt
      simp at this; omega
    have hT : (rd zs).2.1.toNat = (enc (rd zs).1).length := by rw [hks]; omega
    by_cases h2 : (rd (zs.drop (rd zs).2.1.toNat)).2.2 = 0
    · obtain ⟨hm0, hm1, hmt, hms⟩ := rd_ok (zs.drop (rd zs).2.1.toNat) (fun c hc => hz c (List.mem_of_mem_drop hc)) h2
      have hl2 := enc_len (rd (zs.drop (rd zs).2.1.toNat)).1
      have hle2 : (enc (rd (zs.drop (rd zs).2.1.toNat)).1).length ≤ zs.length - (enc (rd zs).1).length := by
        have := congrArg List.length hmt
        simp only [List.length_take, List.length_drop] at this; omega
      by_cases hev : (rd zs).1 % 2 = 0
      · refine ⟨(enc (rd zs).1).length + (enc (rd (zs.drop (rd zs).2.1.toNat)).1).length, ?_, by omega, by omega, ?_⟩
        · simp only [rf, h0, h2, hev, ne_eq, not_true_eq_false, if_false, if_true]; omega
        · simp only [rf, h0, h2, hev, ne_eq, not_true_eq_false, if_false, if_true, Fld.ok]; omega
      · by_cases hbig : (zs.length : Int) - ((rd zs).2.1 + (rd (zs.drop (rd zs).2.1.toNat)).2.1) < (rd (zs.drop (rd zs).2.1.toNat)).1
        · simp only [rf, h0, h2, hev, hbig, ne_eq, not_true_eq_false, if_false, if_true] at h
          omega
        · refine ⟨(enc (rd zs).1).length + (enc (rd (zs.drop (rd zs).2.1.toNat)).1).length + (rd (zs.drop (rd zs).2.1.toNat)).1.toNat, ?_, by omega, by omega, ?_⟩
          · simp only [rf, h0, h2, hev, hbig, ne_eq, not_true_eq_false, if_false]; omega
          · simp only [rf, h0, h2, hev, hbig, ne_eq, not_true_eq_false, if_false, Fld.ok]; omega
    · simp only [rf, h0, h2, ne_eq, not_true_eq_false, if_false, not_false_eq_true, if_true] at h
  · simp only [rf, h0, ne_eq, not_false_eq_true, if_true] at h

set_option maxRecDepth 100000 in
theorem infoF : (Tryz.prog.info? 149).map (fun i => (i.zero, i.size, i.bytes)) = some (some (.agg #[.int .i64 0, .bool false, .int .u64 0, .slice none 0 0]), 4, 48) := by kernel_rfl
set_option maxRecDepth 100000 in
theorem nextE_len {l : List Fld} {f : Fld} (h : nextE l f = 0) (hl : l.length ≤ 64) : l.length < 64 := by
  unfold nextE at h
  split at h
  · split at h
    · cases h
    · omega
  · cases h

set_option maxHeartbeats 3200000 in
set_option maxRecDepth 100000 in
theorem decode_any (a : Option Addr) (zs : List Int) (cap : Nat) (w : World) (hr : Row w a zs) (hnil : a = none → zs.length = 0 ∧ cap = 0) (hlc : zs.length ≤ cap) :
    Calls Tryz.prog 65 #[.slice a zs.length cap] w fun e w' => ∃ v ps, e = .returned (.tuple #[v, .int .i64 (decM zs).2.1, .int .i64 (decM zs).2.2]) ∧ FOwn 149 w' w.heap.size v ps ∧ ps.map (·.1) = (decM zs).1 ∧ Below w.heap.size w w' := by
  by_cases hbig : 4096 < zs.length
  · have E : Hid (decM zs = ([], 0, 3)) := by show decM zs = _; simp [decM, hbig]
    clear hr hnil
    go_enter Tryz.func65, Tryz.ntmps65
    go_wp2
    go_ret3
    exact ⟨_, [], by rw [E.out]; rfl, FOwn.nil _ _ _, by rw [E.out]; rfl, Below.refl _ _⟩
  · have E : Hid (decM zs = decF zs.length [] 0 zs) := by show decM zs = _; simp [decM, hbig]
    obtain ⟨i0, hi, hz0, hz1, hz2⟩ := info_parts infoF
    go_enter Tryz.func65, Tryz.ntmps65
    go_wp2
    go_loopw [5, 6] (fun v sk wr => ∃ (ps : List (Fld × Option Addr × Nat)) (k f : Nat), k ≤ zs.length ∧ sk = .int .i64 k ∧ FOwn 149 wr w.heap.size v ps ∧ ps.length ≤ 64 ∧ Hid (decM zs = decF f (ps.map (·.1)) k (zs.drop k) ∧ zs.length - k ≤ f) ∧ Below w.heap.size w wr) (fun _ sk _ => zs.length - (intOf sk).toNat)
    case atStart => exact ⟨[], 0, zs.length, by omega, rfl, FOwn.nil _ _ _, by simp, ⟨E.out, by omega⟩, Below.refl _ _⟩
    case round =>
      obtain ⟨ps, k, f, hk, rfl, hfo, hps, hid, hb⟩ := hrel
      clear E
      obtain ⟨va, vc, hv, hvr, hvn, hvc, hvm⟩ := hfo.view
      subst hv
      by_cases hlt : k < zs.length
      · obtain ⟨f, rfl⟩ : ∃ g, f = g + 1 := by
          have := hid.out.2
          cases f with
          | zero => omega
          | succ g => exact ⟨g, rfl⟩
        have hrk : Row wr a zs := hr.below hb
        have hsl := run_cut_l a zs.length cap k (k : Int) rfl (by omega)
        have CF : Hid (∀ W, Row W a zs → Calls Tryz.prog 95 #[.slice (cutA a cap k) (zs.length - k) (cap - k)] W fun e w' => ∃ fa fc, e = .returned (.tuple #[(rf (zs.drop k)).1.val fa fc, .int .i64 (rf (zs.drop k)).2.1, .int .i64 (rf (zs.drop k)).2.2]) ∧ (rf (zs.drop k)).1.shown w' fa fc ∧ (∀ x, fa = some x → W.heap.size ≤ x.block) ∧ Below W.heap.size W w') := fun W h => by
          have hrow := cutA_row (cap := cap) k (zs.length - k) hlc W h
          rw [List.take_of_length_le (by simp)] at hrow
          have := readField_any (cutA a cap k) (zs.drop k) (cap - k) W hrow (fun hn => by have := cutA_nil k hnil hn; simp; omega) (by simp; omega) (by simp; omega)
          rw [List.length_drop] at this; exact this
        have hne : zs.drop k ≠ [] := by intro h; have := congrArg List.length h; simp at this; omega
        have hD : decM zs = if (rf (zs.drop k)).2.2 ≠ 0 then ([], (k : Int), (rf (zs.drop k)).2.2) else if nextE (ps.map (·.1)) (rf (zs.drop k)).1 ≠ 0 then ([], (k : Int), nextE (ps.map (·.1)) (rf (zs.drop k)).1) else decF f (ps.map (·.1) ++ [(rf (zs.drop k)).1]) ((k : Int) + (rf (zs.drop k)).2.1) ((zs.drop k).drop (rf (zs.drop k)).2.1.toNat) := by
          rw [hid.out.1]; simp only [decF, hne, if_false]
        have hrok := rf_ok (zs.drop k) (fun c hc => hr.byte c (List.mem_of_mem_drop hc))
        have hf := hid.out.2
        have HD : Hid (decM zs = if (rf (zs.drop k)).2.2 ≠ 0 then ([], (k : Int), (rf (zs.drop k)).2.2) else if nextE (ps.map (·.1)) (rf (zs.drop k)).1 ≠ 0 then ([], (k : Int), nextE (ps.map (·.1)) (rf (zs.drop k)).1) else decF f (ps.map (·.1) ++ [(rf (zs.drop k)).1]) ((k : Int) + (rf (zs.drop k)).2.1) ((zs.drop k).drop (rf (zs.drop k)).2.1.toNat)) := hD
        have HROK : Hid ((rf (zs.drop k)).2.2 = 0 → ∃ s : Nat, (rf (zs.drop k)).2.1 = s ∧ 1 ≤ s ∧ s ≤ zs.length - k ∧ (rf (zs.drop k)).1.ok) := fun h => by have := hrok h; rwa [List.length_drop] at this
        clear hD hne hid hrok
        generalize rf (zs.drop k) = r at *
        obtain ⟨⟨tag, isB, n, b⟩, sz, er⟩ := r
        unfold Fld.val at CF
        dsimp only at HD HROK CF
        go_wp2_with fail
        refine (CF.out _ hrk).mono ?_
        rintro e w1 ⟨fa, fc, rfl, hsh1, hfa, hb1⟩
        have hfo1 := hfo.below hb1
        have hB1 := hb.trans (hb1.mono hb.size)
        have hfo0 := hfo
        clear hfo hrk CF
        by_cases her : er = 0
        · subst her
          obtain ⟨s, hs, hs1, hs2, hfok⟩ := HROK.out rfl
          subst hs
          simp only [ne_eq, not_true_eq_false, if_false] at HD
          clear HROK
          have CN : Hid (∀ W, FRow W va (ps.map (·.1)) → Calls Tryz.prog 96 #[.slice va ps.length vc, .agg #[.int .i64 tag, .bool isB, .int .u64 n, .slice fa b.length fc]] W fun e w' => e = .returned (.int .i64 (nextE (ps.map (·.1)) ⟨tag, isB, n, b⟩)) ∧ Below W.heap.size W w') := fun W h => by
            have := next_any va (ps.map (·.1)) vc ⟨tag, isB, n, b⟩ fa fc W h (by simp; omega)
            rw [List.length_map] at this; exact this
          have hnl : nextE (ps.map (·.1)) ⟨tag, isB, n, b⟩ = 0 → ps.length < 64 := fun h => by have := nextE_len h (by simpa using hps); simpa using this
          have hvr1 := hvr.below hb1
          clear hvr
          generalize nextE (ps.map (·.1)) ⟨tag, isB, n, b⟩ = ne at *
          go_wp2_with fail
          refine (CN.out _ (hvr1.alloc _)).mono ?_
          rintro e w2 ⟨rfl, hb2⟩
          have hw12 : Below w1.heap.size w1 w2 := ((Below.refl _ _).alloc (Nat.le_refl _) _).trans (hb2.mono (by simp))
          obtain ⟨hc2, hf2⟩ := bcell hb2
          have hz2' : w1.heap.size < w2.heap.size := by have := hb2.size; simp at this; omega
          have hB2 := hB1.trans (hw12.mono hB1.size)
          by_cases hne : ne = 0
          · subst hne
            have hps64 := hnl rfl
            have HD2 : Hid (decM zs = decF f (ps.map (·.1) ++ [⟨tag, isB, n, b⟩]) ((k : Int) + s) ((zs.drop k).drop s)) := by
              have := HD.out
              show decM zs = _
              simpa using this
            have hfo2 := (hfo1.below hw12).below ((Below.refl _ _).alloc (Nat.le_refl _) (.cells #[.int .i64 tag, .bool isB, .int .u64 n, .slice fa b.length fc] 149))
            have hsh2 := (hsh1.below hw12).below ((Below.refl _ _).alloc (Nat.le_refl _) (.cells #[.int .i64 tag, .bool isB, .int .u64 n, .slice fa b.length fc] 149))
            have hap2 : b ≠ [] → ∀ x, fa = some x → some x.block ≠ (Value.slice va ps.length vc).ownBlock := fun _ x hx e => by
              have h1 := hfa x hx
              have h2 := hfo1.own.lt x.block e.symm
              have h3 : x.block < wr.heap.size := by
                rcases hfo0.own.lt x.block e.symm with ⟨_, h⟩
                exact h
              omega
            clear HD hnl CN hvr1 hfo1 hsh1
            go_wp2_with (at_builtin; go_must (refine wpList_append_own_at _ rfl (.tmp 34) (.tmp 36) 102 rfl w.heap.size 149 i0 _ 4 48 Tryz.underlying102 hi hz0 hz1 hz2 rfl (by decide) _ _ _ rfl hfo2.own ⟨w2.heap.size, 0, none⟩ 1 1 (pcells (⟨tag, isB, n, b⟩, fa, fc)) rfl rfl ?c1 ?c2 (by unfold maxLen; omega) (by omega) (by have := hB2.size; simp; omega) ?_))
            case c1 =>
              intro j u hj
              match j, hj with
              | 0, hj => simp [pcells] at hj; subst hj; simp [Addr.add]
              | 1, hj => simp [pcells] at hj; subst hj; simp [Addr.add]
              | 2, hj => simp [pcells] at hj; subst hj; simp [Addr.add]
              | 3, hj => simp [pcells] at hj; subst hj; simp [Addr.add]
            case c2 =>
              intro u hu
              simp only [pcells, List.mem_cons, List.not_mem_nil, or_false] at hu
              rcases hu with rfl | rfl | rfl | rfl <;> rfl
            intro v3 w3 hown3 hgrow3 _ hat3
            have hfo3 := hfo2.append (p := (⟨tag, isB, n, b⟩, fa, fc)) hown3 hgrow3 (by simpa using hat3) hfok hsh2 hap2
            have hB3 : Below w.heap.size w w3 := (hB2.alloc hB2.size _).grown hgrow3 (by have := hB2.size; simp; omega) (fun q hq => (hfo2.own.lt q hq).1)
            clear hown3 hgrow3 hat3 hfo2 hsh2 hap2 hc2 hf2
            go_wp2
            go_roundw
            case rel => exact ⟨ps ++ [(⟨tag, isB, n, b⟩, fa, fc)], k + s, f, by omega, by go_num, hfo3, by simp; omega, ⟨by rw [HD2.out, List.drop_drop]; simp, by omega⟩, hB3⟩
            case measure => simp [intOf]; omega
          · have HD2 : Hid (decM zs = ([], (k : Int), ne)) := by
              have := HD.out
              rw [if_pos (show ne ≠ 0 from hne)] at this
              exact this
            have hne' : (ne != 0) = true := by simpa using hne
            clear HD hnl CN hvr1 hne
            go_wp2
            go_ret3
            exact ⟨_, [], by rw [HD2.out]; rfl, FOwn.nil _ _ _, by rw [HD2.out]; rfl, hB2⟩
        · have HD2 : Hid (decM zs = ([], (k : Int), er)) := by
            have := HD.out
            rw [if_pos (show er ≠ 0 from her)] at this
            exact this
          have hne : (er == 0) = false := by simpa using her
          have hne' : (er != 0) = true := by simpa using her
          clear HD HROK her
          go_wp2
          go_ret3
          exact ⟨_, [], by rw [HD2.out]; rfl, FOwn.nil _ _ _, by rw [HD2.out]; rfl, hB1.alloc hB1.size _⟩
      · have HD2 : Hid (decM zs = (ps.map (·.1), (ps.length : Int), 0)) := by
          have := hid.out.1
          rw [List.drop_eq_nil_of_le (by omega), decF_nil, List.length_map] at this
          exact this
        clear hid hr
        go_wp2
        go_ret3
        exact ⟨_, ps, by rw [HD2.out]; rfl, hfo, by rw [HD2.out], hb⟩
end Go.Proofs.YtepohbcpepkboaaGreat

namespace Go.Proofs.YtepohbcpepkboaaGreat

set_option maxRecDepth 100000 in
theorem rf_lay (f : Fld) (more : List Int) (hok : f.ok) (ht : 1 ≤ f.tag ∧ f.tag ≤ 1000) (hmx : mixedB f = false) (hb : f.b.length ≤ 70368744177664) : rf (lay f ++ more) = (f, ((lay f).length : Int), 0) := by
  obtain ⟨tag, isB, n, b⟩ := f
  obtain ⟨-, hn0, hn1⟩ := hok
  simp only at hn0 hn1 ht hb
  cases isB
  · have hbn : b = [] := List.eq_nil_of_length_eq_zero (by simp [mixedB] at hmx; simp [hmx])
    subst hbn
    have hL : lay ⟨tag, false, n, []⟩ = enc (tag * 2) ++ enc n := by simp [lay]
    rw [hL, List.append_assoc]
    have r1 := rd_enc (tag * 2) (enc n ++ more) (by omega) (by omega)
    have r2 := rd_enc n more hn0 hn1
    unfold rf
    simp only [r1, Int.toNat_natCast, List.drop_left, r2]
    simp
  · have hn : n = 0 := by simpa [mixedB] using hmx
    subst hn
    have hL : lay ⟨tag, true, 0, b⟩ = enc (tag * 2 + 1) ++ enc b.length ++ b := by simp [lay]
    rw [hL, List.append_assoc, List.append_assoc]
    have r1 := rd_enc (tag * 2 + 1) (enc b.length ++ (b ++ more)) (by omega) (by omega)
    have r2 := rd_enc b.length (b ++ more) (by omega) (by omega)
    unfold rf
    simp only [r1, Int.toNat_natCast, List.drop_left, r2]
    have e1 : (tag * 2 + 1) % 2 = 1 := by omega
    have e2 : (tag * 2 + 1) / 2 = tag := by omega
    have e3 : ((enc (tag * 2 + 1)).length + (enc (b.length : Int)).length : Int).toNat = (enc (tag * 2 + 1)).length + (enc (b.length : Int)).length := by omega
    have e4 : (enc (tag * 2 + 1) ++ (enc (b.length : Int) ++ (b ++ more))).drop ((enc (tag * 2 + 1)).length + (enc (b.length : Int)).length) = b ++ more := by
      rw [← List.drop_drop, List.drop_left, List.drop_left]
    have e5 : ¬ (((enc (tag * 2 + 1) ++ (enc (b.length : Int) ++ (b ++ more))).length : Int) - ((enc (tag * 2 + 1)).length + (enc (b.length : Int)).length) < b.length) := by
      simp only [List.length_append]; omega
    rw [if_neg (by simp), if_neg (by simp), if_neg (by omega), if_neg e5, e3, e4, e2, List.take_left]
    simp [Int.add_assoc]

set_option maxRecDepth 100000 in
theorem lay_ne (f : Fld) : lay f ≠ [] := by
  intro h
  unfold lay at h
  split at h
  · exact enc_ne _ (List.append_eq_nil_iff.1 (List.append_eq_nil_iff.1 h).1).1
  · exact enc_ne _ (List.append_eq_nil_iff.1 h).1

set_option maxRecDepth 100000 in
theorem decF_lay : ∀ (fs ahead : List Fld) (k : Int) (fuel : Nat), okF ahead fs = true → ahead.length + fs.length ≤ 64 → (∀ f ∈ fs, f.ok) → (∀ f ∈ fs, f.b.length ≤ 70368744177664) → (layAll fs).length ≤ fuel →
    decF fuel ahead k (layAll fs) = (ahead ++ fs, ((ahead ++ fs).length : Int), 0)
  | [], ahead, k, fuel, _, _, _, _, _ => by
    have e : layAll [] = [] := rfl
    rw [e, decF_nil, List.append_nil]
  | f :: fs, ahead, k, fuel, hok, hl, h1, h2, hf => by
    have e : layAll (f :: fs) = lay f ++ layAll fs := by simp [layAll]
    rw [e] at hf ⊢
    simp only [okF, Bool.and_eq_true, Bool.not_eq_true'] at hok
    obtain ⟨⟨hm, hx⟩, hrest⟩ := hok
    have hne := lay_ne f
    have hpos : 1 ≤ (lay f).length := List.length_pos_iff.2 hne
    simp only [List.length_append, List.length_cons] at hf hl
    obtain ⟨fu, rfl⟩ : ∃ fu, fuel = fu + 1 := ⟨fuel - 1, by omega⟩
    have hr := rf_lay f (layAll fs) (h1 f (by simp)) (fmay_tag hm) hx (h2 f (by simp))
    have hn : nextE ahead f = 0 := by
      unfold nextE
      rw [if_pos hm, if_neg (by omega)]
    have ih := decF_lay fs (ahead ++ [f]) (k + ((lay f).length : Int)) fu hrest (by simp only [List.length_append, List.length_singleton]; omega) (fun g hg => h1 g (by simp [hg])) (fun g hg => h2 g (by simp [hg])) (by omega)
    have hne2 : lay f ++ layAll fs ≠ [] := fun e => hne (List.append_eq_nil_iff.1 e).1
    rw [decF, if_neg hne2, hr]
    simp only [Int.toNat_natCast, List.drop_left, hn, ne_eq, not_true_eq_false, if_false]
    rw [ih]
    simp

set_option maxRecDepth 100000 in
theorem decM_enc (fs : List Fld) (h : (encM fs).2 = 0) (hok : ∀ f ∈ fs, f.ok) (hb : ∀ f ∈ fs, f.b.length ≤ 70368744177664) : decM (encM fs).1 = (fs, (fs.length : Int), 0) := by
  obtain ⟨h1, h2⟩ := encM_ok h
  have hl := encM_len fs
  have hlen : fs.length ≤ 64 := by
    unfold encM at h
    split at h
    · cases h
    · rename_i h'; simp [tooB] at h'; omega
  unfold decM
  rw [if_neg (by omega), h2]
  have := decF_lay fs [] 0 (layAll fs).length h1 (by simpa using hlen) hok hb (Nat.le_refl _)
  simpa using this
end Go.Proofs.YtepohbcpepkboaaGreat

namespace Go.Proofs.YtepohbcpepkboaaGreat

set_option maxRecDepth 100000 in
theorem rf_back (zs : List Int) (hz : ∀ c ∈ zs, 0 ≤ c ∧ c ≤ 255) (h : (rf zs).2.2 = 0) :
    mixedB (rf zs).1 = false ∧ (rf zs).2.1 = ((lay (rf zs).1).length : Int) ∧ zs = lay (rf zs).1 ++ zs.drop (lay (rf zs).1).length := by
  by_cases h0 : (rd zs).2.2 = 0
  · obtain ⟨hk0, hk1, hkt, hks⟩ := rd_ok zs hz h0
    have hle1 : (enc (rd zs).1).length ≤ zs.length := by
      have := congrArg List.length hkt
      simp at this; omega
    have hT : (rd zs).2.1.toNat = (enc (rd zs).1).length := by rw [hks]; omega
    have hz1 : zs = enc (rd zs).1 ++ zs.drop (enc (rd zs).1).length := by
      conv => lhs; rw [← List.take_append_drop (enc (rd zs).1).length zs, hkt]
    by_cases h2 : (rd (zs.drop (rd zs).2.1.toNat)).2.2 = 0
    · obtain ⟨hm0, hm1, hmt, hms⟩ := rd_ok (zs.drop (rd zs).2.1.toNat) (fun c hc => hz c (List.mem_of_mem_drop hc)) h2
      rw [hT] at hm0 hm1 hmt hms h2
      have hle2 : (enc (rd (zs.drop (enc (rd zs).1).length)).1).length ≤ zs.length - (enc (rd zs).1).length := by
        have := congrArg List.length hmt
        simp only [List.length_take, List.length_drop] at this; omega
      have hz2 : zs.drop (enc (rd zs).1).length = enc (rd (zs.drop (enc (rd zs).1).length)).1 ++ zs.drop ((enc (rd zs).1).length + (enc (rd (zs.drop (enc (rd zs).1).length)).1).length) := by
        conv => lhs; rw [← List.take_append_drop (enc (rd (zs.drop (enc (rd zs).1).length)).1).length (zs.drop (enc (rd zs).1).length), hmt, List.drop_drop]
      have hR : rf zs = if (rd zs).1 % 2 = 0 then (⟨(rd zs).1 / 2, false, (rd (zs.drop (enc (rd zs).1).length)).1, []⟩, (rd zs).2.1 + (rd (zs.drop (enc (rd zs).1).length)).2.1, 0) else
          if (zs.length : Int) - ((rd zs).2.1 + (rd (zs.drop (enc (rd zs).1).length)).2.1) < (rd (zs.drop (enc (rd zs).1).length)).1 then (zeroF, 0, 5) else
          (⟨(rd zs).1 / 2, true, 0, (zs.drop ((rd zs).2.1 + (rd (zs.drop (enc (rd zs).1).length)).2.1).toNat).take (rd (zs.drop (enc (rd zs).1).length)).1.toNat⟩, (rd zs).2.1 + (rd (zs.drop (enc (rd zs).1).length)).2.1 + (rd (zs.drop (enc (rd zs).1).length)).1, 0) := by
        unfold rf
        rw [hT, if_neg (by simp [h0]), if_neg (by simp [h2])]
      rw [hks, hms] at hR
      clear hks hms h0 h2 hmt hkt hT
      generalize (rd (zs.drop (enc (rd zs).1).length)).1 = m at *
      generalize (rd zs).1 = key at *
      by_cases hev : key % 2 = 0
      · rw [if_pos hev] at hR
        rw [hR]
        have hL : lay ⟨key / 2, false, m, []⟩ = enc key ++ enc m := by
          have : key / 2 * 2 = key := by omega
          simp [lay, this]
        refine ⟨by simp [mixedB], by simp only [hL, List.length_append]; omega, ?_⟩
        simp only [hL, List.length_append, List.append_assoc]
        rw [← hz2]; exact hz1
      · rw [if_neg hev] at hR
        by_cases hbig : (zs.length : Int) - (((enc key).length : Int) + ((enc m).length : Int)) < m
        · rw [if_pos hbig] at hR
          rw [hR] at h
          cases h
        · rw [if_neg hbig] at hR
          rw [hR]
          obtain ⟨mm, rfl⟩ := Int.eq_ofNat_of_zero_le hm0
          have e1 : (((enc key).length : Int) + ((enc (mm : Int)).length : Int)).toNat = (enc key).length + (enc (mm : Int)).length := by omega
          have e2 : ((zs.drop ((enc key).length + (enc (mm : Int)).length)).take mm).length = mm := by simp; omega
          have hL : lay ⟨key / 2, true, 0, (zs.drop ((enc key).length + (enc (mm : Int)).length)).take mm⟩ = enc key ++ (enc (mm : Int) ++ (zs.drop ((enc key).length + (enc (mm : Int)).length)).take mm) := by
            have : key / 2 * 2 + 1 = key := by omega
            simp only [lay, this, e2, if_true, List.append_assoc]
          simp only [e1, Int.toNat_natCast]
          refine ⟨by simp [mixedB], by rw [hL]; simp only [List.length_append, e2]; omega, ?_⟩
          rw [hL]
          simp only [List.length_append, e2, List.append_assoc]
          have e3 : ∀ P : Nat, (zs.drop P).take mm ++ zs.drop (P + mm) = zs.drop P := fun P => by rw [← List.drop_drop, List.take_append_drop]
          rw [← Nat.add_assoc, e3, ← hz2]
          exact hz1
    · simp only [rf, h0, h2, ne_eq, not_true_eq_false, if_false, not_false_eq_true, if_true] at h
  · simp only [rf, h0, ne_eq, not_false_eq_true, if_true] at h

set_option maxRecDepth 100000 in
theorem decF_back : ∀ (fuel : Nat) (l : List Fld) (k : Int) (zs : List Int), (∀ c ∈ zs, 0 ≤ c ∧ c ≤ 255) → zs.length ≤ fuel → l.length ≤ 64 → (decF fuel l k zs).2.2 = 0 →
    ∃ fs, (decF fuel l k zs).1 = l ++ fs ∧ okF l fs = true ∧ layAll fs = zs ∧ (l ++ fs).length ≤ 64
  | 0, l, k, zs, _, hl, h64, _ => by
    have : zs = [] := List.eq_nil_of_length_eq_zero (by omega)
    subst this
    exact ⟨[], by simp [decF], rfl, rfl, by simpa using h64⟩
  | fuel + 1, l, k, zs, hz, hl, h64, h => by
    by_cases hnil : zs = []
    · subst hnil
      exact ⟨[], by simp [decF], rfl, rfl, by simpa using h64⟩
    rw [decF, if_neg hnil] at h ⊢
    by_cases h1 : (rf zs).2.2 = 0
    · rw [if_neg (by simp [h1])] at h ⊢
      by_cases h2 : nextE l (rf zs).1 = 0
      · rw [if_neg (by simp [h2])] at h ⊢
        obtain ⟨hmx, hsz, hzs⟩ := rf_back zs hz h1
        have hlt := nextE_len h2 h64
        have hmay : fmay l (rf zs).1 = true := by
          unfold nextE at h2
          split at h2
          · assumption
          · cases h2
        have hpos : 1 ≤ (lay (rf zs).1).length := List.length_pos_iff.2 (lay_ne _)
        rw [hsz, Int.toNat_natCast] at h ⊢
        obtain ⟨fs, e1, e2, e3, e4⟩ := decF_back fuel (l ++ [(rf zs).1]) _ (zs.drop (lay (rf zs).1).length) (fun c hc => hz c (List.mem_of_mem_drop hc)) (by simp; omega) (by simp; omega) h
        refine ⟨(rf zs).1 :: fs, by rw [e1]; simp, by simp [okF, hmay, hmx, e2], ?_, by simpa using e4⟩
        have e : layAll ((rf zs).1 :: fs) = lay (rf zs).1 ++ layAll fs := by simp [layAll]
        rw [e, e3]; exact hzs.symm
      · rw [if_pos h2] at h
        exact absurd h h2
    · rw [if_pos h1] at h
      exact absurd h h1

set_option maxRecDepth 100000 in
theorem decF_len : ∀ (fuel : Nat) (l : List Fld) (k : Int) (zs : List Int), l.length ≤ 64 → (decF fuel l k zs).1.length ≤ 64
  | 0, l, k, zs, h => by simpa [decF] using h
  | fuel + 1, l, k, zs, h => by
    rw [decF]
    split
    · exact h
    · split
      · simp
      · split
        · simp
        · rename_i h2
          have := nextE_len (by simpa using h2) h
          exact decF_len fuel _ _ _ (by simp; omega)
set_option maxRecDepth 100000 in
theorem decM_len (zs : List Int) : (decM zs).1.length ≤ 64 := by
  unfold decM
  split
  · simp
  · exact decF_len _ _ _ _ (by simp)
set_option maxRecDepth 100000 in
theorem encM_dec (zs : List Int) (hz : ∀ c ∈ zs, 0 ≤ c ∧ c ≤ 255) (h : (decM zs).2.2 = 0) : encM (decM zs).1 = (zs, 0) := by
  unfold decM at h ⊢
  split at h
  · cases h
  · rename_i hb
    rw [if_neg hb]
    obtain ⟨fs, e1, e2, e3, e4⟩ := decF_back zs.length [] 0 zs hz (Nat.le_refl _) (by simp) h
    rw [e1, List.nil_append]
    have hbl := blen_lay fs [] e2
    rw [List.nil_append] at e4
    have ht : tooB fs = false := by simp only [tooB, Bool.or_eq_false_iff, decide_eq_false_iff_not]; rw [e3] at hbl; omega
    unfold encM
    rw [ht, if_neg (by simp), if_pos e2, e3, if_neg hb]
end Go.Proofs.YtepohbcpepkboaaGreat

