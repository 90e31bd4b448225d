/- What the document's Cut answers: all frames of bytes, where the next one begins, why there is none. Conditions: the slice shows at most 1,000,000 bytes; the limit is one. -/
import Derived.Test.YtkcnpdcgonengaaRefC
import Derived.Test.YtkcnpdcgonengaaCut
import Derived.Test.YtkcnpdcgonengaaPureG
import Derived.Test.YtkcnpdcgonengaaBRow
namespace Go.Proofs.Ytkcnpdcgonengaa
open Go.RowKit

set_option maxRecDepth 100000 in
/-- Where a cut lies: in the array's own block. -/
theorem cutA_block {a : Option Addr} {cap i : Nat} {x : Addr} (h : cutA a cap i = some x) : ∃ y, a = some y ∧ x.block = y.block := by
  unfold cutA at h
  split at h
  · exact ⟨x, h, rfl⟩
  · cases a with
    | none => simp at h
    | some y =>
      simp at h
      refine ⟨y, rfl, ?_⟩
      rw [← h]
      unfold Addr.add
      split <;> rfl

set_option maxHeartbeats 3200000 in
set_option maxRecDepth 100000 in
theorem rcut_any (a : Option Addr) (zs : List Int) (cap : Nat) (L : Int) (w : World) (hr : Row w a zs) (hlc : zs.length ≤ cap) (hlen : zs.length ≤ 1000000) (hL0 : 0 ≤ L) (hL1 : L ≤ 4096) :
    Calls Try.prog 25 #[.slice a zs.length cap, .int .i64 L] w fun e w' => ∃ v ps, e = .returned (.tuple #[v, .int .i64 ((cut L zs).2.1 : Nat), .int .i64 (cut L zs).2.2]) ∧ BOwn w' w.heap.size v ps ∧ ps.map (·.1) = (cut L zs).1 ∧ Below w.heap.size w w' := by
  obtain ⟨i0, hi, hz0, hz1, hz2⟩ := info_parts infoB
  go_enter Try.func25, Try.ntmps25
  go_wp2
  go_loopw [7, 8] (fun v sk wr => ∃ (k f : Nat) (ps : List (List Int × Option Addr × Nat)), k ≤ zs.length ∧ sk = .int .i64 k ∧ BOwn wr w.heap.size v ps ∧ ps.length ≤ k ∧
      Hid (cut L zs = (ps.map (·.1) ++ (cutF f L (zs.drop k)).1, k + (cutF f L (zs.drop k)).2.1, (cutF f L (zs.drop k)).2.2) ∧ (zs.drop k).length ≤ f) ∧ Below w.heap.size w wr)
    (fun _ sk _ => zs.length - (intOf sk).toNat)
  case atStart => exact ⟨0, zs.length, [], Nat.zero_le _, rfl, BOwn.nil _ _, Nat.le_refl _, ⟨by simp [cut], by simp⟩, Below.refl _ _⟩
  case round =>
    obtain ⟨k, f, ps, hk, rfl, hbo, hpk, hid, hb⟩ := hrel
    obtain ⟨va, vc, hv, -⟩ := hbo.view
    subst hv
    by_cases hlt : k < zs.length
    · have hdne : zs.drop k ≠ [] := by intro e; have := congrArg List.length e; simp at this; omega
      obtain ⟨g, rfl⟩ : ∃ g, f = g + 1 := by
        cases f with
        | zero => have := hid.out.2; simp at this; omega
        | succ g => exact ⟨g, rfl⟩
      have hbz : Byt (zs.drop k) := Byt.drop hr.byte k
      have hsl := run_cut_l a zs.length cap k (k : Int) rfl hk
      have CR : Hid (∀ W, Row W a zs → Calls Try.prog 72 #[.slice (cutA a cap k) (zs.length - k) (cap - k)] W fun e w' => e = .returned (.tuple #[.int .u64 (rd (zs.drop k)).1, .int .i64 (rd (zs.drop k)).2.1, .int .i64 (rd (zs.drop k)).2.2]) ∧ Below W.heap.size W w') := fun W h => by
        have h1 := cutA_row (cap := cap) k (zs.length - k) hlc W h
        have htk : (zs.drop k).take (zs.length - k) = zs.drop k := List.take_of_length_le (by simp)
        rw [htk] at h1
        have := rread_any (cutA a cap k) (zs.drop k) (cap - k) W h1 (by simp; omega) (by simp; omega)
        rw [List.length_drop] at this; exact this
      have hrw := hr.below hb
      rcases frst_ways L (zs.drop k) with ⟨h0, e⟩ | ⟨h0, h1, e⟩ | ⟨h0, h1, h2, e⟩ | ⟨h0, h1, h2, e⟩
      · have hv : Hid (cut L zs = (ps.map (·.1), k, (rd (zs.drop k)).2.2)) := by
          show cut L zs = _
          rw [hid.out.1, cutF_no _ _ _ hdne (by rw [e]; exact h0), e]; simp
        have hne : ((rd (zs.drop k)).2.2 != 0) = true := by simpa using h0
        clear h0 e hid hdne hbz
        generalize rd (zs.drop k) = q at *
        obtain ⟨m, s, e⟩ := q
        simp only at hne hv
        go_wp2_with fail
        refine (CR.out _ hrw).mono ?_
        rintro e w1 ⟨rfl, hb1⟩
        go_wp2
        go_ret3
        exact ⟨_, ps, by rw [hv.out]; rfl, hbo.below hb1, by rw [hv.out], hb.trans (hb1.mono hb.size)⟩
      · obtain ⟨a1, a2, a3, a4, -⟩ := rd_size _ hbz h0
        have hv : Hid (cut L zs = (ps.map (·.1), k, 3)) := by
          show cut L zs = _
          rw [hid.out.1, cutF_no _ _ _ hdne (by rw [e]; decide), e]; simp
        clear e hid hdne hbz
        generalize rd (zs.drop k) = q at *
        obtain ⟨m, s, e⟩ := q
        simp only at h0 h1 a1 a2 a3 a4
        subst h0
        go_wp2_with fail
        refine (CR.out _ hrw).mono ?_
        rintro e w1 ⟨rfl, hb1⟩
        go_wp2
        go_ret3
        exact ⟨_, ps, by rw [hv.out]; rfl, hbo.below hb1, by rw [hv.out], hb.trans (hb1.mono hb.size)⟩
      · obtain ⟨a1, a2, a3, a4, -⟩ := rd_size _ hbz h0
        have hv : Hid (cut L zs = (ps.map (·.1), k, 5)) := by
          show cut L zs = _
          rw [hid.out.1, cutF_no _ _ _ hdne (by rw [e]; decide), e]; simp
        rw [List.length_drop] at h2 a2
        clear e hid hdne hbz
        generalize rd (zs.drop k) = q at *
        obtain ⟨m, s, e⟩ := q
        simp only at h0 h1 h2 a1 a2 a3 a4
        subst h0
        have h2' : (zs.length : Int) < (k : Int) + s + m := by omega
        have h3 : (k : Int) + s ≤ 1000000 := by omega
        go_wp2_with fail
        refine (CR.out _ hrw).mono ?_
        rintro e w1 ⟨rfl, hb1⟩
        clear h2 a2
        go_wp2
        go_ret3
        exact ⟨_, ps, by rw [hv.out]; rfl, hbo.below hb1, by rw [hv.out], hb.trans (hb1.mono hb.size)⟩
      · obtain ⟨a1, a2, a3, a4, -⟩ := rd_size _ hbz h0
        have h00 : (frst L (zs.drop k)).2.2 = 0 := by rw [e]
        obtain ⟨m, hm⟩ := Int.eq_ofNat_of_zero_le a3
        obtain ⟨s, hs⟩ := Int.eq_ofNat_of_zero_le (show 0 ≤ (rd (zs.drop k)).2.1 by omega)
        rw [hm] at a4 h1 h2
        rw [hs] at a1 a2 h2
        rw [List.length_drop] at h2 a2
        have hq : rd (zs.drop k) = ((m : Int), (s : Int), 0) := by rw [← hm, ← hs, ← h0]
        have hsm : ((s : Int) + (m : Int)).toNat = s + m := by omega
        have hv : Hid (cut L zs = ((ps.map (·.1) ++ [((zs.drop k).drop s).take m]) ++ (cutF g L (zs.drop (k + s + m))).1, (k + s + m) + (cutF g L (zs.drop (k + s + m))).2.1, (cutF g L (zs.drop (k + s + m))).2.2) ∧ (zs.drop (k + s + m)).length ≤ g) := by
          have hd := drop_lt L _ hbz h00 g hid.out.2
          refine ⟨?_, ?_⟩
          · rw [hid.out.1, cutF_yes _ _ _ hdne h00, e, hq]
            simp only [Int.toNat_natCast, hsm, List.drop_drop, List.append_assoc, List.singleton_append, Nat.add_assoc]
          · rw [e, hq] at hd
            simp only [hsm, List.drop_drop] at hd
            rw [Nat.add_assoc]; exact hd
        have hend : k + s + m ≤ zs.length := by omega
        have hsl2 := run_cut_lh a zs.length cap (k + s) (k + s + m) ((k : Int) + s) ((k : Int) + s + m) (by omega) (by omega) (by omega) (by omega)
        have hd1 : k + s + m - (k + s) = m := by omega
        rw [hd1] at hsl2
        have hlm : (((zs.drop k).drop s).take m).length = m := by simp; omega
        have hrowc : ∀ W, Row W a zs → Row W (cutA a cap (k + s)) (((zs.drop k).drop s).take m) := fun W h => by
          rw [List.drop_drop]; exact cutA_row (cap := cap) (k + s) m hlc W h
        have HLM : Hid ((((zs.drop k).drop s).take m).length = m) := hlm
        rw [hq] at CR
        have hap : ∀ W, ((zs.drop k).drop s).take m ≠ [] → Row W a zs → ∀ x, cutA a cap (k + s) = some x → x.block < W.heap.size := fun W hne h x hx => by
          obtain ⟨y, rfl, hy⟩ := cutA_block hx
          have hz : zs ≠ [] := by intro e; rw [e] at hne; simp at hne
          obtain ⟨b, off, hyb, -⟩ := h.2 hz
          obtain rfl := Option.some.inj hyb
          rw [hy]; exact Row.lt h hz
        clear hd1 hlm hq hm hs a3 h0 h00 e hid hdne hbz a4
        have h2' : (k : Int) + s + m ≤ (zs.length : Int) := by omega
        have hmb : (m : Int) ≤ 4096 := by omega
        go_wp2_with fail
        refine (CR.out _ hrw).mono ?_
        rintro e w1 ⟨rfl, hb1⟩
        have hb2 := hb.trans (hb1.mono hb.size)
        have hbA : Below w1.heap.size w1 (w1.alloc (.cells #[.slice (cutA a cap (k + s)) m (cap - (k + s))] 29)) := (Below.refl _ _).alloc (Nat.le_refl _) _
        have hbo1 := (hbo.below hb1).below hbA
        have hsz := hb2.size
        clear h2 a2 hrw hb1 hbo
        go_wp2_with (at_builtin; go_must (refine wpList_append_own_at _ rfl (.tmp 48) (.tmp 55) 32 rfl w.heap.size 29 i0 _ 1 24 Try.underlying32 hi hz0 hz1 hz2 rfl (by decide) _ _ _ rfl hbo1.own ⟨w1.heap.size, 0, none⟩ 1 1 [.slice (cutA a cap (k + s)) m (cap - (k + s))] rfl rfl (cell_one_new _ _ _) (by simp [Value.oneCell']) (by unfold maxLen; omega) (by omega) (by simp; omega) ?_; intro v6 w6 hown6 hgrow6 _ hat6))
        have hw6 : (w1.alloc (.cells #[.slice (cutA a cap (k + s)) m (cap - (k + s))] 29)).heap.size = w1.heap.size + 1 := by simp
        have hbo6 := hbo1.append (p := (((zs.drop k).drop s).take m, cutA a cap (k + s), cap - (k + s))) (by simp only [bc]; rw [HLM.out]; exact hown6) hgrow6 hat6 (hrowc _ ((hr.below hb2).below hbA)) (fun hne x hx e => by
          have h1 := (hbo1.own.lt x.block e.symm).1
          have h2 := hap w hne hr x hx
          omega)
        have hB6 : Below w.heap.size w w6 := (hb2.trans (hbA.mono hsz)).grown hgrow6 (by rw [hw6]; omega) (fun q hq => (hbo1.own.lt q hq).1)
        go_roundw
        case rel => exact ⟨k + s + m, g, ps ++ [(((zs.drop k).drop s).take m, cutA a cap (k + s), cap - (k + s))], hend, by go_num, hbo6, by simp; omega, by rw [List.map_append]; exact hv, hB6⟩
        case measure => simp [intOf]; omega
    · have hke : zs.drop k = [] := List.drop_eq_nil_of_le (by omega)
      have hkl : k = zs.length := by omega
      have hv : Hid (cut L zs = (ps.map (·.1), k, 0)) := by
        show cut L zs = _
        rw [hid.out.1, hke, cutF_nil]; simp
      clear hid hke hkl
      go_wp2
      go_ret3
      exact ⟨_, ps, by rw [hv.out]; rfl, hbo, by rw [hv.out], hb⟩
end Go.Proofs.Ytkcnpdcgonengaa
