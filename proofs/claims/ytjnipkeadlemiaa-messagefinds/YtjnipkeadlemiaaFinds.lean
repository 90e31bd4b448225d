/- Of any fields, any tag and any tags the law MessageFinds answers true, and leaves its arguments: those of the tag are found; whether there are other ones is told. No conditions. -/
import Derived.Test.YtjnipkeadlemiaaPureF
import Derived.Test.YtjnipkeadlemiaaFrameI
import Derived.Test.YtjnipkeadlemiaaFrameF
import Derived.Test.YtjnipkeadlemiaaAwake2
import Derived.Test.YtjnipkeadlemiaaGreat
import Derived.Deep.RegionHeld
import Derived.BigRegion
namespace Go.Proofs.Ytjnipkeadlemiaa
open Go.ChangeShapes Go.WideShapes Go.ChangeAt Go.RowKit

set_option maxRecDepth 100000 in
theorem contains_snoc (xs : List Int) (y t : Int) : (xs ++ [y]).contains t = (xs.contains t || (y == t)) := by
  have h : (y == t) = (t == y) := by rw [Bool.eq_iff_iff]; simp only [beq_iff_eq]; exact ⟨Eq.symm, Eq.symm⟩
  rw [h, List.contains_eq_any_beq, List.any_append, ← List.contains_eq_any_beq]
  simp

set_option maxHeartbeats 12800000 in
set_option maxRecDepth 100000 in
theorem finds_walk (a : Option Addr) (fs : List Fld) (cap : Nat) (tag : Int) (bo : Option Addr) (ts : List Int) (tc : Nat) (w : World) (h : FieldsIn w a fs.length cap fs) (_ht : -9223372036854775808 ≤ tag ∧ tag ≤ 9223372036854775807) (hts : IntsIn w bo ts.length tc ts) :
    Calls Try.prog 3 #[.slice a fs.length cap, .int .i64 tag, .slice bo ts.length tc] w fun e w' => e = .returned (.bool true) ∧ Below w.heap.size w w' := by
  have hr := h.hrow
  have hi := hts.hrow
  have hm1 := h.hcap
  have hm2 := h.hmax
  unfold maxLen at hm2
  have CG : Hid (∀ W, FRow W a fs → Calls Try.prog 9 #[.slice a fs.length cap] W fun e w' => e = .returned (.bool (greatB fs)) ∧ W = w') := fun W hW => great_any a fs cap W hW (by omega)
  clear h hts _ht
  cases hg1 : greatB fs with
  | true =>
    rw [hg1] at CG
    clear hg1
    go_enter Try.func3, Try.ntmps3
    go_wp2_with fail
    refine (CG.out _ hr).mono ?_
    rintro e w1 ⟨rfl, rfl⟩
    go_wp2_with (go_at_call 10; refine (awake2_any _).mono ?_; rintro e w4 ⟨rfl, hb4⟩)
    go_ret
    exact ⟨rfl, hb4⟩
  | false =>
  obtain ⟨hl1, hs1⟩ := greatB_no hg1
  rw [hg1] at CG
  clear hg1
  by_cases h50 : 50 < ts.length
  · go_enter Try.func3, Try.ntmps3
    go_wp2_with fail
    refine (CG.out _ hr).mono ?_
    rintro e w1 ⟨rfl, rfl⟩
    go_wp2_with (go_at_call 10; refine (awake2_any _).mono ?_; rintro e w4 ⟨rfl, hb4⟩)
    go_ret
    exact ⟨rfl, hb4⟩
  have h50' : ts.length ≤ 50 := by omega
  have CN : Hid (∀ W, FRow W a fs → Calls Try.prog 11 #[.slice a fs.length cap, .int .i64 tag] W fun e w' => e = .returned (.tuple #[.int .u64 (numN (fitB tag false) fs), .bool (fs.any (fitB tag false))]) ∧ Below W.heap.size W w') := fun W hW => number_any a fs cap tag W hW (by omega)
  have CB : Hid (∀ W, FRow W a fs → Calls Try.prog 12 #[.slice a fs.length cap, .int .i64 tag] W fun e w' => ∃ a c, e = .returned (.tuple #[.slice a (bytB (fitB tag true) fs).length c, .bool (fs.any (fitB tag true))]) ∧ Row w' a (bytB (fitB tag true) fs) ∧ Below W.heap.size W w') := fun W hW => bytes_any a fs cap tag W hW (by omega) hs1
  have CM : Hid (∀ W, FRow W a fs → Calls Try.prog 13 #[.slice a fs.length cap, .int .i64 tag] W fun e w' => ∃ a c, e = .returned (.slice a (manyB tag fs).length c) ∧ BRow w' a (manyB tag fs) ∧ Below W.heap.size W w') := fun W hW => many_any a fs cap tag W hW hl1 hs1
  have CO : Hid (∀ W, FRow W a fs → IRow W bo ts → Calls Try.prog 14 #[.slice a fs.length cap, .slice bo ts.length tc] W fun e w' => e = .returned (.bool (!fs.any (noneOf ts))) ∧ Below W.heap.size W w') := fun W h1 h2 => only_any a fs cap bo ts tc W h1 h2 (by omega) (by omega)
  have hml : ∀ i, (manyB tag (fs.take i)).length ≤ fs.length := fun i => by
    simp only [manyB, List.length_map]
    exact Nat.le_trans (List.length_filter_le _ _) (by simp; omega)
  have HOK : Hid (fs.any (fitB tag false) = decide (0 ≤ idxF (fitB tag false) fs)) := (idxF_any _ _).symm
  have HON : Hid (fs.any (fitB tag false) = true → ∃ (K : Nat) (hK : K < fs.length), idxF (fitB tag false) fs = K ∧ numN (fitB tag false) fs = fs[K].n) := fun hany => by
    have hlt := any_lt hany
    exact ⟨_, hlt, by rw [idxF, if_pos hany], by simp [numN, List.getElem?_eq_getElem hlt]⟩
  have HON0 : Hid (fs.any (fitB tag false) = false → numN (fitB tag false) fs = 0) := fun hany => by simp [numN, none_ge hany]
  have HIS : Hid (fs.any (fitB tag true) = decide (0 < (manyB tag fs).length)) := manyB_any tag fs
  have HI0 : Hid (fs.any (fitB tag true) = true → (manyB tag fs)[0]? = some (bytB (fitB tag true) fs)) := manyB_first tag fs
  clear hs1
  go_enter Try.func3, Try.ntmps3
  go_wp2_with fail
  refine (CG.out _ hr).mono ?_
  rintro e w1 ⟨rfl, rfl⟩
  go_wp2_with fail
  refine (awake2_any _).mono ?_
  rintro e w0 ⟨rfl, hb0⟩
  have hr0 := hr.below hb0
  have hi0 := hi.below hb0
  clear hr hi CG
  go_wp2_with fail
  refine (CN.out _ hr0).mono ?_
  rintro e w1 ⟨rfl, hb1⟩
  have hr1 := hr0.below hb1
  have hi1 := hi0.below hb1
  have hB1 := hb0.trans (hb1.mono hb0.size)
  clear CN hr0 hi0 hb0 hb1
  go_wp2_with fail
  refine (CB.out _ hr1).mono ?_
  rintro e w2 ⟨a2, c2, rfl, hrow2, hb2⟩
  have hr2 := hr1.below hb2
  have hi2 := hi1.below hb2
  have hB2 := hB1.trans (hb2.mono hB1.size)
  clear CB hr1 hi1 hB1 hb2
  go_wp2_with fail
  refine (CM.out _ hr2).mono ?_
  rintro e w3 ⟨a3, c3, rfl, hbr3, hb3⟩
  have hr3 := hr2.below hb3
  have hi3 := hi2.below hb3
  have hrow3 := hrow2.below hb3
  have hB3 := hB2.trans (hb3.mono hB2.size)
  clear CM hr2 hi2 hB2 hb3 hrow2
  generalize numN (fitB tag false) fs = N0 at *
  generalize bytB (fitB tag true) fs = Bb at *
  generalize hOK : fs.any (fitB tag false) = OK at *
  generalize hIS : fs.any (fitB tag true) = IS at *
  clear hOK hIS
  go_wp2_with fail
  go_loopw [12, 13, 14, 15] (fun s12 s13 s14 si wr => ∃ i : Nat, i ≤ fs.length ∧ si = .int .i64 i ∧ s12 = .int .i64 (idxF (fitB tag false) (fs.take i)) ∧ s13 = .int .i64 ((manyB tag (fs.take i)).length : Nat) ∧ s14 = .bool (!(fs.take i).any (noneOf ts)) ∧ Below w3.heap.size w3 wr) (fun _ _ _ si _ => fs.length - (intOf si).toNat)
  case atStart => exact ⟨0, by omega, rfl, rfl, rfl, rfl, Below.refl _ _⟩
  case round =>
    obtain ⟨i, hi, rfl, rfl, rfl, rfl, hb⟩ := hrel
    by_cases hlt : i < fs.length
    · have hz : fs ≠ [] := by intro h; rw [h] at hlt; simp at hlt
      obtain ⟨b0, off, rfl, hc⟩ := hr3.2 hz
      obtain ⟨fa, fc, c0, c1, c2', c3', hsh⟩ := hc i hlt
      have hlt0 : b0 < w3.heap.size := World.block_lt_of_cell? w3 ⟨b0, off + i * 4, none⟩ c0
      have htl : (fs.take i).length = i := by simp; omega
      have HX : Hid (idxF (fitB tag false) (fs.take (i + 1)) = if 0 ≤ idxF (fitB tag false) (fs.take i) then idxF (fitB tag false) (fs.take i) else if fitB tag false fs[i] then (i : Int) else -1) := by
        show idxF _ _ = _
        rw [List.take_succ_eq_append_getElem hlt, idxF_snoc, htl]
      have HM : Hid ((manyB tag (fs.take (i + 1))).length = (manyB tag (fs.take i)).length + (if fitB tag true fs[i] then 1 else 0)) := by
        show List.length _ = _
        rw [List.take_succ_eq_append_getElem hlt, manyB_snoc, List.length_append]
        split <;> simp
      have HA : Hid ((!(fs.take (i + 1)).any (noneOf ts)) = ((!(fs.take i).any (noneOf ts)) && ts.contains fs[i].tag)) := by
        show (!_) = _
        rw [List.take_succ_eq_append_getElem hlt, List.any_append]
        simp [noneOf]
      have HT : Hid (fitB tag true fs[i] = true → (manyB tag fs)[(manyB tag (fs.take i)).length]? = some fs[i].b) := manyB_at tag fs i hlt
      have hml0 := hml i
      have hml1 := hml (i + 1)
      clear hc htl
      generalize fs[i] = f at *
      generalize (manyB tag (fs.take i)).length = km at *
      have hixc : 0 ≤ idxF (fitB tag false) (fs.take i) ∨ idxF (fitB tag false) (fs.take i) = -1 := by unfold idxF; split <;> omega
      generalize idxF (fitB tag false) (fs.take i) = ix at *
      generalize (!(fs.take i).any (noneOf ts)) = oi at *
      obtain ⟨t, isB, n, b⟩ := f
      simp only at c0 c1 c2' c3' hsh
      dsimp only at HA HT
      go_wp2_with fail
      go_loopw [16, 17] (fun s16 sj wr2 => ∃ j : Nat, j ≤ ts.length ∧ sj = .int .i64 j ∧ s16 = .bool ((ts.take j).contains t) ∧ Below w3.heap.size w3 wr2) (fun _ sj _ => ts.length - (intOf sj).toNat)
      case atStart => exact ⟨0, by omega, rfl, rfl, hb⟩
      case round =>
        obtain ⟨j, hj, rfl, rfl, hb2⟩ := hrel
        have d0 := (hb2.cell (p := ⟨b0, off + i * 4, none⟩) hlt0).trans c0
        by_cases hjl : j < ts.length
        · have hzt : ts ≠ [] := by intro h; rw [h] at hjl; simp at hjl
          obtain ⟨tb, toff, rfl, htc⟩ := hi3 hzt
          have x0 := (hb2.cell (p := ⟨tb, toff + j, none⟩) (World.block_lt_of_cell? w3 ⟨tb, toff + j, none⟩ (htc j hjl))).trans (htc j hjl)
          have HCT : Hid ((ts.take (j + 1)).contains t = ((ts.take j).contains t || (ts[j] == t))) := by
            show List.contains _ _ = _
            rw [List.take_succ_eq_append_getElem hjl, contains_snoc]
          generalize (ts.take j).contains t = ci at *
          generalize ts[j] = tj at *
          cases ci
          · go_upto_region 15 with fail
            go_region_held (fun w' => w'.cell? ⟨tb, toff + j, none⟩ = some (.int .i64 tj) ∧ w'.cell? ⟨b0, off + i * 4, none⟩ = some (.int .i64 t)) (go_keep) (fail)
            go_wp2
            go_roundw
            case rel => exact ⟨j + 1, by omega, by go_num, by rw [HCT.out]; simp, hb2.drew⟩
            case measure => simp [intOf]; omega
          · go_upto_region 15 with fail
            go_region
            go_wp2
            go_roundw
            case rel => exact ⟨j + 1, by omega, by go_num, by rw [HCT.out]; simp, hb2.drew⟩
            case measure => simp [intOf]; omega
        · have hjt : ts.take j = ts := List.take_of_length_le (by omega)
          rw [hjt]
          clear hjt
          have d1 := (hb2.cell (p := ⟨b0, off + i * 4 + 1, none⟩) hlt0).trans c1
          have d3 := (hb2.cell (p := ⟨b0, off + i * 4 + 3, none⟩) hlt0).trans c3'
          have hrowf := hsh.1.below hb2
          generalize ts.contains t = ct at *
          have HF1 : Hid (fitB tag false ⟨t, isB, n, b⟩ = ((t == tag) && (isB == false))) := rfl
          have HF2 : Hid (fitB tag true ⟨t, isB, n, b⟩ = ((t == tag) && (isB == true))) := rfl
          cases oi
          all_goals
            by_cases ht : t = tag
            · subst ht
              cases isB
              · by_cases hix : 0 ≤ ix
                · have hx1 : Hid (idxF (fitB t false) (fs.take (i + 1)) = ix) := by show idxF _ _ = _; rw [HX.out, if_pos hix]
                  have hk1 : Hid ((manyB t (fs.take (i + 1))).length = km) := by show List.length _ = _; rw [HM.out, HF2.out]; simp
                  clear HX HM HT HF1 HF2
                  go_wp2
                  go_roundw
                  case rel => exact ⟨i + 1, by omega, by go_num, by rw [hx1.out], by rw [hk1.out], congrArg Value.bool HA.out.symm, hb2⟩
                  case measure => simp [intOf]; omega
                · have hx1 : Hid (idxF (fitB t false) (fs.take (i + 1)) = i) := by show idxF _ _ = _; rw [HX.out, if_neg hix, HF1.out]; simp
                  have hk1 : Hid ((manyB t (fs.take (i + 1))).length = km) := by show List.length _ = _; rw [HM.out, HF2.out]; simp
                  have hix' : ix < 0 := by omega
                  clear HX HM HT HF1 HF2
                  go_wp2
                  go_roundw
                  case rel => exact ⟨i + 1, by omega, by go_num, by rw [hx1.out], by rw [hk1.out], congrArg Value.bool HA.out.symm, hb2⟩
                  case measure => simp [intOf]; omega
              · have hx1 : Hid (idxF (fitB t false) (fs.take (i + 1)) = ix) := by
                  show idxF _ _ = _
                  rw [HX.out, HF1.out]
                  rcases hixc with h | h
                  · rw [if_pos h]
                  · rw [if_neg (by omega), h]; simp
                have hk1 : Hid ((manyB t (fs.take (i + 1))).length = km + 1) := by show List.length _ = _; rw [HM.out, HF2.out]; simp
                have hMB := HT.out (by rw [HF2.out]; simp)
                obtain ⟨hkm, hbe⟩ := List.getElem?_eq_some_iff.1 hMB
                have hne : manyB t fs ≠ [] := by intro h; rw [h] at hkm; simp at hkm
                obtain ⟨mb, rfl, hmc⟩ := hbr3 hne
                obtain ⟨x, xc, hx, hxr⟩ := hmc km hkm
                rw [hbe] at hx hxr
                have hxb : mb < w3.heap.size := World.block_lt_of_cell? w3 ⟨mb, km, none⟩ hx
                have hx2 := (hb2.cell (p := ⟨mb, km, none⟩) hxb).trans hx
                have u1 := (hxr.below hb2).drew.text b.length xc rfl
                have u2 := hrowf.drew.text b.length fc rfl
                have hkm' : (km : Int) < ((manyB t fs).length : Int) := by omega
                have hkb : (km : Int) ≤ 80 := by omega
                have hkb0 : (0 : Int) ≤ (km : Int) := by omega
                clear HX HM HT HF1 HF2 hMB hmc hx hxr hbe hne hbr3 hixc hml hml0 hml1 hkm
                have hgd : decide ((manyB t fs).length ≤ km) = false := by rw [decide_eq_false_iff_not]; omega
                go_upto_region 19 with fail
                go_region_held (fun w' => w'.cell? ⟨mb, km, none⟩ = some (.slice x b.length xc) ∧ w'.cell? ⟨b0, off + i * 4 + 3, none⟩ = some (.slice fa b.length fc)) (first | go_keep | fail) (fail)
                all_goals
                  go_wp2
                  go_roundw
                  case rel => exact ⟨i + 1, by omega, by go_num, by rw [hx1.out], by rw [hk1.out]; simp, congrArg Value.bool HA.out.symm, hb2.drew⟩
                  case measure => simp [intOf]; omega
            · have ht' : (t == tag) = false := by simpa using ht
              have hne' : (t != tag) = true := by simpa using ht
              have hk1 : Hid ((manyB tag (fs.take (i + 1))).length = km) := by show List.length _ = _; rw [HM.out, HF2.out, ht']; simp
              have hx1 : Hid (idxF (fitB tag false) (fs.take (i + 1)) = ix) := by
                show idxF _ _ = _
                rw [HX.out, HF1.out, ht']
                rcases hixc with h | h
                · rw [if_pos h]
                · rw [if_neg (by omega), h]; rfl
              clear HX HM HT HF1 HF2 hixc ht
              go_wp2
              go_roundw
              case rel => exact ⟨i + 1, by omega, by go_num, by rw [hx1.out], by rw [hk1.out], congrArg Value.bool HA.out.symm, hb2⟩
              case measure => simp [intOf]; omega
    · have hil : fs.take i = fs := List.take_of_length_le (by omega)
      rw [hil]
      clear hil hml
      have hrW := hr3.below hb
      have hiW := hi3.below hb
      have hrowW := hrow3.below hb
      have hBW : Below w.heap.size w wr := hB3.trans (hb.mono hB3.size)
      generalize (!fs.any (noneOf ts)) = ON at *
      have hokc : (OK = true ∧ ∃ (K : Nat) (hK : K < fs.length), idxF (fitB tag false) fs = K ∧ N0 = fs[K].n) ∨ (OK = false ∧ idxF (fitB tag false) fs < 0 ∧ N0 = 0) := by
        cases hO : OK with
        | true => exact Or.inl ⟨rfl, HON.out hO⟩
        | false =>
          have h1 := HOK.out
          rw [hO] at h1
          have h2 : ¬ 0 ≤ idxF (fitB tag false) fs := by intro h; rw [decide_eq_true h] at h1; cases h1
          exact Or.inr ⟨rfl, by omega, HON0.out hO⟩
      clear HOK HON HON0
      rcases hokc with ⟨rfl, K, hK, hix, hn⟩ | ⟨rfl, hix, rfl⟩
      · have hz : fs ≠ [] := by intro h; rw [h] at hK; simp at hK
        obtain ⟨b0, off, rfl, hc⟩ := hrW.2 hz
        obtain ⟨fa, fc, -, -, e2, -, -⟩ := hc K hK
        have hlt0 : b0 < wr.heap.size := World.block_lt_of_cell? wr ⟨b0, off + K * 4 + 2, none⟩ e2
        rw [← hn] at e2
        rw [hix]
        clear hc hn hix
        have hisc := HIS.out
        cases IS
        · have hm0 : (manyB tag fs).length = 0 := by
            have := of_decide_eq_false hisc.symm
            omega
          rw [hm0]
          clear HI0 HIS hisc hm0 hbr3
          go_upto_region 26 with fail
          refine wp_region_held_drew (S := fun _ => True) (by kernel_rfl) trivial (fun _ => ?_)
          refine wpAnyH_take (i := 0) (v := ?_) rfl (by kernel_rfl) (by kernel_rfl) (by kernel_rfl) (fun _ _ _ h => h) (Or.inl ⟨by rfl, ?_⟩) trivial ?_
          rotate_left
          · intro w hSw
            go_simp
            try with_reducible rfl
          simp only [List.getElem_toArray, List.getElem_cons_zero, Act.put, List.setIfInBounds_toArray, List.set_cons_zero, List.set_cons_succ]
          refine wpAnyH_take (i := 1) (v := ?_) rfl (by kernel_rfl) (by kernel_rfl) (by kernel_rfl) (fun _ _ _ h => h) (Or.inl ⟨by rfl, ?_⟩) trivial ?_
          rotate_left
          · intro w hSw
            go_simp
            try with_reducible rfl
          simp only [List.getElem_toArray, List.getElem_cons_zero, List.getElem_cons_succ, Act.put, List.setIfInBounds_toArray, List.set_cons_zero, List.set_cons_succ]
          refine wpAnyH_take (i := 2) (v := ?_) rfl (by kernel_rfl) (by kernel_rfl) (by kernel_rfl) (fun _ _ _ h => h) (Or.inl ⟨by rfl, ?_⟩) trivial ?_
          rotate_left
          · intro w hSw
            go_simp
            try with_reducible rfl
          simp only [List.getElem_toArray, List.getElem_cons_zero, List.getElem_cons_succ, Act.put, List.setIfInBounds_toArray, List.set_cons_zero, List.set_cons_succ]
          refine wpAnyH_take (i := 3) (v := ?_) rfl (by kernel_rfl) (by kernel_rfl) (by kernel_rfl) (fun _ _ _ h => h) (Or.inl ⟨by rfl, ?_⟩) trivial ?_
          rotate_left
          · intro w hSw
            go_simp
            try with_reducible rfl
          simp only [List.getElem_toArray, List.getElem_cons_zero, List.getElem_cons_succ, Act.put, List.setIfInBounds_toArray, List.set_cons_zero, List.set_cons_succ]
          refine wpAnyH_take (i := 4) (v := ?_) rfl (by kernel_rfl) (by kernel_rfl) (by kernel_rfl) (fun _ _ _ h => h) (Or.inl ⟨by rfl, ?_⟩) trivial ?_
          rotate_left
          · intro w hSw
            go_simp
            try with_reducible rfl
          simp only [List.getElem_toArray, List.getElem_cons_zero, List.getElem_cons_succ, Act.put, List.setIfInBounds_toArray, List.set_cons_zero, List.set_cons_succ]
          refine wpAnyH_take (i := 5) (v := ?_) rfl (by kernel_rfl) (by kernel_rfl) (by kernel_rfl) (fun _ _ _ h => h) (Or.inl ⟨by rfl, ?_⟩) trivial ?_
          rotate_left
          · intro w hSw
            go_simp
            try with_reducible rfl
          simp only [List.getElem_toArray, List.getElem_cons_zero, List.getElem_cons_succ, Act.put, List.setIfInBounds_toArray, List.set_cons_zero, List.set_cons_succ]
          refine wpAnyH_take (i := 6) (v := ?_) rfl (by kernel_rfl) (by kernel_rfl) (by kernel_rfl) (fun _ _ _ h => h) (Or.inl ⟨by rfl, ?_⟩) trivial ?_
          rotate_left
          · intro w hSw
            go_simp
            try with_reducible rfl
          simp only [List.getElem_toArray, List.getElem_cons_zero, List.getElem_cons_succ, Act.put, List.setIfInBounds_toArray, List.set_cons_zero, List.set_cons_succ]
          refine wpAnyH_take (i := 7) (v := ?_) rfl (by kernel_rfl) (by kernel_rfl) (by kernel_rfl) (fun _ _ _ h => h) (Or.inl ⟨by rfl, ?_⟩) trivial ?_
          rotate_left
          · intro w hSw
            go_simp
            try with_reducible rfl
          simp only [List.getElem_toArray, List.getElem_cons_zero, List.getElem_cons_succ, Act.put, List.setIfInBounds_toArray, List.set_cons_zero, List.set_cons_succ]
          refine wpAnyH_take (i := 8) (v := undef) rfl (by kernel_rfl) (by kernel_rfl) (by kernel_rfl) (fun _ _ _ h => h) (Or.inr ⟨by rfl, rfl⟩) trivial ?_
          simp only [List.getElem_toArray, List.getElem_cons_zero, List.getElem_cons_succ, Act.put, List.setIfInBounds_toArray, List.set_cons_zero, List.set_cons_succ]
          refine wpAnyH_take (i := 9) (v := undef) rfl (by kernel_rfl) (by kernel_rfl) (by kernel_rfl) (fun _ _ _ h => h) (Or.inr ⟨by rfl, rfl⟩) trivial ?_
          simp only [List.getElem_toArray, List.getElem_cons_zero, List.getElem_cons_succ, Act.put, List.setIfInBounds_toArray, List.set_cons_zero, List.set_cons_succ]
          refine wpAnyH_take (i := 10) (v := undef) rfl (by kernel_rfl) (by kernel_rfl) (by kernel_rfl) (fun _ _ _ h => h) (Or.inr ⟨by rfl, rfl⟩) trivial ?_
          simp only [List.getElem_toArray, List.getElem_cons_zero, List.getElem_cons_succ, Act.put, List.setIfInBounds_toArray, List.set_cons_zero, List.set_cons_succ]
          refine wpAnyH_take (i := 11) (v := undef) rfl (by kernel_rfl) (by kernel_rfl) (by kernel_rfl) (fun _ _ _ h => h) (Or.inr ⟨by rfl, rfl⟩) trivial ?_
          simp only [List.getElem_toArray, List.getElem_cons_zero, List.getElem_cons_succ, Act.put, List.setIfInBounds_toArray, List.set_cons_zero, List.set_cons_succ]
          refine wpAnyH_take (i := 12) (v := undef) rfl (by kernel_rfl) (by kernel_rfl) (by kernel_rfl) (fun _ _ _ h => h) (Or.inr ⟨by rfl, rfl⟩) trivial ?_
          simp only [List.getElem_toArray, List.getElem_cons_zero, List.getElem_cons_succ, Act.put, List.setIfInBounds_toArray, List.set_cons_zero, List.set_cons_succ]
          refine wpAnyH_take (i := 13) (v := undef) rfl (by kernel_rfl) (by kernel_rfl) (by kernel_rfl) (fun _ _ _ h => h) (Or.inr ⟨by rfl, rfl⟩) trivial ?_
          simp only [List.getElem_toArray, List.getElem_cons_zero, List.getElem_cons_succ, Act.put, List.setIfInBounds_toArray, List.set_cons_zero, List.set_cons_succ]
          refine wpAnyH_take (i := 14) (v := undef) rfl (by kernel_rfl) (by kernel_rfl) (by kernel_rfl) (fun _ _ _ h => h) (Or.inr ⟨by rfl, rfl⟩) trivial ?_
          simp only [List.getElem_toArray, List.getElem_cons_zero, List.getElem_cons_succ, Act.put, List.setIfInBounds_toArray, List.set_cons_zero, List.set_cons_succ]
          refine wpAnyH_take (i := 15) (v := ?_) rfl (by kernel_rfl) (by kernel_rfl) (by kernel_rfl) (fun _ _ _ h => h) (Or.inl ⟨by rfl, ?_⟩) trivial ?_
          rotate_left
          · intro w hSw
            go_simp
            try with_reducible rfl
          simp only [List.getElem_toArray, List.getElem_cons_zero, List.getElem_cons_succ, Act.put, List.setIfInBounds_toArray, List.set_cons_zero, List.set_cons_succ]
          refine wpAnyH_take (i := 16) (v := ?_) rfl (by kernel_rfl) (by kernel_rfl) (by kernel_rfl) (fun _ _ _ h => h) (Or.inl ⟨by rfl, ?_⟩) trivial ?_
          rotate_left
          · intro w hSw
            go_simp
            try with_reducible rfl
          simp only [List.getElem_toArray, List.getElem_cons_zero, List.getElem_cons_succ, Act.put, List.setIfInBounds_toArray, List.set_cons_zero, List.set_cons_succ]
          refine wpAnyH_take (i := 17) (v := ?_) rfl (by kernel_rfl) (by kernel_rfl) (by kernel_rfl) (fun _ _ _ h => h) (Or.inl ⟨by rfl, ?_⟩) trivial ?_
          rotate_left
          · intro w hSw
            go_simp
            try with_reducible rfl
          simp only [List.getElem_toArray, List.getElem_cons_zero, List.getElem_cons_succ, Act.put, List.setIfInBounds_toArray, List.set_cons_zero, List.set_cons_succ]
          refine wpAnyH_take (i := 18) (v := ?_) rfl (by kernel_rfl) (by kernel_rfl) (by kernel_rfl) (fun _ _ _ h => h) (Or.inl ⟨by rfl, ?_⟩) trivial ?_
          rotate_left
          · intro w hSw
            go_simp
            try with_reducible rfl
          simp only [List.getElem_toArray, List.getElem_cons_zero, List.getElem_cons_succ, Act.put, List.setIfInBounds_toArray, List.set_cons_zero, List.set_cons_succ]
          refine wpAnyH_take (i := 19) (v := ?_) rfl (by kernel_rfl) (by kernel_rfl) (by kernel_rfl) (fun _ _ _ h => h) (Or.inl ⟨by rfl, ?_⟩) trivial ?_
          rotate_left
          · intro w hSw
            go_simp
            try with_reducible rfl
          simp only [List.getElem_toArray, List.getElem_cons_zero, List.getElem_cons_succ, Act.put, List.setIfInBounds_toArray, List.set_cons_zero, List.set_cons_succ]
          refine wpAnyH_take (i := 21) (v := ?_) rfl (by kernel_rfl) (by kernel_rfl) (by kernel_rfl) (fun _ _ _ h => h) (Or.inl ⟨by rfl, ?_⟩) trivial ?_
          rotate_left
          · intro w hSw
            go_simp
            try with_reducible rfl
          simp only [List.getElem_toArray, List.getElem_cons_zero, List.getElem_cons_succ, Act.put, List.setIfInBounds_toArray, List.set_cons_zero, List.set_cons_succ]
          refine wpAnyH_ready (rs := [20]) (by kernel_rfl) (by simp) ?_
          refine AllReadyH.cons rfl (fun K hK => ?_) AllReadyH.nil
          go_simp
          go_wp2_with (go_at_call 14; refine (CO.out _ (hrW.below (Below.drew (Below.refl _ _))) (hiW.below (Below.drew (Below.refl _ _)))).mono ?_; rintro e w9 ⟨rfl, hb9⟩)
          refine hK.out _ _ trivial (fun _ => ?_)
          clear hK K
          refine wpAnyH_take (i := 22) (v := ?_) rfl (by kernel_rfl) (by kernel_rfl) (by kernel_rfl) (fun _ _ _ h => h) (Or.inl ⟨by rfl, ?_⟩) trivial ?_
          rotate_left
          · intro w hSw
            go_simp
            try with_reducible rfl
          simp only [List.getElem_toArray, List.getElem_cons_zero, List.getElem_cons_succ, Act.put, List.setIfInBounds_toArray, List.set_cons_zero, List.set_cons_succ]
          refine wpAnyH_take (i := 23) (v := ?_) rfl (by kernel_rfl) (by kernel_rfl) (by kernel_rfl) (fun _ _ _ h => h) (Or.inl ⟨by rfl, ?_⟩) trivial ?_
          rotate_left
          · intro w hSw
            go_simp
            try with_reducible rfl
          simp only [List.getElem_toArray, List.getElem_cons_zero, List.getElem_cons_succ, Act.put, List.setIfInBounds_toArray, List.set_cons_zero, List.set_cons_succ]
          refine wpAnyH_take (i := 24) (v := ?_) rfl (by kernel_rfl) (by kernel_rfl) (by kernel_rfl) (fun _ _ _ h => h) (Or.inl ⟨by rfl, ?_⟩) trivial ?_
          rotate_left
          · intro w hSw
            go_simp
            try with_reducible rfl
          simp only [List.getElem_toArray, List.getElem_cons_zero, List.getElem_cons_succ, Act.put, List.setIfInBounds_toArray, List.set_cons_zero, List.set_cons_succ]
          refine wpAnyH_done (by kernel_rfl) ?_ _
          go_wp2
          go_ret
          exact ⟨rfl, hBW.drew.trans (hb9.mono hBW.size)⟩
        · have hml1 : 0 < (manyB tag fs).length := of_decide_eq_true hisc.symm
          obtain ⟨hq, hbe⟩ := List.getElem?_eq_some_iff.1 (HI0.out rfl)
          obtain ⟨mb, rfl, hmc⟩ := hbr3 (by intro h; rw [h] at hml1; simp at hml1)
          obtain ⟨x, xc, hx, hxr⟩ := hmc 0 hml1
          rw [hbe] at hx hxr
          have hx2 := (hb.cell (p := ⟨mb, 0, none⟩) (World.block_lt_of_cell? w3 ⟨mb, 0, none⟩ hx)).trans hx
          have hxb : mb < wr.heap.size := World.block_lt_of_cell? wr ⟨mb, 0, none⟩ hx2
          have hxW := hxr.below hb
          have u1 := hxW.drew.text Bb.length xc rfl
          have u2 := hrowW.drew.text Bb.length c2 rfl
          have hml2 : (0 : Int) < ((manyB tag fs).length : Int) := by omega
          clear HI0 HIS hisc hmc hx hxr hbe hq hml1
          generalize (manyB tag fs).length = ml at *
          have hgd : decide (0 < ml) = true := decide_eq_true (by omega)
          go_upto_region 26 with fail
          go_region_held (fun w' => w'.cell? ⟨mb, 0, none⟩ = some (.slice x Bb.length xc) ∧ (convert 29 9 (.slice a2 Bb.length c2)).run Try.prog w' = .ok (.string (strOfNums Bb)) w' ∧ (convert 29 9 (.slice x Bb.length xc)).run Try.prog w' = .ok (.string (strOfNums Bb)) w')
            (first | exact ⟨hx2, u2, u1⟩ | exact ⟨s1, s2, s3⟩ | fail)
            (first
            | (go_at_call 14; refine (CO.out _ (hrW.below (Below.drew (Below.refl _ _))) (hiW.below (Below.drew (Below.refl _ _)))).mono ?_; rintro e w9 ⟨rfl, hb9⟩; have s1 := (hb9.cell (p := ⟨mb, 0, none⟩) hxb).trans hx2; have s2 := (hrowW.drew.below hb9).text Bb.length c2 rfl; have s3 := (hxW.drew.below hb9).text Bb.length xc rfl)
            | fail)
          all_goals
            go_wp2
            go_ret
            exact ⟨rfl, hBW.drew.trans (hb9.mono hBW.size)⟩
      · generalize idxF (fitB tag false) fs = ix at *
        have hisc := HIS.out
        cases IS
        · have hm0 : (manyB tag fs).length = 0 := by
            have := of_decide_eq_false hisc.symm
            omega
          rw [hm0]
          clear HI0 HIS hisc hm0 hbr3
          go_upto_region 26 with fail
          refine wp_region_held_drew (S := fun _ => True) (by kernel_rfl) trivial (fun _ => ?_)
          refine wpAnyH_take (i := 0) (v := ?_) rfl (by kernel_rfl) (by kernel_rfl) (by kernel_rfl) (fun _ _ _ h => h) (Or.inl ⟨by rfl, ?_⟩) trivial ?_
          rotate_left
          · intro w hSw
            go_simp
            try with_reducible rfl
          simp only [List.getElem_toArray, List.getElem_cons_zero, Act.put, List.setIfInBounds_toArray, List.set_cons_zero, List.set_cons_succ]
          refine wpAnyH_take (i := 1) (v := ?_) rfl (by kernel_rfl) (by kernel_rfl) (by kernel_rfl) (fun _ _ _ h => h) (Or.inl ⟨by rfl, ?_⟩) trivial ?_
          rotate_left
          · intro w hSw
            go_simp
            try with_reducible rfl
          simp only [List.getElem_toArray, List.getElem_cons_zero, List.getElem_cons_succ, Act.put, List.setIfInBounds_toArray, List.set_cons_zero, List.set_cons_succ]
          refine wpAnyH_take (i := 2) (v := ?_) rfl (by kernel_rfl) (by kernel_rfl) (by kernel_rfl) (fun _ _ _ h => h) (Or.inl ⟨by rfl, ?_⟩) trivial ?_
          rotate_left
          · intro w hSw
            go_simp
            try with_reducible rfl
          simp only [List.getElem_toArray, List.getElem_cons_zero, List.getElem_cons_succ, Act.put, List.setIfInBounds_toArray, List.set_cons_zero, List.set_cons_succ]
          refine wpAnyH_take (i := 3) (v := ?_) rfl (by kernel_rfl) (by kernel_rfl) (by kernel_rfl) (fun _ _ _ h => h) (Or.inl ⟨by rfl, ?_⟩) trivial ?_
          rotate_left
          · intro w hSw
            go_simp
            try with_reducible rfl
          simp only [List.getElem_toArray, List.getElem_cons_zero, List.getElem_cons_succ, Act.put, List.setIfInBounds_toArray, List.set_cons_zero, List.set_cons_succ]
          refine wpAnyH_take (i := 4) (v := ?_) rfl (by kernel_rfl) (by kernel_rfl) (by kernel_rfl) (fun _ _ _ h => h) (Or.inl ⟨by rfl, ?_⟩) trivial ?_
          rotate_left
          · intro w hSw
            go_simp
            try with_reducible rfl
          simp only [List.getElem_toArray, List.getElem_cons_zero, List.getElem_cons_succ, Act.put, List.setIfInBounds_toArray, List.set_cons_zero, List.set_cons_succ]
          refine wpAnyH_take (i := 5) (v := ?_) rfl (by kernel_rfl) (by kernel_rfl) (by kernel_rfl) (fun _ _ _ h => h) (Or.inl ⟨by rfl, ?_⟩) trivial ?_
          rotate_left
          · intro w hSw
            go_simp
            try with_reducible rfl
          simp only [List.getElem_toArray, List.getElem_cons_zero, List.getElem_cons_succ, Act.put, List.setIfInBounds_toArray, List.set_cons_zero, List.set_cons_succ]
          refine wpAnyH_take (i := 6) (v := ?_) rfl (by kernel_rfl) (by kernel_rfl) (by kernel_rfl) (fun _ _ _ h => h) (Or.inl ⟨by rfl, ?_⟩) trivial ?_
          rotate_left
          · intro w hSw
            go_simp
            try with_reducible rfl
          simp only [List.getElem_toArray, List.getElem_cons_zero, List.getElem_cons_succ, Act.put, List.setIfInBounds_toArray, List.set_cons_zero, List.set_cons_succ]
          refine wpAnyH_take (i := 7) (v := ?_) rfl (by kernel_rfl) (by kernel_rfl) (by kernel_rfl) (fun _ _ _ h => h) (Or.inl ⟨by rfl, ?_⟩) trivial ?_
          rotate_left
          · intro w hSw
            go_simp
            try with_reducible rfl
          simp only [List.getElem_toArray, List.getElem_cons_zero, List.getElem_cons_succ, Act.put, List.setIfInBounds_toArray, List.set_cons_zero, List.set_cons_succ]
          refine wpAnyH_take (i := 8) (v := undef) rfl (by kernel_rfl) (by kernel_rfl) (by kernel_rfl) (fun _ _ _ h => h) (Or.inr ⟨by rfl, rfl⟩) trivial ?_
          simp only [List.getElem_toArray, List.getElem_cons_zero, List.getElem_cons_succ, Act.put, List.setIfInBounds_toArray, List.set_cons_zero, List.set_cons_succ]
          refine wpAnyH_take (i := 9) (v := undef) rfl (by kernel_rfl) (by kernel_rfl) (by kernel_rfl) (fun _ _ _ h => h) (Or.inr ⟨by rfl, rfl⟩) trivial ?_
          simp only [List.getElem_toArray, List.getElem_cons_zero, List.getElem_cons_succ, Act.put, List.setIfInBounds_toArray, List.set_cons_zero, List.set_cons_succ]
          refine wpAnyH_take (i := 10) (v := undef) rfl (by kernel_rfl) (by kernel_rfl) (by kernel_rfl) (fun _ _ _ h => h) (Or.inr ⟨by rfl, rfl⟩) trivial ?_
          simp only [List.getElem_toArray, List.getElem_cons_zero, List.getElem_cons_succ, Act.put, List.setIfInBounds_toArray, List.set_cons_zero, List.set_cons_succ]
          refine wpAnyH_take (i := 11) (v := undef) rfl (by kernel_rfl) (by kernel_rfl) (by kernel_rfl) (fun _ _ _ h => h) (Or.inr ⟨by rfl, rfl⟩) trivial ?_
          simp only [List.getElem_toArray, List.getElem_cons_zero, List.getElem_cons_succ, Act.put, List.setIfInBounds_toArray, List.set_cons_zero, List.set_cons_succ]
          refine wpAnyH_take (i := 12) (v := undef) rfl (by kernel_rfl) (by kernel_rfl) (by kernel_rfl) (fun _ _ _ h => h) (Or.inr ⟨by rfl, rfl⟩) trivial ?_
          simp only [List.getElem_toArray, List.getElem_cons_zero, List.getElem_cons_succ, Act.put, List.setIfInBounds_toArray, List.set_cons_zero, List.set_cons_succ]
          refine wpAnyH_take (i := 13) (v := undef) rfl (by kernel_rfl) (by kernel_rfl) (by kernel_rfl) (fun _ _ _ h => h) (Or.inr ⟨by rfl, rfl⟩) trivial ?_
          simp only [List.getElem_toArray, List.getElem_cons_zero, List.getElem_cons_succ, Act.put, List.setIfInBounds_toArray, List.set_cons_zero, List.set_cons_succ]
          refine wpAnyH_take (i := 14) (v := undef) rfl (by kernel_rfl) (by kernel_rfl) (by kernel_rfl) (fun _ _ _ h => h) (Or.inr ⟨by rfl, rfl⟩) trivial ?_
          simp only [List.getElem_toArray, List.getElem_cons_zero, List.getElem_cons_succ, Act.put, List.setIfInBounds_toArray, List.set_cons_zero, List.set_cons_succ]
          refine wpAnyH_take (i := 15) (v := ?_) rfl (by kernel_rfl) (by kernel_rfl) (by kernel_rfl) (fun _ _ _ h => h) (Or.inl ⟨by rfl, ?_⟩) trivial ?_
          rotate_left
          · intro w hSw
            go_simp
            try with_reducible rfl
          simp only [List.getElem_toArray, List.getElem_cons_zero, List.getElem_cons_succ, Act.put, List.setIfInBounds_toArray, List.set_cons_zero, List.set_cons_succ]
          refine wpAnyH_take (i := 16) (v := ?_) rfl (by kernel_rfl) (by kernel_rfl) (by kernel_rfl) (fun _ _ _ h => h) (Or.inl ⟨by rfl, ?_⟩) trivial ?_
          rotate_left
          · intro w hSw
            go_simp
            try with_reducible rfl
          simp only [List.getElem_toArray, List.getElem_cons_zero, List.getElem_cons_succ, Act.put, List.setIfInBounds_toArray, List.set_cons_zero, List.set_cons_succ]
          refine wpAnyH_take (i := 17) (v := ?_) rfl (by kernel_rfl) (by kernel_rfl) (by kernel_rfl) (fun _ _ _ h => h) (Or.inl ⟨by rfl, ?_⟩) trivial ?_
          rotate_left
          · intro w hSw
            go_simp
            try with_reducible rfl
          simp only [List.getElem_toArray, List.getElem_cons_zero, List.getElem_cons_succ, Act.put, List.setIfInBounds_toArray, List.set_cons_zero, List.set_cons_succ]
          refine wpAnyH_take (i := 18) (v := ?_) rfl (by kernel_rfl) (by kernel_rfl) (by kernel_rfl) (fun _ _ _ h => h) (Or.inl ⟨by rfl, ?_⟩) trivial ?_
          rotate_left
          · intro w hSw
            go_simp
            try with_reducible rfl
          simp only [List.getElem_toArray, List.getElem_cons_zero, List.getElem_cons_succ, Act.put, List.setIfInBounds_toArray, List.set_cons_zero, List.set_cons_succ]
          refine wpAnyH_take (i := 19) (v := ?_) rfl (by kernel_rfl) (by kernel_rfl) (by kernel_rfl) (fun _ _ _ h => h) (Or.inl ⟨by rfl, ?_⟩) trivial ?_
          rotate_left
          · intro w hSw
            go_simp
            try with_reducible rfl
          simp only [List.getElem_toArray, List.getElem_cons_zero, List.getElem_cons_succ, Act.put, List.setIfInBounds_toArray, List.set_cons_zero, List.set_cons_succ]
          refine wpAnyH_take (i := 21) (v := ?_) rfl (by kernel_rfl) (by kernel_rfl) (by kernel_rfl) (fun _ _ _ h => h) (Or.inl ⟨by rfl, ?_⟩) trivial ?_
          rotate_left
          · intro w hSw
            go_simp
            try with_reducible rfl
          simp only [List.getElem_toArray, List.getElem_cons_zero, List.getElem_cons_succ, Act.put, List.setIfInBounds_toArray, List.set_cons_zero, List.set_cons_succ]
          refine wpAnyH_ready (rs := [20]) (by kernel_rfl) (by simp) ?_
          refine AllReadyH.cons rfl (fun K hK => ?_) AllReadyH.nil
          go_simp
          go_wp2_with (go_at_call 14; refine (CO.out _ (hrW.below (Below.drew (Below.refl _ _))) (hiW.below (Below.drew (Below.refl _ _)))).mono ?_; rintro e w9 ⟨rfl, hb9⟩)
          refine hK.out _ _ trivial (fun _ => ?_)
          clear hK K
          refine wpAnyH_take (i := 22) (v := ?_) rfl (by kernel_rfl) (by kernel_rfl) (by kernel_rfl) (fun _ _ _ h => h) (Or.inl ⟨by rfl, ?_⟩) trivial ?_
          rotate_left
          · intro w hSw
            go_simp
            try with_reducible rfl
          simp only [List.getElem_toArray, List.getElem_cons_zero, List.getElem_cons_succ, Act.put, List.setIfInBounds_toArray, List.set_cons_zero, List.set_cons_succ]
          refine wpAnyH_take (i := 23) (v := ?_) rfl (by kernel_rfl) (by kernel_rfl) (by kernel_rfl) (fun _ _ _ h => h) (Or.inl ⟨by rfl, ?_⟩) trivial ?_
          rotate_left
          · intro w hSw
            go_simp
            try with_reducible rfl
          simp only [List.getElem_toArray, List.getElem_cons_zero, List.getElem_cons_succ, Act.put, List.setIfInBounds_toArray, List.set_cons_zero, List.set_cons_succ]
          refine wpAnyH_take (i := 24) (v := ?_) rfl (by kernel_rfl) (by kernel_rfl) (by kernel_rfl) (fun _ _ _ h => h) (Or.inl ⟨by rfl, ?_⟩) trivial ?_
          rotate_left
          · intro w hSw
            go_simp
            try with_reducible rfl
          simp only [List.getElem_toArray, List.getElem_cons_zero, List.getElem_cons_succ, Act.put, List.setIfInBounds_toArray, List.set_cons_zero, List.set_cons_succ]
          refine wpAnyH_done (by kernel_rfl) ?_ _
          go_wp2
          go_ret
          exact ⟨rfl, hBW.drew.trans (hb9.mono hBW.size)⟩
        · have hml1 : 0 < (manyB tag fs).length := of_decide_eq_true hisc.symm
          obtain ⟨hq, hbe⟩ := List.getElem?_eq_some_iff.1 (HI0.out rfl)
          obtain ⟨mb, rfl, hmc⟩ := hbr3 (by intro h; rw [h] at hml1; simp at hml1)
          obtain ⟨x, xc, hx, hxr⟩ := hmc 0 hml1
          rw [hbe] at hx hxr
          have hx2 := (hb.cell (p := ⟨mb, 0, none⟩) (World.block_lt_of_cell? w3 ⟨mb, 0, none⟩ hx)).trans hx
          have hxb : mb < wr.heap.size := World.block_lt_of_cell? wr ⟨mb, 0, none⟩ hx2
          have hxW := hxr.below hb
          have u1 := hxW.drew.text Bb.length xc rfl
          have u2 := hrowW.drew.text Bb.length c2 rfl
          have hml2 : (0 : Int) < ((manyB tag fs).length : Int) := by omega
          clear HI0 HIS hisc hmc hx hxr hbe hq hml1
          generalize (manyB tag fs).length = ml at *
          have hgd : decide (0 < ml) = true := decide_eq_true (by omega)
          go_upto_region 26 with fail
          go_region_held (fun w' => w'.cell? ⟨mb, 0, none⟩ = some (.slice x Bb.length xc) ∧ (convert 29 9 (.slice a2 Bb.length c2)).run Try.prog w' = .ok (.string (strOfNums Bb)) w' ∧ (convert 29 9 (.slice x Bb.length xc)).run Try.prog w' = .ok (.string (strOfNums Bb)) w')
            (first | exact ⟨hx2, u2, u1⟩ | exact ⟨s1, s2, s3⟩ | fail)
            (first
            | (go_at_call 14; refine (CO.out _ (hrW.below (Below.drew (Below.refl _ _))) (hiW.below (Below.drew (Below.refl _ _)))).mono ?_; rintro e w9 ⟨rfl, hb9⟩; have s1 := (hb9.cell (p := ⟨mb, 0, none⟩) hxb).trans hx2; have s2 := (hrowW.drew.below hb9).text Bb.length c2 rfl; have s3 := (hxW.drew.below hb9).text Bb.length xc rfl)
            | fail)
          all_goals
            go_wp2
            go_ret
            exact ⟨rfl, hBW.drew.trans (hb9.mono hBW.size)⟩
set_option maxRecDepth 100000 in
theorem messageFinds_lifted (os : Os) (started : os.Started) (H : Type) (tok : TypeId × Value → H) :
    ReturnsInHanded {} Try.checked os 3 .any (Rows.messageFindsSpec.pre6 tok Try.prog Try.f3 Rows.messageFindsRow.domain false) (Rows.messageFindsSpec.post tok Try.prog Try.f3 false true false false) := by
  refine returnsInHanded_of_change (C := Try.checked) own_knob started (by kernel_rfl) Try.func3
    (ChangeSpec.witness6 (enc := tok) (C := Try.checked) false ⟨#[], #[.slice none 0 0, .int .i64 0, .slice none 0 0], []⟩ 8 (by kernel_rfl) (by kernel_rfl) (by kernel_rfl) (by kernel_rfl)) ?_
  intro W base args ds gs before hval0 hW hcnd _
  have hval : ∀ (j : Nat) t v, Try.f3.params[j]? = some t → args[j]? = some v → Value.okWide Try.prog W .any base t v := hval0
  have hW' := hW
  obtain ⟨p, q, hA0, hV, rfl, hfz, hnd⟩ := hW
  have hA : DataW.TrodAll tok Try.prog W 0 (fun _ => true) true Try.f3.params.toList args.toList ds p := hA0
  rw [Try.params3] at hA hval
  obtain ⟨v0, vs0, d0, ds0, p0, q0, hargs, rfl, rfl, h0, r0⟩ := trodAll_cons hA
  obtain ⟨v1, vs1, d1, ds1, p1, q1, rfl, rfl, rfl, h1, r1⟩ := trodAll_cons r0
  obtain ⟨v2, vs2, d2, ds2, p2, q2, rfl, rfl, rfl, h2, r2⟩ := trodAll_cons r1
  obtain ⟨rfl, rfl, rfl⟩ := trodAll_nil r2
  obtain rfl : args = #[v0, v1, v2] := by cases args; simp_all
  obtain ⟨rfl, rfl⟩ := trodVars_none hV
  obtain ⟨a0, len0, cap0, rfl⟩ := okWide_slice Try.underlying22 (hval 0 22 v0 rfl rfl)
  have k0 := h0
  have lt0 : ∀ x ∈ p0, x.block < W.heap.size := by obtain ⟨m, hm⟩ := k0; exact DataW.trod_lt m _ _ _ hm
  obtain ⟨z0, w0⟩ : ∃ zs, FieldsIn W a0 len0 cap0 zs := by obtain ⟨fuel, hf⟩ := h0; exact fields_in hf
  obtain rfl := w0.hlen
  obtain ⟨a1, rfl, rfl, rfl, w1⟩ := open_int Try.underlying3 (hval 1 3 v1 rfl rfl) h1
  obtain ⟨a2, len2, cap2, rfl⟩ := okWide_slice Try.underlying23 (hval 2 23 v2 rfl rfl)
  have k2 := h2
  have lt2 : ∀ x ∈ p2, x.block < W.heap.size := by obtain ⟨m, hm⟩ := k2; exact DataW.trod_lt m _ _ _ hm
  obtain ⟨z2, w2⟩ : ∃ zs, IntsIn W a2 len2 cap2 zs := by obtain ⟨fuel, hf⟩ := h2; exact ints_in hf
  obtain rfl := w2.hlen
  clear hA0 hval0
  refine (finds_walk a0 z0 cap0 a1 a2 z2 cap2 W w0 (i64_of_wf w1) w2).mono fun e W' ⟨he, bel⟩ => ?_
  subst he
  exact ⟨_, rfl, _, _, _, [], _, [], hW', trodAll_mk1 (shut_bool Try.underlying4 _), (trodAll_cons_mk (Below.trod laid_out (by kernel_rfl) (of_decide_eq_true (by kernel_rfl)) k0 bel lt0) (trodAll_cons_mk (shut_int Try.underlying3 w1) (trodAll_cons_mk (Below.trod laid_out (by kernel_rfl) (of_decide_eq_true (by kernel_rfl)) k2 bel lt2) trodAll_mk0))), rfl, bel.frame _, fun h => by cases h⟩

set_option maxRecDepth 100000 in
theorem messageFinds_holds : Rows.MessageFindsSaid :=
  OpenClaim.holds_of_wide 3 Try.f3 rfl rfl rfl rfl rfl rfl rfl ⟨rfl, rfl, rfl, rfl, rfl⟩ rfl rfl rfl rfl rfl (by kernel_rfl) Try.func3 (by kernel_rfl)
    (of_decide_eq_true (by kernel_rfl)) (by unfold Func.isWrapper; first | (rw [if_pos (by decide +kernel)]; kernel_rfl) | (rw [if_neg (by decide +kernel)]; exact ⟨rfl, rfl⟩))
    (fun os started H tok _ => messageFinds_lifted os started H tok)
#print axioms messageFinds_holds
end Go.Proofs.Ytjnipkeadlemiaa
