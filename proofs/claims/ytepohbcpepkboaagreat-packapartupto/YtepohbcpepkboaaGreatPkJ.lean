/- Values out of fields, gathered one by one, by the contract of each one's bytes. Conditions: at most 64 fields, of at most 4096 bytes. -/
import Derived.Test.YtepohbcpepkboaaGreatPkH
import Derived.Test.YtepohbcpepkboaaGreatFindD
namespace Go.Proofs.YtepohbcpepkboaaGreat
open Go.RowKit Go.Maps Go.WideMaps

set_option maxRecDepth 100000 in
theorem point_not (n m : Int) (w : World) (h : partB n = false ∨ (partB n = true ∧ partB m = false)) :
    Calls Tryz.prog 30 #[.int .i64 n, .int .i64 m] w fun e w' => e = .returned (.tuple #[.agg #[.nilIface], .int .i64 2]) ∧ Below w.heap.size w w' := by
  rcases h with e1 | ⟨e1, e2⟩
  · go_enter Tryz.func30, Tryz.ntmps30
    go_wp2_with fail
    refine (maybe_any _ _).mono ?_
    rintro e w1 ⟨rfl, rfl⟩
    go_wp2_with fail
    exact bodyPost_ret (v := .tuple #[.agg #[.nilIface], .int .i64 2]) (by simp [results, Tryz.results30, go_sem]) rfl ⟨rfl, (Below.refl _ _).alloc (Nat.le_refl _) _⟩
  · go_enter Tryz.func30, Tryz.ntmps30
    go_wp2_with fail
    refine (maybe_any _ _).mono ?_
    rintro e w1 ⟨rfl, rfl⟩
    go_wp2_with fail
    refine (maybe_any _ _).mono ?_
    rintro e w2 ⟨rfl, rfl⟩
    go_wp2_with fail
    exact bodyPost_ret (v := .tuple #[.agg #[.nilIface], .int .i64 2]) (by simp [results, Tryz.results30, go_sem]) rfl ⟨rfl, (Below.refl _ _).alloc (Nat.le_refl _) _⟩
set_option maxRecDepth 100000 in
theorem one_srowp {W : World} {b : Nat} {key : ByteArray} {T : TypeId} {fr : Nat × Nat} (hk : key.size ≤ maxLen) (h : W.heap[b]? = some (.cells #[.string key] T fr)) : SRow W (fun _ => True) (some ⟨b, 0, none⟩) [key] :=
  ⟨fun x hx => by simp at hx; subst hx; exact hk, fun _ => ⟨b, 0, rfl, trivial, fun j hj => by
    have hj0 : j = 0 := by simp at hj; omega
    subst hj0
    rw [cell_of_row _ _ _ _ _ _ h]; simp⟩⟩
set_option maxRecDepth 100000 in
theorem sown_nil (W : World) (X : Nat) : SOwn W X (.slice none 0 0) [] := ⟨World.ownsRow_nil _ _ _ _, by simp⟩
set_option maxRecDepth 100000 in
theorem many_len (t : Int) (fs : List Fld) : (manyB t fs).length ≤ fs.length := by
  unfold manyB; rw [List.length_map]; exact List.length_filter_le _ _
set_option maxRecDepth 100000 in
set_option maxHeartbeats 3200000 in
theorem textsof_any (ao : Option Addr) (fs : List Fld) (cap : Nat) (tag : Int) (w : World) (hr : FRow w ao fs) (hm : fs.length ≤ 64) (h5 : ∀ f ∈ fs, f.b.length ≤ 4096) :
    Calls Tryz.prog 70 #[.slice ao fs.length cap, .int .i64 tag] w fun e w' => ∃ a c, e = .returned (.slice a ((manyB tag fs).map strOfNums).length c) ∧ SRow w' (fun b => w.heap.size ≤ b) a ((manyB tag fs).map strOfNums) ∧ SliceOk a ((manyB tag fs).map strOfNums).length c ∧ Below w.heap.size w w' := by
  have CM := hide (many_any ao fs cap tag w hr (by omega) (fun f hf => by have := h5 f hf; omega))
  have hlen := many_len tag fs
  have hbl : ∀ b ∈ manyB tag fs, b.length ≤ 4096 := fun b hb => by
    obtain ⟨f, hf, -, rfl⟩ := many_mem hb
    exact h5 f hf
  generalize manyB tag fs = bs at *
  clear hr h5
  go_enter Tryz.func70, Tryz.ntmps70
  go_wp2_with fail
  refine CM.out.mono ?_
  rintro ex w1 ⟨a, c, rfl, hbr, hb1⟩
  have HBR := hide hbr
  have H0 : Hid (SOwn w1 w1.heap.size (.slice none 0 0) ((bs.take 0).map strOfNums)) := sown_nil _ _
  have HBL := hide hbl
  clear CM hbr hbl
  go_wp2_with fail
  go_loopw [5, 12] (fun s5 s12 wr => ∃ (k : Nat) (u : Value), k ≤ bs.length ∧ u = s5 ∧ s12 = .int .i64 k ∧ Hid (SOwn wr w1.heap.size u ((bs.take k).map strOfNums)) ∧ Below w1.heap.size w1 wr) (fun _ s12 _ => bs.length - (intOf s12).toNat)
  case atStart => exact ⟨0, _, by omega, rfl, rfl, H0, Below.refl _ _⟩
  case round =>
    obtain ⟨k, u, hkl, rfl, rfl, HR, hbw⟩ := hrel
    clear H0
    by_cases h1 : k < bs.length
    · obtain ⟨b, rfl, hcc⟩ := HBR.out (by intro e; rw [e] at h1; simp at h1)
      obtain ⟨x, cx, hc1, hrow⟩ := hcc k h1
      have hblt : b < w1.heap.size := World.block_lt_of_cell? _ _ hc1
      have hc := (hbw.cell (p := ⟨b, k, none⟩) hblt).trans hc1
      have hle := HBL.out bs[k] (List.getElem_mem h1)
      have hcv := (hrow.below hbw).text bs[k].length cx rfl
      have hsz : (strOfNums bs[k]).size ≤ 4096 := by rw [strOfNums_size]; omega
      have hkey : Hid ((bs.take (k + 1)).map strOfNums = (bs.take k).map strOfNums ++ [strOfNums bs[k]]) := by
        show _ = _
        rw [List.take_succ_eq_append_getElem h1, List.map_append]; rfl
      clear hcc hc1 hrow hle
      generalize strOfNums bs[k] = str at *
      generalize bs[k].length = bl at *
      have hB4 : Below wr.heap.size wr (wr.alloc (.cells #[.string str] 9)) := (Below.refl _ _).alloc (Nat.le_refl _) _
      have hz := hbw.size
      have hS4 := HR.out.below hB4
      obtain ⟨u5, w5, hrun, hS5, hg5, -⟩ := append_texts (m := 1) (c := 1) hS4 (one_srowp (by simp [maxLen]; omega) (heap_alloc_new _ _)) rfl (by intro e; cases e) (by have := hB4.size; omega) (by simp; omega) 23
      have hB5 : Below w1.heap.size w1 w5 := (hbw.trans (hB4.mono hz)).grown hg5 (by have := hB4.size; omega) (fun b hb => (hS4.own b hb).1)
      have H5 : Hid (SOwn w5 w1.heap.size u5 ((bs.take (k + 1)).map strOfNums)) := by
        have e := hkey.out
        show SOwn _ _ _ _
        rw [e]; exact hS5
      clear hS4 hS5 hg5 hB4 HR hkey
      go_wp2_with (at_builtin; go_must (refine wpList_append_run rfl _ _ 23 rfl _ _ rfl rfl hrun ?_))
      go_roundw
      case measure => simp [intOf]; omega
      case rel => exact ⟨k + 1, u5, by omega, rfl, by simp, H5, hB5⟩
    · obtain rfl : k = bs.length := by omega
      have H := HR.out
      rw [List.take_length] at H
      obtain ⟨a9, c9, rfl, hs9, hr9⟩ := H.row (ok := fun b => w.heap.size ≤ b) (fun b hb => by have := hb1.size; omega)
      have HF := hide (And.intro hs9 hr9)
      have hB9 := hb1.trans (hbw.mono hb1.size)
      clear HR H hs9 hr9
      go_wp2_with fail
      go_ret
      exact ⟨_, _, rfl, HF.out.2, HF.out.1, hB9⟩
end Go.Proofs.YtepohbcpepkboaaGreat

namespace Go.Proofs.YtepohbcpepkboaaGreat
open Go.RowKit

def Pk (p : List Int × Option Addr × Nat) : Prop := (p.2.1 = none → p.1.length = 0 ∧ p.2.2 = 0) ∧ p.1.length ≤ p.2.2
def BRow2 (w : World) (a : Option Addr) (bs : List (List Int)) : Prop := bs ≠ [] → ∃ b, a = some ⟨b, 0, none⟩ ∧ ∀ j (hj : j < bs.length), ∃ x c, w.cell? ⟨b, j, none⟩ = some (.slice x bs[j].length c) ∧ Row w x bs[j] ∧ (x = none → bs[j].length = 0 ∧ c = 0) ∧ bs[j].length ≤ c
set_option maxRecDepth 100000 in
theorem BOwn.view2 {w : World} {base : Nat} {v : Value} {ps : List (List Int × Option Addr × Nat)} (h : BOwn w base v ps) (hp : ∀ p ∈ ps, Pk p) : ∃ a cap, v = .slice a ps.length cap ∧ BRow2 w a (ps.map (·.1)) := by
  rcases h.own.2 with ⟨hv, h0⟩ | ⟨g, cap, cur, hv, -⟩
  · have hz : ps = [] := List.eq_nil_of_length_eq_zero h0
    subst hz
    exact ⟨none, 0, hv, fun hz => absurd rfl hz⟩
  · have ho := h.own
    subst hv
    refine ⟨some ⟨g, 0, none⟩, cap, rfl, fun _ => ⟨g, rfl, fun j hj => ?_⟩⟩
    have hj' : j < ps.length := by simpa using hj
    have hc := ho.cellAt j (by omega)
    rw [List.getElem?_map, List.getElem?_eq_getElem hj'] at hc
    rw [List.getElem_map]
    have h2 := hp ps[j] (List.getElem_mem hj')
    exact ⟨_, _, hc, h.sh ps[j] (List.getElem_mem hj'), h2.1, h2.2⟩
set_option maxHeartbeats 1600000 in
set_option maxRecDepth 100000 in
theorem many2_any (ao : Option Addr) (fs : List Fld) (cap : Nat) (tag : Int) (w : World) (hr : FRow w ao fs) (hm : fs.length ≤ 80) (h5 : ∀ f ∈ fs, f.b.length ≤ 5000) :
    Calls Tryz.prog 101 #[.slice ao fs.length cap, .int .i64 tag] w fun e w' => ∃ a c, e = .returned (.slice a (manyB tag fs).length c) ∧ BRow2 w' a (manyB tag fs) ∧ Below w.heap.size w w' := by
  obtain ⟨i0, hi, hz0, hz1, hz2⟩ := info_parts infoB
  go_enter Tryz.func101, Tryz.ntmps101
  go_wp2_with fail
  refine (of_any tag true _).mono ?_
  rintro e w1 ⟨rfl, ho1, hb1⟩
  have hr1 := hr.below hb1
  unfold ofV
  clear hr
  go_wp2
  go_loopw [6, 13] (fun v si wr => ∃ (k : Nat) (ps : List (List Int × Option Addr × Nat)), k ≤ fs.length ∧ si = .int .i64 k ∧ BOwn wr w1.heap.size v ps ∧ Hid (ps.map (·.1) = manyB tag (fs.take k)) ∧ Hid (∀ p ∈ ps, Pk p) ∧ ps.length ≤ k ∧ Below w1.heap.size w1 wr) (fun _ si _ => fs.length - (intOf si).toNat)
  case atStart => exact ⟨0, [], by omega, rfl, BOwn.nil _ _, rfl, fun p hp => by simp at hp, by simp, Below.refl _ _⟩
  case round =>
    obtain ⟨k, ps, hk, rfl, hbo, hid, hpk, hpl, hb⟩ := hrel
    obtain ⟨va, vc, hv, -⟩ := hbo.view
    subst hv
    by_cases hlt : k < fs.length
    · have hz : fs ≠ [] := by intro h; rw [h] at hlt; simp at hlt
      obtain ⟨b0, off, rfl, hc⟩ := hr1.2 hz
      obtain ⟨fa, fc, c0, c1, c2, c3, hsh⟩ := hc k hlt
      have hlt0 : b0 < w1.heap.size := World.block_lt_of_cell? w1 ⟨b0, off + k * 4, none⟩ c0
      have d0 := (hb.cell (p := ⟨b0, off + k * 4, none⟩) hlt0).trans c0
      have d1 := (hb.cell (p := ⟨b0, off + k * 4 + 1, none⟩) hlt0).trans c1
      have d2 := (hb.cell (p := ⟨b0, off + k * 4 + 2, none⟩) hlt0).trans c2
      have d3 := (hb.cell (p := ⟨b0, off + k * 4 + 3, none⟩) hlt0).trans c3
      have hB0 := World.block_lt_of_cell? w1 ⟨w.heap.size, 0, none⟩ ho1.1
      have hB1 := World.block_lt_of_cell? w1 ⟨w.heap.size + 1, 0, none⟩ ho1.2
      have e0 := (hb.cell (p := ⟨w.heap.size, 0, none⟩) hB0).trans ho1.1
      have e1 := (hb.cell (p := ⟨w.heap.size + 1, 0, none⟩) hB1).trans ho1.2
      simp only at hB0 hB1
      have hB2 : w.heap.size < wr.heap.size := Nat.lt_of_lt_of_le hB0 hb.size
      have hB3 : w.heap.size + 1 < wr.heap.size := Nat.lt_of_lt_of_le hB1 hb.size
      have hlt1 : b0 < wr.heap.size := Nat.lt_of_lt_of_le hlt0 hb.size
      have h5k := h5 fs[k] (List.getElem_mem hlt)
      have HM : Hid (manyB tag (fs.take (k + 1)) = manyB tag (fs.take k) ++ (if fitB tag true fs[k] then [fs[k].b] else [])) := by
        show manyB _ _ = _
        rw [List.take_succ_eq_append_getElem hlt]
        simp only [manyB, List.filter_append, List.map_append]
        congr 1
        by_cases h : fitB tag true fs[k] = true <;> simp [h]
      have hshw := hsh.below hb
      clear c0 c1 c2 c3 hc hsh
      generalize fs[k] = f at *
      obtain ⟨t, isB, n, b⟩ := f
      simp only at d0 d1 d2 d3 h5k
      have HE : Hid (fitB tag true ⟨t, isB, n, b⟩ = ((t == tag) && (isB == true))) := rfl
      by_cases h1 : t = tag
      · subst h1
        cases isB
        · have HN : Hid (manyB t (fs.take (k + 1)) = manyB t (fs.take k)) := by show manyB _ _ = _; rw [HM.out, HE.out]; simp
          go_wp2
          go_roundw
          case rel => exact ⟨k + 1, ps, by omega, by go_num, (hbo.below ((Below.refl _ _).alloc (Nat.le_refl _) _)).below ((Below.refl _ _).alloc (Nat.le_refl _) _), by rw [HN.out]; exact hid, hpk, by omega, (hb.alloc hb.size _).alloc (by have := hb.size; simp; omega) _⟩
          case measure => simp [intOf]; omega
        · have HN : Hid (manyB t (fs.take (k + 1)) = manyB t (fs.take k) ++ [b]) := by show manyB _ _ = _; rw [HM.out, HE.out]; simp
          have hbA : Below wr.heap.size wr (wr.alloc (.cells #[.int .i64 t, .bool true, .int .u64 n, .slice fa b.length fc] 149)) := (Below.refl _ _).alloc (Nat.le_refl _) _
          have hoA : Of (wr.alloc (.cells #[.int .i64 t, .bool true, .int .u64 n, .slice fa b.length fc] 149)) w.heap.size t true := Of.below ⟨e0, e1⟩ hbA
          have hbx := heap_alloc_new wr (.cells #[.int .i64 t, .bool true, .int .u64 n, .slice fa b.length fc] 149)
          go_wp2_with fail
          refine (of1_any t true n _ w.heap.size t true _ hoA).mono ?_
          rintro e w4 ⟨rfl, hb4⟩
          have x3 := (hb4.cell (p := ⟨wr.heap.size, 3, none⟩) (by simp)).trans (cell_of_row _ _ 3 _ _ _ hbx)
          simp only [List.getElem?_toArray, List.getElem?_cons_zero, List.getElem?_cons_succ] at x3
          have hlx : wr.heap.size < w4.heap.size := by have := hb4.size; simp at this; omega
          have hbr4 : Below wr.heap.size wr w4 := hbA.trans (hb4.mono (by simp))
          have hsh4 := hshw.below hbr4
          clear hbA hoA hbx hb4
          simp only [BEq.rfl, Bool.and_self]
          go_wp2_with fail
          refine (fresh_any fa b fc _ hsh4.1 hsh4.2.1 (by omega)).mono ?_
          rintro e w5 ⟨a5, c5, rfl, hr5, hn5, hl5, -, hg5, hb5⟩
          have hpk6 : Hid (∀ p ∈ ps ++ [(b, a5, c5)], Pk p) := fun p hp => by
            rcases List.mem_append.1 hp with hp | hp
            · exact hpk.out p hp
            · simp at hp; subst hp; exact ⟨hn5, hl5⟩
          clear hn5 hl5
          have hbr5 : Below wr.heap.size wr w5 := hbr4.trans (hb5.mono hbr4.size)
          have hbo5 := (hbo.below hbr5).below ((Below.refl _ _).alloc (Nat.le_refl _) (.cells #[.slice a5 b.length c5] 29))
          have hr5' := hr5.alloc (.cells #[.slice a5 b.length c5] 29)
          have hap : b ≠ [] → ∀ x, a5 = some x → some x.block ≠ (Value.slice va ps.length vc).ownBlock := fun _ x hx e => by
            have h1 := hg5 x hx
            have h2 := (hbo.own.lt x.block e.symm).2
            have h3 := hbr4.size
            omega
          have hB5 := hb.trans (hbr5.mono hb.size)
          clear hbo hbr4 hsh4 hb5 hr5 hg5 x3 e0 e1 d0 d1 d2 d3
          go_wp2_with (at_builtin; go_must (refine wpList_append_own_at _ rfl (.tmp 20) (.tmp 24) 46 rfl w1.heap.size 29 i0 _ 1 24 Tryz.underlying46 hi hz0 hz1 hz2 rfl (by decide) _ _ _ rfl hbo5.own ⟨w5.heap.size, 0, none⟩ 1 1 [bc (b, a5, c5)] rfl rfl ?c1 ?c2 (by unfold maxLen; omega) (by omega) (by have := hB5.size; simp; omega) ?_))
          case c1 =>
            intro j u hj
            match j, hj with
            | 0, hj => simp [bc] at hj; subst hj; simp [Addr.add]
            | j + 1, hj => simp at hj
          case c2 =>
            intro u hu
            simp only [List.mem_singleton] at hu
            subst hu; rfl
          intro v6 w6 hown6 hgrow6 _ hat6
          have hbo6 := hbo5.append (p := (b, a5, c5)) hown6 hgrow6 (by simpa using hat6) hr5' hap
          have hB6 : Below w1.heap.size w1 w6 := (hB5.alloc hB5.size _).grown hgrow6 (by have := hB5.size; simp; omega) (fun q hq => (hbo5.own.lt q hq).1)
          clear hown6 hgrow6 hat6 hbo5 hr5' hap
          go_wp2
          go_roundw
          case rel => exact ⟨k + 1, ps ++ [(b, a5, c5)], by omega, by go_num, hbo6, by rw [HN.out, List.map_append]; exact congrArg (· ++ [b]) hid.out, hpk6, by simp; omega, hB6⟩
          case measure => simp [intOf]; omega
      · have h1' : (t == tag) = false := by simpa using h1
        have HN : Hid (manyB tag (fs.take (k + 1)) = manyB tag (fs.take k)) := by show manyB _ _ = _; rw [HM.out, HE.out, h1']; simp
        go_wp2
        go_roundw
        case rel => exact ⟨k + 1, ps, by omega, by go_num, (hbo.below ((Below.refl _ _).alloc (Nat.le_refl _) _)).below ((Below.refl _ _).alloc (Nat.le_refl _) _), by rw [HN.out]; exact hid, hpk, by omega, (hb.alloc hb.size _).alloc (by have := hb.size; simp; omega) _⟩
        case measure => simp [intOf]; omega
    · have hkl : fs.take k = fs := List.take_of_length_le (by omega)
      rw [hkl] at hid
      have hlen : ps.length = (manyB tag fs).length := by rw [← hid.out, List.length_map]
      obtain ⟨a2, c2, hv2, hbr⟩ := hbo.view2 hpk.out
      rw [hid.out] at hbr
      simp only [Value.slice.injEq] at hv2
      obtain ⟨rfl, -, rfl⟩ := hv2
      have hB := hb1.trans (hb.mono hb1.size)
      go_wp2
      go_ret
      refine ⟨va, vc, ?_, ?_, hB⟩
      · rw [← hlen]; rfl
      · exact hbr
end Go.Proofs.YtepohbcpepkboaaGreat

namespace Go.Proofs.YtepohbcpepkboaaGreat
open Go.RowKit Go.Maps Go.WideMaps

/-- What valueOf answers of bytes. -/
def ValC (g : List Int → V) (zs : List Int) : Prop := ∀ (W : World) (a : Option Addr) (cap : Nat), Row W a zs → (a = none → zs.length = 0 ∧ cap = 0) → zs.length ≤ cap →
  Calls Tryz.prog 38 #[.slice a zs.length cap] W fun e W' => ∃ h, e = .returned (.agg #[h]) ∧ Rep W' (fun b => W.heap.size ≤ b) h (g zs) ∧ Below W.heap.size W W'
/-- Values in a row of the call's own, each made by it. -/
def ROwn (W : World) (X : Nat) (sv : Value) (us : List Value) (l : List V) : Prop := W.ownsRow X 34 1 sv us.length us ∧ us.length = l.length ∧ ∀ j (h1 : j < us.length) (h2 : j < l.length), Rep W (fun b => X ≤ b ∧ sv.ownBlock ≠ some b) us[j] l[j]
set_option maxRecDepth 100000 in
theorem rown_nil (W : World) (X : Nat) : ROwn W X (.slice none 0 0) [] [] := ⟨World.ownsRow_nil _ _ _ _, rfl, fun j h => by simp at h⟩
set_option maxRecDepth 100000 in
theorem ROwn.below {W W' : World} {X : Nat} {sv : Value} {us : List Value} {l : List V} (h : ROwn W X sv us l) (hb : Below W.heap.size W W') : ROwn W' X sv us l := ⟨own_below7 h.1 hb, h.2.1, fun j h1 h2 => (h.2.2 j h1 h2).stays hb⟩
set_option maxRecDepth 100000 in
theorem ROwn.own {W : World} {X : Nat} {sv : Value} {us : List Value} {l : List V} (h : ROwn W X sv us l) : ∀ k, sv.ownBlock = some k → X ≤ k ∧ k < W.heap.size := fun k hk => h.1.lt k hk
set_option maxRecDepth 100000 in
theorem ROwn.row {W : World} {X : Nat} {sv : Value} {us : List Value} {l : List V} (h : ROwn W X sv us l) {ok : Nat → Prop} (hk : ∀ b, X ≤ b → ok b) : ∃ a c, sv = .slice a l.length c ∧ SliceOk a l.length c ∧ RRow W ok a l := by
  obtain ⟨a, c, e, h1, h2, -⟩ := own_crow h.1 hk
  rw [h.2.1] at e h2
  exact ⟨a, c, e, h2, RRow.of_vals h1 h.2.1 (fun j h3 h4 => (h.2.2 j h3 h4).mono (fun b hb _ => hk b hb.1))⟩
set_option maxRecDepth 100000 in
theorem infoVl : (Tryz.prog.info? 34).map (fun i => (i.zero, i.size, i.bytes)) = some (some (.agg #[.nilIface]), 1, 16) := by kernel_rfl
set_option maxRecDepth 100000 in
theorem append_val1 {W : World} {X : Nat} {sv : Value} {us : List Value} {l : List V} (h : ROwn W X sv us l) {B : Nat} {u : Value} {v : V} {T : TypeId} {fr : Nat × Nat} (hB : W.heap[B]? = some (.cells #[u] T fr)) (hu : Rep W (fun b => X ≤ b ∧ sv.ownBlock ≠ some b) u v) (hX : X ≤ W.heap.size) (hl : l.length ≤ 1048576) (ty : TypeId) :
    ∃ sv' W', (Builtin.append_ #[45, 45] ty #[sv, .slice (some ⟨B, 0, none⟩) 1 1]).run Tryz.prog W = .ok sv' W' ∧ ROwn W' X sv' (us ++ [u]) (l ++ [v]) ∧ W.grownBy W' sv.ownBlock := by
  obtain ⟨i0, hi, hz0, hz1, hz2⟩ := info_parts7 infoVl
  have hul := h.2.1
  obtain ⟨v', w', h2, h3, h4, h5⟩ := run_append_any W X 45 ty 34 i0 _ 1 16 Tryz.underlying45 hi hz0 hz1 hz2 rfl (by omega) sv us.length _ h.1 (some ⟨B, 0, none⟩) 1 1 [u] rfl (by intro e; cases e) (fun ad e j x hx => by
    injection e with e
    subst e
    have hj : j = 0 := by have := (List.getElem?_eq_some_iff.1 hx).1; simp at this; omega
    subst hj
    rw [Addr.add_lit]
    have e3 : (⟨B, 0 + 0, none⟩ : Addr) = ⟨B, 0, none⟩ := by simp
    rw [e3, cell_of_row _ _ _ _ _ _ hB]
    simpa using hx) (by intro x hx; simp at hx; subst hx; exact hu.one) (by simp [maxLen]; omega) (by omega) hX
  have hmv : ∀ {u : Value} {v : V}, Rep W (fun b => X ≤ b ∧ sv.ownBlock ≠ some b) u v → Rep w' (fun b => X ≤ b ∧ v'.ownBlock ≠ some b) u v := fun hr => by
    have h6 := hr.mono (ok' := fun b => (X ≤ b ∧ sv.ownBlock ≠ some b) ∧ b < W.heap.size) (fun b h1 h2 => ⟨h1, h2⟩)
    have h7 := h6.agree (w' := w') (fun b hb hlt => h4.block b hlt (fun e => hb.1.2 e.symm))
    exact h7.mono (fun b hb _ => ⟨hb.1.1, fun e => by
      rcases h5 with h5 | h5
      · exact hb.1.2 (h5 ▸ e)
      · rw [h5] at e; injection e with e; omega⟩)
  refine ⟨v', w', h2, ⟨by rw [List.length_append]; exact h3, by simp [hul], fun j h6 h7 => ?_⟩, h4⟩
  by_cases hj : j < us.length
  · rw [List.getElem_append_left hj, List.getElem_append_left (by omega)]
    exact hmv (h.2.2 j hj (by omega))
  · have hj2 : j = us.length := by simp at h6; omega
    subst hj2
    rw [List.getElem_append_right (by omega), List.getElem_append_right (by omega)]
    simp [hul]
    exact hmv hu
set_option maxRecDepth 100000 in
set_option maxHeartbeats 3200000 in
theorem valuesof_any (g : List Int → V) (ao : Option Addr) (fs : List Fld) (cap : Nat) (tag : Int) (w : World) (hr : FRow w ao fs) (hm : fs.length ≤ 64) (h5 : ∀ f ∈ fs, f.b.length ≤ 4096) (HV : ∀ b ∈ manyB tag fs, ValC g b) :
    Calls Tryz.prog 69 #[.slice ao fs.length cap, .int .i64 tag] w fun e w' => ∃ a c, e = .returned (.slice a ((manyB tag fs).map g).length c) ∧ RRow w' (fun b => w.heap.size ≤ b) a ((manyB tag fs).map g) ∧ SliceOk a ((manyB tag fs).map g).length c ∧ Below w.heap.size w w' := by
  have CM := hide (many2_any ao fs cap tag w hr (by omega) (fun f hf => by have := h5 f hf; omega))
  have hlen := many_len tag fs
  generalize manyB tag fs = bs at *
  clear hr h5
  go_enter Tryz.func69, Tryz.ntmps69
  go_wp2_with fail
  refine CM.out.mono ?_
  rintro ex w1 ⟨a, c, rfl, hbr, hb1⟩
  have HBR := hide hbr
  have H0 : Hid (ROwn w1 w1.heap.size (.slice none 0 0) [] ((bs.take 0).map g)) := rown_nil _ _
  have HBL := hide HV
  clear CM hbr HV
  go_wp2_with fail
  go_loopw [5, 12] (fun s5 s12 wr => ∃ (k : Nat) (u : Value) (us : List Value), k ≤ bs.length ∧ u = s5 ∧ s12 = .int .i64 k ∧ Hid (ROwn wr w1.heap.size u us ((bs.take k).map g)) ∧ Below w1.heap.size w1 wr) (fun _ s12 _ => bs.length - (intOf s12).toNat)
  case atStart => exact ⟨0, _, [], by omega, rfl, rfl, H0, Below.refl _ _⟩
  case round =>
    obtain ⟨k, u, us, hkl, rfl, rfl, HR, hbw⟩ := hrel
    clear H0
    by_cases h1 : k < bs.length
    · obtain ⟨b, rfl, hcc⟩ := HBR.out (by intro e; rw [e] at h1; simp at h1)
      obtain ⟨x, cx, hc1, hrow, hxn, hxl⟩ := hcc k h1
      have hblt : b < w1.heap.size := World.block_lt_of_cell? _ _ hc1
      have hc := (hbw.cell (p := ⟨b, k, none⟩) hblt).trans hc1
      have CV := hide (HBL.out bs[k] (List.getElem_mem h1) wr x cx (hrow.below hbw) hxn hxl)
      have hkey : Hid ((bs.take (k + 1)).map g = (bs.take k).map g ++ [g bs[k]]) := by
        show _ = _
        rw [List.take_succ_eq_append_getElem h1, List.map_append]; rfl
      clear hcc hc1 hrow hxn hxl
      generalize g bs[k] = y at *
      generalize bs[k].length = bl at *
      go_wp2_with fail
      refine CV.out.mono ?_
      rintro ex w3 ⟨h3, rfl, hr3, hb3⟩
      have hB4 : Below wr.heap.size wr (w3.alloc (.cells #[h3] 34)) := hb3.alloc hb3.size _
      have hz := hbw.size
      have hS0 := HR.out
      have hS4 := hS0.below hB4
      have hr4 : Rep (w3.alloc (.cells #[h3] 34)) (fun c => w1.heap.size ≤ c ∧ u.ownBlock ≠ some c) h3 y := (hr3.stays ((Below.refl _ _).alloc (Nat.le_refl _) _)).mono (fun c h4 _ => ⟨by omega, fun e => by have := (hS0.own c e).2; omega⟩)
      have hone := hr3.one
      obtain ⟨u5, w5, hrun, hS5, hg5⟩ := append_val1 hS4 (heap_alloc_new _ _) hr4 (by have := hB4.size; omega) (by simp; omega) 45
      have hB5 : Below w1.heap.size w1 w5 := (hbw.trans (hB4.mono hz)).grown hg5 (by have := hB4.size; omega) (fun b hb => (hS4.own b hb).1)
      have H5 : Hid (ROwn w5 w1.heap.size u5 (us ++ [h3]) ((bs.take (k + 1)).map g)) := by
        have e := hkey.out
        show ROwn _ _ _ _ _
        rw [e]; exact hS5
      clear hS4 hS5 hg5 hB4 HR hkey hS0 hr4 hr3 hb3 CV hc
      go_wp2_with (at_builtin; go_must (refine wpList_append_run rfl _ _ 45 rfl _ _ rfl rfl hrun ?_))
      go_roundw
      case measure => simp [intOf]; omega
      case rel => exact ⟨k + 1, u5, us ++ [h3], by omega, rfl, by simp, H5, hB5⟩
    · obtain rfl : k = bs.length := by omega
      have H := HR.out
      rw [List.take_length] at H
      obtain ⟨a9, c9, rfl, hs9, hr9⟩ := H.row (ok := fun b => w.heap.size ≤ b) (fun b hb => by have := hb1.size; omega)
      have HF := hide (And.intro hs9 hr9)
      have hB9 := hb1.trans (hbw.mono hb1.size)
      clear HR H hs9 hr9
      go_wp2_with fail
      go_ret
      exact ⟨_, _, rfl, HF.out.2, HF.out.1, hB9⟩
end Go.Proofs.YtepohbcpepkboaaGreat

