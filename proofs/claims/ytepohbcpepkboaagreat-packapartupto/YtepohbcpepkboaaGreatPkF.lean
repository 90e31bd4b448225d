/- A value's message's fields, made. Conditions: a clean value of at most 1048576 values and letters; the contract of each of those that stand in it. -/
import Derived.Test.YtepohbcpepkboaaGreatPkE
import Derived.Test.YtepohbcpepkboaaGreatVTree
import Derived.Test.YtepohbcpepkboaaGreatVMeas
namespace Go.Proofs.YtepohbcpepkboaaGreat
open Go.RowKit Go.Maps Go.WideMaps

set_option maxRecDepth 100000 in
/-- A row of one field, laid at once. -/
theorem pfd_lit {W : World} {base B : Nat} (f : Fld) (hf : f.ok) (hb : f.b = []) (hX : base ≤ B) (h : W.heap[B]? = some (.cells #[.int .i64 f.tag, .bool f.isB, .int .u64 f.n, .slice none 0 0] 149)) : PFd W base (.slice (some ⟨B, 0, none⟩) 1 1) [(f, none, 0)] := by
  refine ⟨⟨⟨by simp [cellsP, pcells], Or.inr ⟨B, 1, _, rfl, hX, h, Nat.le_refl _, by simp [maxLen], rfl, ?_⟩⟩, ?_, ?_, ?_⟩, ?_⟩
  · simp [cellsP, pcells, hb]
  · intro p hp; simp at hp; subst hp; exact hf
  · intro p hp; simp at hp; subst hp
    refine ⟨by rw [hb]; exact Row.nil _ _, fun _ => ⟨by simp [hb], rfl⟩, by simp [hb], by simp [maxLen]⟩
  · intro p hp hne; simp at hp; subst hp; exact absurd hb hne
  · intro p hp hne; simp at hp; subst hp; exact absurd hb hne
set_option maxRecDepth 100000 in
theorem keys_bulk : ∀ q : List ByteArray, q.length ≤ (q.map (fun x => 1 + x.size)).sum ∧ ∀ x ∈ q, x.size ≤ (q.map (fun x => 1 + x.size)).sum
  | [] => by simp
  | y :: r => by
    have h := keys_bulk r
    simp only [List.map_cons, List.sum_cons, List.length_cons]
    refine ⟨by omega, fun x hx => ?_⟩
    rcases List.mem_cons.1 hx with rfl | hx
    · omega
    · have := h.2 x hx; omega
set_option maxRecDepth 100000 in
theorem u64_wrap (k : Int) (h0 : 0 ≤ k) (h1 : k ≤ 7) : IntKind.u64.wrap k = k := by
  have h : k = 0 ∨ k = 1 ∨ k = 2 ∨ k = 3 ∨ k = 4 ∨ k = 5 ∨ k = 6 ∨ k = 7 := by omega
  rcases h with rfl | rfl | rfl | rfl | rfl | rfl | rfl | rfl <;> rfl
set_option maxRecDepth 100000 in
set_option maxHeartbeats 12800000 in
theorem fields_any {W : World} {P : Nat} {h : Value} {v : V} {e : Int} (HB : ∀ x ∈ v.l, BytesC P x) (hr : Rep W (fun b => b < W.heap.size ∧ b ≠ P) h v) (hpb : PB W P e) (hcl : v.cl) (hnk : v.nok) (hbk : v.bulk ≤ 1048576) :
    Calls Tryz.prog 52 #[.pointer (some ⟨P, 0, none⟩), .agg #[h]] W fun ex W' => ∃ lv' qs, ex = .returned lv' ∧ PFd W' W.heap.size lv' qs ∧ qs.map (·.1) = v.packF ∧ PB W' P (errOf e (v.l.any V.packX)) ∧ Pm P W W' := by
  obtain ⟨hk0, hk7⟩ := cl_kind hcl
  have hwr := u64_wrap v.k hk0 hk7
  have hone := hr.one
  have hP := hpb.lt
  have hll : v.l.length ≤ 1048576 := by
    obtain ⟨k, b, n, m, t, l, q⟩ := v
    have := len_le_bulkL l; simp only [V.bulk] at hbk; simp only; omega
  have hql : v.keys.length ≤ 1048576 ∧ ∀ x ∈ v.keys, x.size ≤ 1048576 := by
    obtain ⟨k, b, n, m, t, l, q⟩ := v
    simp only [V.bulk] at hbk
    have hs := keys_bulk q
    exact ⟨by simp only; omega, fun x hx => by have := hs.2 x hx; omega⟩
  have hsz : v.s.size ≤ 1048576 := by
    obtain ⟨k, b, n, m, t, l, q⟩ := v
    simp only [V.bulk] at hbk; simp only; omega
  have hnk2 := ((nok_eq v).1 hnk).1
  have HCL : Hid (v.k ≠ 6 → v.k ≠ 7 → v.l = []) := fun h6 h7 => by
    cases v; simp only [V.cl] at hcl; exact hcl.2.2.2.2.2.1 h6 h7
  have HBH : Hid (∀ x ∈ v.l, BytesC P x) := HB
  have hW0 : Below W.heap.size W (W.alloc (.cells #[h] 34)) := (Below.refl _ _).alloc (Nat.le_refl _) _
  have HX : Hid (∀ W', Below (W.alloc (.cells #[h] 34)).heap.size (W.alloc (.cells #[h] 34)) W' → W'.cell? ⟨W.heap.size, 0, none⟩ = some h ∧ Below W.heap.size W W') := fun W' hW => by
    have e1 := heap_alloc_new W (.cells #[h] 34)
    exact ⟨cell_of_row _ _ 0 _ _ _ ((hW.block _ (Array.getElem?_eq_some_iff.1 e1).1).trans e1), hW0.trans (hW.mono hW0.size)⟩
  clear HB hcl hnk hbk hW0
  go_enter Tryz.func52, Tryz.ntmps52
  go_wp2_with fail
  refine (kind_any hr _).mono ?_
  rintro ex w1 ⟨rfl, hb1⟩
  go_wp2_with fail
  refine (num_any 1 v.k w1).mono ?_
  rintro ex w2 ⟨rfl, hb2⟩
  have hbl : Below (W.alloc (.cells #[h] 34)).heap.size (W.alloc (.cells #[h] 34)) (w2.alloc (.cells #[.int .i64 1, .bool false, .int .u64 v.k, .slice none 0 0] 149)) := (hb1.trans (hb2.mono hb1.size)).alloc (by have := hb1.size; have := hb2.size; omega) _
  have hXB : W.heap.size + 1 ≤ w2.heap.size := by
    have h1 := hb1.size; have h2 := hb2.size
    have h3 : (W.alloc (.cells #[h] 34)).heap.size = W.heap.size + 1 := by simp
    omega
  have hL : PFd (w2.alloc (.cells #[.int .i64 1, .bool false, .int .u64 v.k, .slice none 0 0] 149)) (W.heap.size + 1) (.slice (some ⟨w2.heap.size, 0, none⟩) 1 1) [((⟨1, false, v.k, []⟩ : Fld), none, 0)] := pfd_lit ⟨1, false, v.k, []⟩ (by simp [Fld.ok]; omega) rfl hXB (heap_alloc_new _ _)
  obtain ⟨hc0, hBl⟩ := HX.out _ hbl
  go_wp2_with fail
  refine (kind_any hr _).mono ?_
  rintro ex w3 ⟨rfl, hb3⟩
  have hb3' := hbl.trans (hb3.mono hbl.size)
  have hL3 := hL.below hb3
  have hz3 : W.heap.size + 1 ≤ w3.heap.size := by
    have h1 := hb3'.size
    have h3 : (W.alloc (.cells #[h] 34)).heap.size = W.heap.size + 1 := by simp
    omega
  clear hb1 hb2 hbl hL hc0 hBl hb3
  obtain ⟨hc0, hB3⟩ := HX.out _ hb3'
  generalize (Value.slice (some ⟨w2.heap.size, 0, none⟩) 1 1) = lv at *
  by_cases h2 : v.k = 2
  · have hb2 : (v.k == 2) = true := by simpa using h2
    have hl0 : v.l = [] := HCL.out (by omega) (by omega)
    have hgb : v.gb = v.b := by simp [V.gb, h2]
    have hbit : 0 ≤ (if v.b then (1 : Int) else 0) ∧ (if v.b then (1 : Int) else 0) ≤ 1 := by cases v.b <;> simp
    have HF : Hid (List.map (fun z : Fld × Option Addr × Nat => z.1) ([((⟨1, false, v.k, []⟩ : Fld), (none : Option Addr), 0)] ++ [((⟨2, false, if v.b then 1 else 0, []⟩ : Fld), none, 0)]) = v.packF) := by
      show _ = _
      simp [V.packF, packH, h2, hl0, packGo]
    clear h2
    go_wp2_with fail
    refine (gbool_any hr _).mono ?_
    rintro ex w4 ⟨rfl, hb4⟩
    go_wp2_with fail
    refine (bit_any _ _).mono ?_
    rintro ex w5 ⟨rfl, rfl⟩
    generalize (if v.b = true then (1 : Int) else 0) = bit at *
    go_wp2_with fail
    refine (num_any 2 bit w4).mono ?_
    rintro ex w6 ⟨rfl, hb6⟩
    have hbz := hb4.trans (hb6.mono hb4.size)
    clear hb4 hb6
    have hB7 : Below w3.heap.size w3 (w6.alloc (.cells #[.int .i64 2, .bool false, .int .u64 bit, .slice none 0 0] 149)) := hbz.alloc hbz.size _
    obtain ⟨u7, w7, hrun, hP7, hg7, -⟩ := append_flds (hL3.below hB7) (by have := hB3.size; have := hB7.size; omega) [((⟨2, false, bit, []⟩ : Fld), none, 0)] (B := w6.heap.size) (by simp only [cellsP, pcells, List.map_cons, List.map_nil, List.flatten_cons, List.flatten_nil, List.append_nil]; exact heap_alloc_new _ _)
      (by intro p hp; simp at hp; subst hp; simp [Fld.ok]; omega)
      (by intro p hp; simp at hp; subst hp; exact ⟨Row.nil _ _, fun _ => ⟨rfl, rfl⟩, Nat.le_refl _, by simp [maxLen]⟩)
      (by intro p hp hne; simp at hp; subst hp; simp at hne) (by simp) 1 1 rfl 102
    have hBW7 : Below W.heap.size W w7 := (hB3.trans (hB7.mono hB3.size)).grown hg7 (by have := hB3.size; have := hB7.size; omega) (fun b hb => by have := ((hL3.below hB7).own b hb).1; omega)
    have hFIN : Hid (PB w7 P (errOf e (v.l.any V.packX)) ∧ Pm P W w7) := ⟨by rw [hl0, List.any_nil, errOf_no]; exact hpb.below hBW7, Pm.of hBW7⟩
    clear hB7 hbz hg7 hBW7 hc0
    go_wp2_with (at_builtin; go_must (refine wpList_append_run rfl _ _ 102 rfl _ _ rfl rfl hrun ?_))
    go_ret
    exact ⟨_, _, rfl, hP7.low (by omega), HF.out, hFIN.out.1, hFIN.out.2⟩
  have hb2 : (v.k == 2) = false := by simpa using h2
  by_cases h3 : v.k = 3
  · have hb3 : (v.k == 3) = true := by simpa using h3
    have hl0 : v.l = [] := HCL.out (by omega) (by omega)
    have hgn : v.gn = v.n := by simp [V.gn, h3]
    have hz := zigv_bound v.n hnk2.1.1 hnk2.1.2
    have HF : Hid (List.map (fun z : Fld × Option Addr × Nat => z.1) ([((⟨1, false, v.k, []⟩ : Fld), (none : Option Addr), 0)] ++ [((⟨2, false, zigv v.n, []⟩ : Fld), none, 0)]) = v.packF) := by
      show _ = _
      simp [V.packF, packH, h3, hl0, packGo]
    clear h3
    go_wp2_with fail
    refine (gint_any hr _).mono ?_
    rintro ex w4 ⟨rfl, hb4⟩
    go_wp2_with fail
    refine (zig_any v.n w4 hnk2.1.1 hnk2.1.2).mono ?_
    rintro ex w5 ⟨rfl, rfl⟩
    generalize zigv v.n = z at *
    go_wp2_with fail
    refine (num_any 2 z w4).mono ?_
    rintro ex w6 ⟨rfl, hb6⟩
    have hbz := hb4.trans (hb6.mono hb4.size)
    clear hb4 hb6
    have hB7 : Below w3.heap.size w3 (w6.alloc (.cells #[.int .i64 2, .bool false, .int .u64 z, .slice none 0 0] 149)) := hbz.alloc hbz.size _
    obtain ⟨u7, w7, hrun, hP7, hg7, -⟩ := append_flds (hL3.below hB7) (by have := hB3.size; have := hB7.size; omega) [((⟨2, false, z, []⟩ : Fld), none, 0)] (B := w6.heap.size) (by simp only [cellsP, pcells, List.map_cons, List.map_nil, List.flatten_cons, List.flatten_nil, List.append_nil]; exact heap_alloc_new _ _)
      (by intro p hp; simp at hp; subst hp; simp [Fld.ok]; omega)
      (by intro p hp; simp at hp; subst hp; exact ⟨Row.nil _ _, fun _ => ⟨rfl, rfl⟩, Nat.le_refl _, by simp [maxLen]⟩)
      (by intro p hp hne; simp at hp; subst hp; simp at hne) (by simp) 1 1 rfl 102
    have hBW7 : Below W.heap.size W w7 := (hB3.trans (hB7.mono hB3.size)).grown hg7 (by have := hB3.size; have := hB7.size; omega) (fun b hb => by have := ((hL3.below hB7).own b hb).1; omega)
    have hFIN : Hid (PB w7 P (errOf e (v.l.any V.packX)) ∧ Pm P W w7) := ⟨by rw [hl0, List.any_nil, errOf_no]; exact hpb.below hBW7, Pm.of hBW7⟩
    clear hB7 hbz hg7 hBW7 hc0
    go_wp2_with (at_builtin; go_must (refine wpList_append_run rfl _ _ 102 rfl _ _ rfl rfl hrun ?_))
    go_ret
    exact ⟨_, _, rfl, hP7.low (by omega), HF.out, hFIN.out.1, hFIN.out.2⟩
  have hb3 : (v.k == 3) = false := by simpa using h3
  by_cases h4 : v.k = 4
  · have hb4 : (v.k == 4) = true := by simpa using h4
    have hl0 : v.l = [] := HCL.out (by omega) (by omega)
    have hgn : v.gre = v.n := by simp [V.gre, h4]
    have hgm : v.gim = v.m := by simp [V.gim, h4]
    have hz := zigv_bound v.n hnk2.1.1 hnk2.1.2
    have hz2 := zigv_bound v.m hnk2.2.1 hnk2.2.2
    have HF : Hid (List.map (fun z : Fld × Option Addr × Nat => z.1) ([((⟨1, false, v.k, []⟩ : Fld), (none : Option Addr), 0)] ++ [((⟨2, false, zigv v.n, []⟩ : Fld), none, 0), ((⟨3, false, zigv v.m, []⟩ : Fld), none, 0)]) = v.packF) := by
      show _ = _
      simp [V.packF, packH, h4, hl0, packGo]
    clear h4
    go_wp2_with fail
    refine (gpoint_any hr _).mono ?_
    rintro ex w4 ⟨rfl, hb4⟩
    go_wp2_with fail
    refine (zig_any v.n w4 hnk2.1.1 hnk2.1.2).mono ?_
    rintro ex w5 ⟨rfl, rfl⟩
    generalize zigv v.n = z at *
    go_wp2_with fail
    refine (num_any 2 z w4).mono ?_
    rintro ex w5 ⟨rfl, hb5⟩
    go_wp2_with fail
    refine (zig_any v.m w5 hnk2.2.1 hnk2.2.2).mono ?_
    rintro ex w8 ⟨rfl, rfl⟩
    generalize zigv v.m = z2 at *
    go_wp2_with fail
    refine (num_any 3 z2 w5).mono ?_
    rintro ex w6 ⟨rfl, hb6⟩
    have hb45 := hb4.trans (hb5.mono hb4.size)
    have hbz := hb45.trans (hb6.mono hb45.size)
    clear hb4 hb6 hb5 hb45
    have hB7 : Below w3.heap.size w3 (w6.alloc (.cells #[.int .i64 2, .bool false, .int .u64 z, .slice none 0 0, .int .i64 3, .bool false, .int .u64 z2, .slice none 0 0] 149)) := hbz.alloc hbz.size _
    obtain ⟨u7, w7, hrun, hP7, hg7, -⟩ := append_flds (hL3.below hB7) (by have := hB3.size; have := hB7.size; omega) [((⟨2, false, z, []⟩ : Fld), none, 0), ((⟨3, false, z2, []⟩ : Fld), none, 0)] (B := w6.heap.size) (by simp only [cellsP, pcells, List.map_cons, List.map_nil, List.flatten_cons, List.flatten_nil, List.append_nil, List.cons_append, List.nil_append]; exact heap_alloc_new _ _)
      (by intro p hp; simp at hp; rcases hp with rfl | rfl <;> (simp [Fld.ok]; omega))
      (by intro p hp; simp at hp; rcases hp with rfl | rfl <;> exact ⟨Row.nil _ _, fun _ => ⟨rfl, rfl⟩, Nat.le_refl _, by simp [maxLen]⟩)
      (by intro p hp hne; simp at hp; rcases hp with rfl | rfl <;> simp at hne) (by simp) 2 2 rfl 102
    have hBW7 : Below W.heap.size W w7 := (hB3.trans (hB7.mono hB3.size)).grown hg7 (by have := hB3.size; have := hB7.size; omega) (fun b hb => by have := ((hL3.below hB7).own b hb).1; omega)
    have hFIN : Hid (PB w7 P (errOf e (v.l.any V.packX)) ∧ Pm P W w7) := ⟨by rw [hl0, List.any_nil, errOf_no]; exact hpb.below hBW7, Pm.of hBW7⟩
    clear hB7 hbz hg7 hBW7 hc0
    go_wp2_with (at_builtin; go_must (refine wpList_append_run rfl _ _ 102 rfl _ _ rfl rfl hrun ?_))
    go_ret
    exact ⟨_, _, rfl, hP7.low (by omega), HF.out, hFIN.out.1, hFIN.out.2⟩
  have hb4 : (v.k == 4) = false := by simpa using h4
  by_cases h5 : v.k = 5
  · have hb5 : (v.k == 5) = true := by simpa using h5
    have hl0 : v.l = [] := HCL.out (by omega) (by omega)
    have hgs : v.gs = v.s := by simp [V.gs, h5]
    have HF : Hid (∀ a3 c3, List.map (fun z : Fld × Option Addr × Nat => z.1) ([((⟨1, false, v.k, []⟩ : Fld), (none : Option Addr), 0)] ++ [((⟨4, true, 0, bsI v.s⟩ : Fld), (a3 : Option Addr), (c3 : Nat))]) = v.packF) := fun a3 c3 => by
      simp [V.packF, packH, h5, hl0, packGo]
    clear h5
    go_wp2_with fail
    refine (gtext_any hr _).mono ?_
    rintro ex w4 ⟨rfl, hb4⟩
    obtain ⟨cap, w5, hcv, hrow, hb5, hlt5, hc1, hc2⟩ := conv_sb w4 v.s hsz
    go_wp2_with fail
    refine (blob_any 4 _ (bsI v.s) cap w5 hrow (by intro e; cases e) (by rw [bsI_len]; omega)).mono ?_
    rintro ex w6 ⟨a3, c3, rfl, hr3, hn3, hl3, hm3, hf3, hb6⟩
    have hb45 := hb4.trans (hb5.mono hb4.size)
    have hbz := hb45.trans (hb6.mono hb45.size)
    clear hb4 hb6 hb5 hrow hlt5 hc1 hc2 hcv
    have hB7 : Below w3.heap.size w3 (w6.alloc (.cells #[.int .i64 4, .bool true, .int .u64 0, .slice a3 (bsI v.s).length c3] 149)) := hbz.alloc hbz.size _
    obtain ⟨u7, w7, hrun, hP7, hg7, -⟩ := append_flds (hL3.below hB7) (by have := hB3.size; have := hB7.size; omega) [((⟨4, true, 0, bsI v.s⟩ : Fld), a3, c3)] (B := w6.heap.size) (by simp only [cellsP, pcells, List.map_cons, List.map_nil, List.flatten_cons, List.flatten_nil, List.append_nil]; exact heap_alloc_new _ _)
      (by intro p hp; simp at hp; subst hp; simp [Fld.ok])
      (by intro p hp; simp at hp; subst hp; exact ⟨hr3.below ((Below.refl _ _).alloc (Nat.le_refl _) _), hn3, hl3, hm3⟩)
      (by
        intro p hp hne y hy
        simp at hp; subst hp
        have h2 := hf3 y hy
        have h5 := hB3.size
        have h6 := hb45.size
        refine ⟨by omega, fun e => ?_⟩
        have h4 := (hL3.own y.block e.symm).2
        omega) (by simp) 1 1 rfl 102
    have hBW7 : Below W.heap.size W w7 := (hB3.trans (hB7.mono hB3.size)).grown hg7 (by have := hB3.size; have := hB7.size; omega) (fun b hb => by have := ((hL3.below hB7).own b hb).1; omega)
    have hFIN : Hid (PB w7 P (errOf e (v.l.any V.packX)) ∧ Pm P W w7) := ⟨by rw [hl0, List.any_nil, errOf_no]; exact hpb.below hBW7, Pm.of hBW7⟩
    clear hB7 hbz hg7 hBW7 hc0
    go_wp2_with (at_builtin; go_must (refine wpList_append_run rfl _ _ 102 rfl _ _ rfl rfl hrun ?_))
    go_ret
    exact ⟨_, _, rfl, hP7.low (by omega), HF.out a3 c3, hFIN.out.1, hFIN.out.2⟩
  have hb5 : (v.k == 5) = false := by simpa using h5
  by_cases h6 : v.k = 6
  · have hb6 : (v.k == 6) = true := by simpa using h6
    have HF : Hid (∀ qs : List (Fld × Option Addr × Nat), qs.map (·.1) = v.l.map (fun x => ⟨5, true, 0, x.packB⟩) → List.map (fun z : Fld × Option Addr × Nat => z.1) ([((⟨1, false, v.k, []⟩ : Fld), (none : Option Addr), 0)] ++ qs) = v.packF) := fun qs hq => by
      rw [List.map_append, hq]
      simp [V.packF, packH, h6, packGo, tagOf]
    have hrW : Rep w3 (fun b => b < W.heap.size + 1 ∧ b ≠ P) h v := (hr.agree (fun b hb _ => hB3.block b hb.1)).mono (fun b h1 _ => ⟨by omega, h1.2⟩)
    have CP := hide (pitems_any HBH.out hrW hL3 hz3 (by omega) (hpb.below hB3) hll (by simp) (tag := 5) (by omega))
    clear h6
    go_wp2_with fail
    refine CP.out.mono ?_
    rintro ex w7 ⟨lv7, qs, rfl, hP7, hq7, hp7, hm7⟩
    clear CP
    go_wp2_with fail
    go_ret
    exact ⟨_, _, rfl, hP7.low (by omega), HF.out qs hq7, hp7, ((Bm.below hB3).trans (hm7.low (by omega))).pm⟩
  by_cases h7 : v.k = 7
  · have hb6 : (v.k == 6) = false := by simpa using h6
    have hb7 : (v.k == 7) = true := by simpa using h7
    have HF : Hid (∀ qs qs2 : List (Fld × Option Addr × Nat), qs.map (·.1) = v.keys.map (fun x => ⟨6, true, 0, bsI x⟩) → qs2.map (·.1) = v.l.map (fun x => ⟨7, true, 0, x.packB⟩) → List.map (fun z : Fld × Option Addr × Nat => z.1) ([((⟨1, false, v.k, []⟩ : Fld), (none : Option Addr), 0)] ++ qs ++ qs2) = v.packF) := fun qs qs2 hq hq2 => by
      rw [List.map_append, List.map_append, hq, hq2]
      simp [V.packF, packH, h7, packGo, tagOf]
    clear h7
    go_wp2_with fail
    have hDB0 : Below w3.heap.size w3 w3.drew := (Below.refl _ _).drew
    refine wp_region_held_drew (S := fun W' => Bm (W.heap.size + 1) P w3 W' ∧ W'.cell? ⟨W.heap.size, 0, none⟩ = some h) (by kernel_rfl) ⟨Bm.below (hDB0.mono hz3), hc0⟩ (fun hSS => ?_)
    have hL4 := hL3.below hDB0
    have hB4 := hB3.trans (hDB0.mono hB3.size)
    have hz4 : W.heap.size + 1 ≤ w3.drew.heap.size := by have := hDB0.size; omega
    clear hDB0
    generalize w3.drew = V0 at *
    refine wpAnyH_take (i := 0) (v := ?_) rfl (by kernel_rfl) (by kernel_rfl) (by kernel_rfl) (fun _ _ _ h => h) (Or.inl ⟨by rfl, ?_⟩) hSS ?_
    rotate_left
    · intro wz hSz
      go_simp
      try with_reducible rfl
    simp only [List.getElem_toArray, List.getElem_cons_zero, Act.put, List.setIfInBounds_toArray, List.set_cons_zero, List.set_cons_succ]
    refine wpAnyH_take (i := 1) (v := ?_) rfl (by kernel_rfl) (by kernel_rfl) (by kernel_rfl) (fun _ _ _ h => h) (Or.inl ⟨by rfl, ?_⟩) hSS ?_
    rotate_left
    · intro wz hSz
      go_simp
      try with_reducible rfl
    simp only [List.getElem_toArray, List.getElem_cons_zero, List.getElem_cons_succ, Act.put, List.setIfInBounds_toArray, List.set_cons_zero, List.set_cons_succ]
    refine wpAnyH_take (i := 2) (v := ?_) rfl (by kernel_rfl) (by kernel_rfl) (by kernel_rfl) (fun _ _ _ h => h) (Or.inl ⟨by rfl, ?_⟩) hSS ?_
    rotate_left
    · intro wz hSz
      have hSz2 := hSz.2
      go_simp
      try with_reducible rfl
    simp only [List.getElem_toArray, List.getElem_cons_zero, List.getElem_cons_succ, Act.put, List.setIfInBounds_toArray, List.set_cons_zero, List.set_cons_succ]
    refine wpAnyH_take (i := 4) (v := ?_) rfl (by kernel_rfl) (by kernel_rfl) (by kernel_rfl) (fun _ _ _ h => h) (Or.inl ⟨by rfl, ?_⟩) hSS ?_
    rotate_left
    · intro wz hSz
      have hSz2 := hSz.2
      go_simp
      try with_reducible rfl
    simp only [List.getElem_toArray, List.getElem_cons_zero, List.getElem_cons_succ, Act.put, List.setIfInBounds_toArray, List.set_cons_zero, List.set_cons_succ]
    refine wpAnyH_ready (rs := [3]) (by kernel_rfl) (by simp) (AllReadyH.cons rfl (fun K1 hK1 => ?_) AllReadyH.nil)
    refine step_plain (by rfl) ?_
    simp only [List.getElem_toArray, List.getElem_cons_zero, List.getElem_cons_succ]
    go_simp
    go_at_call 88
    have hrV0 := hr.agree (w' := V0) (fun b hb _ => hB4.block b hb.1)
    refine (keys_any (hrV0.mono (fun b hb _ => by have := hb.1; omega)) hL4 hz4 hql.1 hql.2 (by simp)).mono ?_
    rintro ex w5 ⟨lv5, qs, rfl, hP5, hq5, hb5⟩
    have hB5 := hB4.trans (hb5.mono (by omega))
    have hz5 : W.heap.size + 1 ≤ w5.heap.size := by have := hb5.size; omega
    go_simp
    refine hK1.out _ _ ⟨hSS.1.trans (Bm.below hb5), (hb5.cell (p := ⟨W.heap.size, 0, none⟩) (by show W.heap.size < _; omega)).trans hSS.2⟩ (fun hSS => ?_)
    clear hK1 hL4
    have hrW : Rep w5 (fun b => b < W.heap.size + 1 ∧ b ≠ P) h v := (hr.agree (fun b hb _ => hB5.block b hb.1)).mono (fun b h1 _ => ⟨by have := h1.1; omega, h1.2⟩)
    have hqn : qs.length = v.keys.length := by have e := congrArg List.length hq5; simpa using e
    refine wpAnyH_ready (rs := [5]) (by kernel_rfl) (by simp) (AllReadyH.cons rfl (fun K2 hK2 => ?_) AllReadyH.nil)
    refine step_plain (by rfl) ?_
    simp only [List.getElem_toArray, List.getElem_cons_zero, List.getElem_cons_succ]
    go_simp
    go_at_call 87
    refine (pitems_any HBH.out hrW hP5 hz5 (by omega) (hpb.below hB5) hll (by simp; omega) (tag := 7) (by omega)).mono ?_
    rintro ex w7 ⟨lv7, qs2, rfl, hP7, hq7, hp7, hm7⟩
    go_simp
    refine hK2.out _ _ ⟨hSS.1.trans hm7, ?_⟩ (fun hSS => ?_)
    · refine (World.cell?_of_block ?_).trans hSS.2
      exact hm7.block W.heap.size (by omega) (by omega)
    have hFF := HF.out qs qs2 hq5 hq7
    have hmm := ((Bm.below (base := W.heap.size) (P := P) hB5).trans (hm7.low (by omega))).pm
    clear hK2 hP5 hq5 hb5 hq7 hm7 HF hrW
    refine wpAnyH_take (i := 6) (v := ?_) rfl (by kernel_rfl) (by kernel_rfl) (by kernel_rfl) (fun _ _ _ h => h) (Or.inl ⟨by rfl, ?_⟩) hSS ?_
    rotate_left
    · intro wz hSz
      go_simp
      try with_reducible rfl
    simp only [List.getElem_toArray, List.getElem_cons_zero, List.getElem_cons_succ, Act.put, List.setIfInBounds_toArray, List.set_cons_zero, List.set_cons_succ]
    refine wpAnyH_done (by kernel_rfl) ?_ _
    go_wp2_with fail
    go_ret
    exact ⟨_, _, rfl, hP7.low (by omega), hFF, hp7, hmm⟩
  have hl0 : v.l = [] := HCL.out h6 h7
  have HF : Hid (List.map (fun z : Fld × Option Addr × Nat => z.1) ([((⟨1, false, v.k, []⟩ : Fld), (none : Option Addr), 0)]) = v.packF) := by
    show _ = _
    simp [V.packF, packH, h2, h3, h4, h5, h7, hl0, packGo]
  have hb6 : (v.k == 6) = false := by simpa using h6
  have hb7 : (v.k == 7) = false := by simpa using h7
  clear h6 h7 h2 h3 h4 h5
  go_wp2_with fail
  go_ret
  exact ⟨_, _, rfl, hL3.low (by omega), HF.out, by rw [hl0, List.any_nil, errOf_no]; exact hpb.below hB3, Pm.of hB3⟩
end Go.Proofs.YtepohbcpepkboaaGreat

