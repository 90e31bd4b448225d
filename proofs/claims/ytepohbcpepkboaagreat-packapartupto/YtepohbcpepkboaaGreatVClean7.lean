/- What the document's Clean makes of a Map: a clean one, in memory of its own. Condition: a value of at most 1048576 values and letters. -/
import Derived.Test.YtepohbcpepkboaaGreatVCleanB
import Derived.Deep.RegionHeld
import Derived.Deep.RegionLaw
import Derived.Deep.CutRange
namespace Go.Proofs.YtepohbcpepkboaaGreat
open Go.RowKit Go.Maps Go.WideMaps
set_option maxRecDepth 100000 in
set_option maxHeartbeats 6400000 in
theorem clean_map {w0 : World} {ok : Nat → Prop} {b : Bool} {n m : Int} {s : ByteArray} {l : List V} {q : List ByteArray} {la ka : Option Addr} {lc kc : Nat} {P : Nat → VP} (hkeys : SRow w0 ok ka q) (hc : VCells w0 ok la l P) (w : World) (hb0 : Below w0.heap.size w0 w) (hbk : (V.mk 7 b n m s l q).bulk ≤ 1048576)
    (CC : Hid (∀ (W : World) (j : Nat) (hj : j < l.length), Below w0.heap.size w0 W → Calls Tryz.prog 9 #[l[j].val (P j)] W fun e w' => ∃ p', e = .returned (l[j].clean.val p') ∧ VIn w' (fun b => W.heap.size ≤ b) l[j].clean p' ∧ Below W.heap.size W w')) :
    Calls Tryz.prog 9 #[(V.mk 7 b n m s l q).val ⟨la, lc, ka, kc⟩] w fun e w' => ∃ p', e = .returned ((V.mk 7 b n m s l q).clean.val p') ∧ VIn w' (fun b => w.heap.size ≤ b) (V.mk 7 b n m s l q).clean p' ∧ Below w.heap.size w w' := by
  have hB0 := BC.start w (V.mk 7 b n m s l q) ⟨la, lc, ka, kc⟩
  unfold V.val
  dsimp only [V.k, V.b, V.n, V.m, V.s, V.l, V.keys] at *
  have hll : l.length ≤ 1048576 := by have := len_le_bulkL l; simp only [V.bulk] at hbk; omega
  have hql : q.length ≤ 1048576 := by have := keys_len q; simp only [V.bulk] at hbk; omega
  have HC : Hid ((V.mk 7 b n m s l q).clean = .mk 7 false 0 0 ByteArray.empty (insAll (q.zip (V.clean.go l)) [] []).2 (insAll (q.zip (V.clean.go l)) [] []).1) := by show V.clean _ = _; simp [V.clean]
  have HZ : Hid (∀ j (hj : j < l.length) (hq : j < q.length), ∃ hz : j < (q.zip (V.clean.go l)).length, (q.zip (V.clean.go l))[j] = (q[j], l[j].clean)) := fun j hj hq => ⟨by rw [List.length_zip, cleanL_map, List.length_map]; omega, by simp only [List.getElem_zip, cleanL_map, List.getElem_map]⟩
  have HL : Hid ((q.zip (V.clean.go l)).length = min q.length l.length) := by show List.length _ = _; rw [List.length_zip, cleanL_map, List.length_map]
  obtain ⟨i0, hi, hz0, hz1, hz2⟩ := info_parts7 infoV
  have HX : Hid ((((w.alloc (.cells #[.int .i64 7, .bool b, .int .i64 n, .int .i64 m, .string s, .slice la l.length lc, .slice ka q.length kc] 25)).alloc (.cells #[.int .i64 0, .bool false, .int .i64 0, .int .i64 0, .string ByteArray.empty, .slice none 0 0, .slice none 0 0] 25)).alloc (.cells #[.int .i64 7, .bool false, .int .i64 0, .int .i64 0, .string ByteArray.empty, .slice none 0 0, .slice none 0 0] 25)).heap[w.heap.size + 2]? = some (.cells #[.int .i64 7, .bool false, .int .i64 0, .int .i64 0, .string ByteArray.empty, .slice none 0 0, .slice none 0 0] 25 (0, 0))) := by
    have := heap_alloc_new ((w.alloc (.cells #[.int .i64 7, .bool b, .int .i64 n, .int .i64 m, .string s, .slice la l.length lc, .slice ka q.length kc] 25)).alloc (.cells #[.int .i64 0, .bool false, .int .i64 0, .int .i64 0, .string ByteArray.empty, .slice none 0 0, .slice none 0 0] 25)) (.cells #[.int .i64 7, .bool false, .int .i64 0, .int .i64 0, .string ByteArray.empty, .slice none 0 0, .slice none 0 0] 25)
    simp only [World.size_alloc] at this
    exact this
  have hB1 := hB0.below ((Below.refl _ _).alloc (Nat.le_refl _) (.cells #[.int .i64 7, .bool false, .int .i64 0, .int .i64 0, .string ByteArray.empty, .slice none 0 0, .slice none 0 0] 25))
  rw [HC.out]
  clear hbk hB0 HC
  generalize q.zip (V.clean.go l) = Z at *
  go_enter Tryz.func9, Tryz.ntmps9
  go_wp2_with fail
  go_loopw [6] (fun si wr => ∃ (j : Nat) (ks : List ByteArray) (vs : List V) (va : Option Addr) (vc : Nat) (xa : Option Addr) (xc : Nat), j ≤ l.length ∧ j ≤ q.length ∧ si = .int .i64 j ∧ Hid (insAll (Z.take j) [] [] = (ks, vs)) ∧ SRow wr (fun b => w.heap.size + 3 ≤ b) xa ks ∧ SliceOk xa ks.length xc ∧ VRow wr (fun b => w.heap.size + 3 ≤ b) va vs ∧ SliceOk va vs.length vc ∧ wr.heap[w.heap.size + 2]? = some (.cells #[.int .i64 7, .bool false, .int .i64 0, .int .i64 0, .string ByteArray.empty, .slice va vs.length vc, .slice xa ks.length xc] 25 (0, 0)) ∧ BC w wr (V.mk 7 b n m s l q) ⟨la, lc, ka, kc⟩) (fun si _ => l.length - (intOf si).toNat)
  case atStart => exact ⟨0, [], [], none, 0, none, 0, by omega, by omega, rfl, rfl, SRow.nil _ _ _, ⟨fun _ => ⟨rfl, rfl⟩, Nat.le_refl _, by simp [maxLen]⟩, VRow.nil _ _ _, ⟨fun _ => ⟨rfl, rfl⟩, Nat.le_refl _, by simp [maxLen]⟩, HX.out, hB1⟩
  case round =>
    obtain ⟨j, ks, vs, va, vc, xa, xc, hj, hjq, rfl, hid, hsr, hsk, hvr, hvk, hX, hB⟩ := hrel
    have b5 := hB.cells 5
    have b6 := hB.cells 6
    have x0 := cell_of_row _ _ 0 _ _ _ hX
    have x1 := cell_of_row _ _ 1 _ _ _ hX
    have x2 := cell_of_row _ _ 2 _ _ _ hX
    have x3 := cell_of_row _ _ 3 _ _ _ hX
    have x4 := cell_of_row _ _ 4 _ _ _ hX
    have x5 := cell_of_row _ _ 5 _ _ _ hX
    have x6 := cell_of_row _ _ 6 _ _ _ hX
    simp only [V.cells, List.getElem?_cons_succ, List.getElem?_cons_zero, List.getElem?_toArray] at b5 b6 x0 x1 x2 x3 x4 x5 x6
    clear hB1 HX
    by_cases hlt : j < l.length
    · by_cases hlq : j < q.length
      · clear x0 x1 x2 x3 x4
        obtain ⟨wo, rfl⟩ : ∃ wo, wo = wr := ⟨_, rfl⟩
        have hbw := hb0.trans (hB.2.2.mono hb0.size)
        obtain ⟨kb, ko, rfl, -, hkk⟩ := (hkeys.below hbw).2 (by intro e; subst e; simp at hlq)
        have hkj := hkk j hlq
        have hqm := hkeys.1 _ (List.getElem_mem hlq)
        obtain ⟨hzl, hzj⟩ := HZ.out j hlt hlq
        have hst := insAll_take hzl hid.out
        rw [hzj] at hst
        have HST : Hid (insAll (Z.take (j + 1)) [] [] = (insKeys q[j] ks, insVals q[j] l[j].clean ks vs)) := hst
        have hkl := insAll_len (Z.take j) [] [] rfl
        rw [hid.out] at hkl
        obtain ⟨hkv, hkn⟩ := hkl
        dsimp only at hkv hkn
        have HKV : Hid (ks.length = vs.length) := hkv
        have hkn' : ks.length ≤ 1048576 := by simp at hkn; omega
        have HRD : Hid (∀ W, Below wo.heap.size wo W → W.cell? ⟨kb, ko + j, none⟩ = some (.string q[j]) ∧ W.cell? ⟨w.heap.size, 6, none⟩ = some (.slice (some ⟨kb, ko, none⟩) q.length kc) ∧ W.cell? ⟨w.heap.size + 2, 6, none⟩ = some (.slice xa ks.length xc)) := fun W hW => ⟨(hW.cell (p := ⟨kb, ko + j, none⟩) (World.block_lt_of_cell? _ _ hkj)).trans hkj, (hW.cell (p := ⟨w.heap.size, 6, none⟩) (World.block_lt_of_cell? _ _ b6)).trans b6, (hW.cell (p := ⟨w.heap.size + 2, 6, none⟩) (World.block_lt_of_cell? _ _ x6)).trans x6⟩
        have HKC : Hid (∀ i (hi : i < ks.length), ∃ xb xo, xa = some ⟨xb, xo, none⟩ ∧ ∀ W, Below wo.heap.size wo W → W.cell? ⟨xb, xo + i, none⟩ = some (.string ks[i])) := fun i hi => by
          obtain ⟨xb, xo, e, -, hcc⟩ := hsr.2 (by intro e; subst e; simp at hi)
          exact ⟨xb, xo, e, fun W hW => (hW.cell (p := ⟨xb, xo + i, none⟩) (World.block_lt_of_cell? _ _ (hcc i hi))).trans (hcc i hi)⟩
        have HBL : Hid (∀ i, i < below q[j] ks → ∃ hi : i < ks.length, Op.bytesLess ks[i].toList q[j].toList = true) := fun i hi => ⟨by have := below_le q[j] ks; omega, by rw [lessB, ltB_iff]; exact below_lt q[j] ks i hi (by have := below_le q[j] ks; omega)⟩
        have HBA : Hid (∀ hi : below q[j] ks < ks.length, Op.bytesLess (ks[below q[j] ks]).toList q[j].toList = false) := fun hi => by
          rw [lessB]
          cases h : ltB ks[below q[j] ks] q[j]
          · rfl
          · exact absurd (ltB_iff.1 h) (below_at q[j] ks hi)
        have hbq : below q[j] ks ≤ ks.length := below_le _ _
        have hlt' : (j : Int) < (l.length : Int) := by omega
        have hlq' : (j : Int) < (q.length : Int) := by omega
        clear hkk hkj hid hzj hst hkeys hkn hkv
        go_wp2_with fail
        go_loopw [7] (fun sa wq => ∃ i : Nat, i ≤ below q[j] ks ∧ sa = .int .i64 i ∧ Below wo.heap.size wo wq) (fun sa _ => below q[j] ks - (intOf sa).toNat)
        case atStart => exact ⟨0, by omega, rfl, Below.refl _ _⟩
        case round =>
          obtain ⟨i, hib, rfl, hbi⟩ := hrel
          by_cases hlb : i < below q[j] ks
          · obtain ⟨hik, hless⟩ := HBL.out i hlb
            obtain ⟨xb, xo, rfl, HKI⟩ := HKC.out i hik
            have hik' : (i : Int) < (ks.length : Int) := by omega
            clear HBL HBA HKC
            generalize ks[i] = y at *
            go_upto_region 25 with fail
            refine wp_region_held_drew (S := fun w' => Below wo.heap.size wo w') (by kernel_rfl) (Below.drew hbi) (fun hSS => ?_)
            refine wpAnyH_take (i := 0) (v := ?_) rfl (by kernel_rfl) (by kernel_rfl) (by kernel_rfl) (fun _ _ _ h => h) (Or.inl ⟨by rfl, ?_⟩) hSS ?_
            rotate_left
            · intro wz hSz
              go_simp
              try with_reducible rfl
            simp only [List.getElem_toArray, List.getElem_cons_zero, Act.put, List.setIfInBounds_toArray, List.set_cons_zero, List.set_cons_succ]
            refine wpAnyH_take (i := 1) (v := ?_) rfl (by kernel_rfl) (by kernel_rfl) (by kernel_rfl) (fun _ _ _ h => h) (Or.inl ⟨by rfl, ?_⟩) hSS ?_
            rotate_left
            · intro wz hSz
              go_simp
              try with_reducible rfl
            simp only [List.getElem_toArray, List.getElem_cons_zero, List.getElem_cons_succ, Act.put, List.setIfInBounds_toArray, List.set_cons_zero, List.set_cons_succ]
            refine wpAnyH_take (i := 2) (v := ?_) rfl (by kernel_rfl) (by kernel_rfl) (by kernel_rfl) (fun _ _ _ h => h) (Or.inl ⟨by rfl, ?_⟩) hSS ?_
            rotate_left
            · intro wz hSz
              obtain ⟨p0, p1, p2⟩ := HRD.out _ hSz
              go_simp
              try with_reducible rfl
            simp only [List.getElem_toArray, List.getElem_cons_zero, List.getElem_cons_succ, Act.put, List.setIfInBounds_toArray, List.set_cons_zero, List.set_cons_succ]
            refine wpAnyH_take (i := 3) (v := ?_) rfl (by kernel_rfl) (by kernel_rfl) (by kernel_rfl) (fun _ _ _ h => h) (Or.inl ⟨by rfl, ?_⟩) hSS ?_
            rotate_left
            · intro wz hSz
              go_simp
              try with_reducible rfl
            simp only [List.getElem_toArray, List.getElem_cons_zero, List.getElem_cons_succ, Act.put, List.setIfInBounds_toArray, List.set_cons_zero, List.set_cons_succ]
            refine wpAnyH_take (i := 4) (v := (.bool true)) rfl (by kernel_rfl) (by kernel_rfl) (by kernel_rfl) (fun _ _ _ h => h) (Or.inl ⟨by rfl, ?_⟩) hSS ?_
            · intro wz hSz
              go_simp
            simp only [List.getElem_toArray, List.getElem_cons_zero, List.getElem_cons_succ, Act.put, List.setIfInBounds_toArray, List.set_cons_zero, List.set_cons_succ]
            refine wpAnyH_take (i := 5) (v := ?_) rfl (by kernel_rfl) (by kernel_rfl) (by kernel_rfl) (fun _ _ _ h => h) (Or.inl ⟨by rfl, ?_⟩) hSS ?_
            rotate_left
            · intro wz hSz
              go_simp
              try with_reducible rfl
            simp only [List.getElem_toArray, List.getElem_cons_zero, List.getElem_cons_succ, Act.put, List.setIfInBounds_toArray, List.set_cons_zero, List.set_cons_succ]
            refine wpAnyH_take (i := 6) (v := ?_) rfl (by kernel_rfl) (by kernel_rfl) (by kernel_rfl) (fun _ _ _ h => h) (Or.inl ⟨by rfl, ?_⟩) hSS ?_
            rotate_left
            · intro wz hSz
              go_simp
              try with_reducible rfl
            simp only [List.getElem_toArray, List.getElem_cons_zero, List.getElem_cons_succ, Act.put, List.setIfInBounds_toArray, List.set_cons_zero, List.set_cons_succ]
            refine wpAnyH_take (i := 7) (v := ?_) rfl (by kernel_rfl) (by kernel_rfl) (by kernel_rfl) (fun _ _ _ h => h) (Or.inl ⟨by rfl, ?_⟩) hSS ?_
            rotate_left
            · intro wz hSz
              obtain ⟨p0, p1, p2⟩ := HRD.out _ hSz; have p3 := HKI _ hSz
              go_simp
              try with_reducible rfl
            simp only [List.getElem_toArray, List.getElem_cons_zero, List.getElem_cons_succ, Act.put, List.setIfInBounds_toArray, List.set_cons_zero, List.set_cons_succ]
            refine wpAnyH_take (i := 8) (v := ?_) rfl (by kernel_rfl) (by kernel_rfl) (by kernel_rfl) (fun _ _ _ h => h) (Or.inl ⟨by rfl, ?_⟩) hSS ?_
            rotate_left
            · intro wz hSz
              go_simp
              try with_reducible rfl
            simp only [List.getElem_toArray, List.getElem_cons_zero, List.getElem_cons_succ, Act.put, List.setIfInBounds_toArray, List.set_cons_zero, List.set_cons_succ]
            refine wpAnyH_take (i := 9) (v := ?_) rfl (by kernel_rfl) (by kernel_rfl) (by kernel_rfl) (fun _ _ _ h => h) (Or.inl ⟨by rfl, ?_⟩) hSS ?_
            rotate_left
            · intro wz hSz
              go_simp
              try with_reducible rfl
            simp only [List.getElem_toArray, List.getElem_cons_zero, List.getElem_cons_succ, Act.put, List.setIfInBounds_toArray, List.set_cons_zero, List.set_cons_succ]
            refine wpAnyH_take (i := 10) (v := ?_) rfl (by kernel_rfl) (by kernel_rfl) (by kernel_rfl) (fun _ _ _ h => h) (Or.inl ⟨by rfl, ?_⟩) hSS ?_
            rotate_left
            · intro wz hSz
              obtain ⟨p0, p1, p2⟩ := HRD.out _ hSz; have p3 := HKI _ hSz
              go_simp
              try with_reducible rfl
            simp only [List.getElem_toArray, List.getElem_cons_zero, List.getElem_cons_succ, Act.put, List.setIfInBounds_toArray, List.set_cons_zero, List.set_cons_succ]
            refine wpAnyH_take (i := 11) (v := ?_) rfl (by kernel_rfl) (by kernel_rfl) (by kernel_rfl) (fun _ _ _ h => h) (Or.inl ⟨by rfl, ?_⟩) hSS ?_
            rotate_left
            · intro wz hSz
              go_simp
              try with_reducible rfl
            simp only [List.getElem_toArray, List.getElem_cons_zero, List.getElem_cons_succ, Act.put, List.setIfInBounds_toArray, List.set_cons_zero, List.set_cons_succ]
            refine wpAnyH_take (i := 12) (v := ?_) rfl (by kernel_rfl) (by kernel_rfl) (by kernel_rfl) (fun _ _ _ h => h) (Or.inl ⟨by rfl, ?_⟩) hSS ?_
            rotate_left
            · intro wz hSz
              obtain ⟨p0, p1, p2⟩ := HRD.out _ hSz; have p3 := HKI _ hSz
              go_simp
              try with_reducible rfl
            simp only [List.getElem_toArray, List.getElem_cons_zero, List.getElem_cons_succ, Act.put, List.setIfInBounds_toArray, List.set_cons_zero, List.set_cons_succ]
            refine wpAnyH_take (i := 13) (v := ?_) rfl (by kernel_rfl) (by kernel_rfl) (by kernel_rfl) (fun _ _ _ h => h) (Or.inl ⟨by rfl, ?_⟩) hSS ?_
            rotate_left
            · intro wz hSz
              go_simp
              try with_reducible rfl
            simp only [List.getElem_toArray, List.getElem_cons_zero, List.getElem_cons_succ, Act.put, List.setIfInBounds_toArray, List.set_cons_zero, List.set_cons_succ]
            refine wpAnyH_take (i := 14) (v := ?_) rfl (by kernel_rfl) (by kernel_rfl) (by kernel_rfl) (fun _ _ _ h => h) (Or.inl ⟨by rfl, ?_⟩) hSS ?_
            rotate_left
            · intro wz hSz
              go_simp
              try with_reducible rfl
            simp only [List.getElem_toArray, List.getElem_cons_zero, List.getElem_cons_succ, Act.put, List.setIfInBounds_toArray, List.set_cons_zero, List.set_cons_succ]
            refine wpAnyH_take (i := 15) (v := ?_) rfl (by kernel_rfl) (by kernel_rfl) (by kernel_rfl) (fun _ _ _ h => h) (Or.inl ⟨by rfl, ?_⟩) hSS ?_
            rotate_left
            · intro wz hSz
              obtain ⟨p0, p1, p2⟩ := HRD.out _ hSz; have p3 := HKI _ hSz
              go_simp
              try with_reducible rfl
            simp only [List.getElem_toArray, List.getElem_cons_zero, List.getElem_cons_succ, Act.put, List.setIfInBounds_toArray, List.set_cons_zero, List.set_cons_succ]
            refine wpAnyH_take (i := 16) (v := (.bool true)) rfl (by kernel_rfl) (by kernel_rfl) (by kernel_rfl) (fun _ _ _ h => h) (Or.inl ⟨by rfl, ?_⟩) hSS ?_
            · intro wz hSz
              go_simp
            simp only [List.getElem_toArray, List.getElem_cons_zero, List.getElem_cons_succ, Act.put, List.setIfInBounds_toArray, List.set_cons_zero, List.set_cons_succ]
            refine wpAnyH_take (i := 17) (v := (.bool true)) rfl (by kernel_rfl) (by kernel_rfl) (by kernel_rfl) (fun _ _ _ h => h) (Or.inl ⟨by rfl, ?_⟩) hSS ?_
            · intro wz hSz
              go_simp
            simp only [List.getElem_toArray, List.getElem_cons_zero, List.getElem_cons_succ, Act.put, List.setIfInBounds_toArray, List.set_cons_zero, List.set_cons_succ]
            refine wpAnyH_done (by kernel_rfl) ?_ _
            go_wp2_with fail
            go_roundw
            case rel => exact ⟨i + 1, by omega, by go_num, hSS⟩
            case measure => simp [intOf]; omega
          · obtain rfl : i = below q[j] ks := by omega
            by_cases hik : below q[j] ks < ks.length
            · have hless := HBA.out hik
              obtain ⟨xb, xo, rfl, HKI⟩ := HKC.out _ hik
              have hik' : ((below q[j] ks : Nat) : Int) < (ks.length : Int) := by omega
              by_cases hey : ks[below q[j] ks] = q[j]
              · have heq := toList_eq hey
                have hhas := hasAt_yes hik hey
                have HS2 : Hid (insAll (Z.take (j + 1)) [] [] = (ks, vs)) := by
                  show _ = _
                  rw [HST.out]
                  simp [insKeys, insVals, hhas]
                clear HBL HBA HKC HST hhas hey HZ
                generalize ks[below q[j] ks] = y at *
                generalize below q[j] ks = B at *
                go_upto_region 25 with fail
                refine wp_region_held_drew (S := fun w' => Below wo.heap.size wo w') (by kernel_rfl) (Below.drew hbi) (fun hSS => ?_)
                refine wpAnyH_take (i := 0) (v := ?_) rfl (by kernel_rfl) (by kernel_rfl) (by kernel_rfl) (fun _ _ _ h => h) (Or.inl ⟨by rfl, ?_⟩) hSS ?_
                rotate_left
                · intro wz hSz
                  go_simp
                  try with_reducible rfl
                simp only [List.getElem_toArray, List.getElem_cons_zero, Act.put, List.setIfInBounds_toArray, List.set_cons_zero, List.set_cons_succ]
                refine wpAnyH_take (i := 1) (v := ?_) rfl (by kernel_rfl) (by kernel_rfl) (by kernel_rfl) (fun _ _ _ h => h) (Or.inl ⟨by rfl, ?_⟩) hSS ?_
                rotate_left
                · intro wz hSz
                  go_simp
                  try with_reducible rfl
                simp only [List.getElem_toArray, List.getElem_cons_zero, List.getElem_cons_succ, Act.put, List.setIfInBounds_toArray, List.set_cons_zero, List.set_cons_succ]
                refine wpAnyH_take (i := 2) (v := ?_) rfl (by kernel_rfl) (by kernel_rfl) (by kernel_rfl) (fun _ _ _ h => h) (Or.inl ⟨by rfl, ?_⟩) hSS ?_
                rotate_left
                · intro wz hSz
                  obtain ⟨p0, p1, p2⟩ := HRD.out _ hSz
                  go_simp
                  try with_reducible rfl
                simp only [List.getElem_toArray, List.getElem_cons_zero, List.getElem_cons_succ, Act.put, List.setIfInBounds_toArray, List.set_cons_zero, List.set_cons_succ]
                refine wpAnyH_take (i := 3) (v := ?_) rfl (by kernel_rfl) (by kernel_rfl) (by kernel_rfl) (fun _ _ _ h => h) (Or.inl ⟨by rfl, ?_⟩) hSS ?_
                rotate_left
                · intro wz hSz
                  go_simp
                  try with_reducible rfl
                simp only [List.getElem_toArray, List.getElem_cons_zero, List.getElem_cons_succ, Act.put, List.setIfInBounds_toArray, List.set_cons_zero, List.set_cons_succ]
                refine wpAnyH_take (i := 4) (v := (.bool true)) rfl (by kernel_rfl) (by kernel_rfl) (by kernel_rfl) (fun _ _ _ h => h) (Or.inl ⟨by rfl, ?_⟩) hSS ?_
                · intro wz hSz
                  go_simp
                simp only [List.getElem_toArray, List.getElem_cons_zero, List.getElem_cons_succ, Act.put, List.setIfInBounds_toArray, List.set_cons_zero, List.set_cons_succ]
                refine wpAnyH_take (i := 5) (v := ?_) rfl (by kernel_rfl) (by kernel_rfl) (by kernel_rfl) (fun _ _ _ h => h) (Or.inl ⟨by rfl, ?_⟩) hSS ?_
                rotate_left
                · intro wz hSz
                  go_simp
                  try with_reducible rfl
                simp only [List.getElem_toArray, List.getElem_cons_zero, List.getElem_cons_succ, Act.put, List.setIfInBounds_toArray, List.set_cons_zero, List.set_cons_succ]
                refine wpAnyH_take (i := 6) (v := ?_) rfl (by kernel_rfl) (by kernel_rfl) (by kernel_rfl) (fun _ _ _ h => h) (Or.inl ⟨by rfl, ?_⟩) hSS ?_
                rotate_left
                · intro wz hSz
                  go_simp
                  try with_reducible rfl
                simp only [List.getElem_toArray, List.getElem_cons_zero, List.getElem_cons_succ, Act.put, List.setIfInBounds_toArray, List.set_cons_zero, List.set_cons_succ]
                refine wpAnyH_take (i := 7) (v := ?_) rfl (by kernel_rfl) (by kernel_rfl) (by kernel_rfl) (fun _ _ _ h => h) (Or.inl ⟨by rfl, ?_⟩) hSS ?_
                rotate_left
                · intro wz hSz
                  obtain ⟨p0, p1, p2⟩ := HRD.out _ hSz; have p3 := HKI _ hSz
                  go_simp
                  try with_reducible rfl
                simp only [List.getElem_toArray, List.getElem_cons_zero, List.getElem_cons_succ, Act.put, List.setIfInBounds_toArray, List.set_cons_zero, List.set_cons_succ]
                refine wpAnyH_take (i := 8) (v := ?_) rfl (by kernel_rfl) (by kernel_rfl) (by kernel_rfl) (fun _ _ _ h => h) (Or.inl ⟨by rfl, ?_⟩) hSS ?_
                rotate_left
                · intro wz hSz
                  go_simp
                  try with_reducible rfl
                simp only [List.getElem_toArray, List.getElem_cons_zero, List.getElem_cons_succ, Act.put, List.setIfInBounds_toArray, List.set_cons_zero, List.set_cons_succ]
                refine wpAnyH_take (i := 9) (v := ?_) rfl (by kernel_rfl) (by kernel_rfl) (by kernel_rfl) (fun _ _ _ h => h) (Or.inl ⟨by rfl, ?_⟩) hSS ?_
                rotate_left
                · intro wz hSz
                  go_simp
                  try with_reducible rfl
                simp only [List.getElem_toArray, List.getElem_cons_zero, List.getElem_cons_succ, Act.put, List.setIfInBounds_toArray, List.set_cons_zero, List.set_cons_succ]
                refine wpAnyH_take (i := 10) (v := ?_) rfl (by kernel_rfl) (by kernel_rfl) (by kernel_rfl) (fun _ _ _ h => h) (Or.inl ⟨by rfl, ?_⟩) hSS ?_
                rotate_left
                · intro wz hSz
                  obtain ⟨p0, p1, p2⟩ := HRD.out _ hSz; have p3 := HKI _ hSz
                  go_simp
                  try with_reducible rfl
                simp only [List.getElem_toArray, List.getElem_cons_zero, List.getElem_cons_succ, Act.put, List.setIfInBounds_toArray, List.set_cons_zero, List.set_cons_succ]
                refine wpAnyH_take (i := 11) (v := ?_) rfl (by kernel_rfl) (by kernel_rfl) (by kernel_rfl) (fun _ _ _ h => h) (Or.inl ⟨by rfl, ?_⟩) hSS ?_
                rotate_left
                · intro wz hSz
                  go_simp
                  try with_reducible rfl
                simp only [List.getElem_toArray, List.getElem_cons_zero, List.getElem_cons_succ, Act.put, List.setIfInBounds_toArray, List.set_cons_zero, List.set_cons_succ]
                refine wpAnyH_take (i := 12) (v := ?_) rfl (by kernel_rfl) (by kernel_rfl) (by kernel_rfl) (fun _ _ _ h => h) (Or.inl ⟨by rfl, ?_⟩) hSS ?_
                rotate_left
                · intro wz hSz
                  obtain ⟨p0, p1, p2⟩ := HRD.out _ hSz; have p3 := HKI _ hSz
                  go_simp
                  try with_reducible rfl
                simp only [List.getElem_toArray, List.getElem_cons_zero, List.getElem_cons_succ, Act.put, List.setIfInBounds_toArray, List.set_cons_zero, List.set_cons_succ]
                refine wpAnyH_take (i := 13) (v := ?_) rfl (by kernel_rfl) (by kernel_rfl) (by kernel_rfl) (fun _ _ _ h => h) (Or.inl ⟨by rfl, ?_⟩) hSS ?_
                rotate_left
                · intro wz hSz
                  go_simp
                  try with_reducible rfl
                simp only [List.getElem_toArray, List.getElem_cons_zero, List.getElem_cons_succ, Act.put, List.setIfInBounds_toArray, List.set_cons_zero, List.set_cons_succ]
                refine wpAnyH_take (i := 14) (v := ?_) rfl (by kernel_rfl) (by kernel_rfl) (by kernel_rfl) (fun _ _ _ h => h) (Or.inl ⟨by rfl, ?_⟩) hSS ?_
                rotate_left
                · intro wz hSz
                  go_simp
                  try with_reducible rfl
                simp only [List.getElem_toArray, List.getElem_cons_zero, List.getElem_cons_succ, Act.put, List.setIfInBounds_toArray, List.set_cons_zero, List.set_cons_succ]
                refine wpAnyH_take (i := 15) (v := ?_) rfl (by kernel_rfl) (by kernel_rfl) (by kernel_rfl) (fun _ _ _ h => h) (Or.inl ⟨by rfl, ?_⟩) hSS ?_
                rotate_left
                · intro wz hSz
                  obtain ⟨p0, p1, p2⟩ := HRD.out _ hSz; have p3 := HKI _ hSz
                  go_simp
                  try with_reducible rfl
                simp only [List.getElem_toArray, List.getElem_cons_zero, List.getElem_cons_succ, Act.put, List.setIfInBounds_toArray, List.set_cons_zero, List.set_cons_succ]
                refine wpAnyH_take (i := 16) (v := (.bool false)) rfl (by kernel_rfl) (by kernel_rfl) (by kernel_rfl) (fun _ _ _ h => h) (Or.inl ⟨by rfl, ?_⟩) hSS ?_
                · intro wz hSz
                  go_simp
                simp only [List.getElem_toArray, List.getElem_cons_zero, List.getElem_cons_succ, Act.put, List.setIfInBounds_toArray, List.set_cons_zero, List.set_cons_succ]
                refine wpAnyH_take (i := 17) (v := (.bool false)) rfl (by kernel_rfl) (by kernel_rfl) (by kernel_rfl) (fun _ _ _ h => h) (Or.inl ⟨by rfl, ?_⟩) hSS ?_
                · intro wz hSz
                  go_simp
                simp only [List.getElem_toArray, List.getElem_cons_zero, List.getElem_cons_succ, Act.put, List.setIfInBounds_toArray, List.set_cons_zero, List.set_cons_succ]
                refine wpAnyH_done (by kernel_rfl) ?_ _
                go_upto_region 27 with fail
                refine wp_region_held_drew (S := fun w' => Below wo.heap.size wo w') (by kernel_rfl) (Below.drew hSS) (fun hSS => ?_)
                refine wpAnyH_take (i := 0) (v := ?_) rfl (by kernel_rfl) (by kernel_rfl) (by kernel_rfl) (fun _ _ _ h => h) (Or.inl ⟨by rfl, ?_⟩) hSS ?_
                rotate_left
                · intro wz hSz
                  go_simp
                  try with_reducible rfl
                simp only [List.getElem_toArray, List.getElem_cons_zero, Act.put, List.setIfInBounds_toArray, List.set_cons_zero, List.set_cons_succ]
                refine wpAnyH_take (i := 1) (v := ?_) rfl (by kernel_rfl) (by kernel_rfl) (by kernel_rfl) (fun _ _ _ h => h) (Or.inl ⟨by rfl, ?_⟩) hSS ?_
                rotate_left
                · intro wz hSz
                  go_simp
                  try with_reducible rfl
                simp only [List.getElem_toArray, List.getElem_cons_zero, List.getElem_cons_succ, Act.put, List.setIfInBounds_toArray, List.set_cons_zero, List.set_cons_succ]
                refine wpAnyH_take (i := 2) (v := ?_) rfl (by kernel_rfl) (by kernel_rfl) (by kernel_rfl) (fun _ _ _ h => h) (Or.inl ⟨by rfl, ?_⟩) hSS ?_
                rotate_left
                · intro wz hSz
                  obtain ⟨p0, p1, p2⟩ := HRD.out _ hSz
                  go_simp
                  try with_reducible rfl
                simp only [List.getElem_toArray, List.getElem_cons_zero, List.getElem_cons_succ, Act.put, List.setIfInBounds_toArray, List.set_cons_zero, List.set_cons_succ]
                refine wpAnyH_take (i := 3) (v := ?_) rfl (by kernel_rfl) (by kernel_rfl) (by kernel_rfl) (fun _ _ _ h => h) (Or.inl ⟨by rfl, ?_⟩) hSS ?_
                rotate_left
                · intro wz hSz
                  go_simp
                  try with_reducible rfl
                simp only [List.getElem_toArray, List.getElem_cons_zero, List.getElem_cons_succ, Act.put, List.setIfInBounds_toArray, List.set_cons_zero, List.set_cons_succ]
                refine wpAnyH_take (i := 4) (v := (.bool true)) rfl (by kernel_rfl) (by kernel_rfl) (by kernel_rfl) (fun _ _ _ h => h) (Or.inl ⟨by rfl, ?_⟩) hSS ?_
                · intro wz hSz
                  go_simp
                simp only [List.getElem_toArray, List.getElem_cons_zero, List.getElem_cons_succ, Act.put, List.setIfInBounds_toArray, List.set_cons_zero, List.set_cons_succ]
                refine wpAnyH_take (i := 5) (v := ?_) rfl (by kernel_rfl) (by kernel_rfl) (by kernel_rfl) (fun _ _ _ h => h) (Or.inl ⟨by rfl, ?_⟩) hSS ?_
                rotate_left
                · intro wz hSz
                  go_simp
                  try with_reducible rfl
                simp only [List.getElem_toArray, List.getElem_cons_zero, List.getElem_cons_succ, Act.put, List.setIfInBounds_toArray, List.set_cons_zero, List.set_cons_succ]
                refine wpAnyH_take (i := 6) (v := ?_) rfl (by kernel_rfl) (by kernel_rfl) (by kernel_rfl) (fun _ _ _ h => h) (Or.inl ⟨by rfl, ?_⟩) hSS ?_
                rotate_left
                · intro wz hSz
                  go_simp
                  try with_reducible rfl
                simp only [List.getElem_toArray, List.getElem_cons_zero, List.getElem_cons_succ, Act.put, List.setIfInBounds_toArray, List.set_cons_zero, List.set_cons_succ]
                refine wpAnyH_take (i := 7) (v := ?_) rfl (by kernel_rfl) (by kernel_rfl) (by kernel_rfl) (fun _ _ _ h => h) (Or.inl ⟨by rfl, ?_⟩) hSS ?_
                rotate_left
                · intro wz hSz
                  obtain ⟨p0, p1, p2⟩ := HRD.out _ hSz; have p3 := HKI _ hSz
                  go_simp
                  try with_reducible rfl
                simp only [List.getElem_toArray, List.getElem_cons_zero, List.getElem_cons_succ, Act.put, List.setIfInBounds_toArray, List.set_cons_zero, List.set_cons_succ]
                refine wpAnyH_take (i := 8) (v := ?_) rfl (by kernel_rfl) (by kernel_rfl) (by kernel_rfl) (fun _ _ _ h => h) (Or.inl ⟨by rfl, ?_⟩) hSS ?_
                rotate_left
                · intro wz hSz
                  go_simp
                  try with_reducible rfl
                simp only [List.getElem_toArray, List.getElem_cons_zero, List.getElem_cons_succ, Act.put, List.setIfInBounds_toArray, List.set_cons_zero, List.set_cons_succ]
                refine wpAnyH_take (i := 9) (v := ?_) rfl (by kernel_rfl) (by kernel_rfl) (by kernel_rfl) (fun _ _ _ h => h) (Or.inl ⟨by rfl, ?_⟩) hSS ?_
                rotate_left
                · intro wz hSz
                  go_simp
                  try with_reducible rfl
                simp only [List.getElem_toArray, List.getElem_cons_zero, List.getElem_cons_succ, Act.put, List.setIfInBounds_toArray, List.set_cons_zero, List.set_cons_succ]
                refine wpAnyH_take (i := 10) (v := ?_) rfl (by kernel_rfl) (by kernel_rfl) (by kernel_rfl) (fun _ _ _ h => h) (Or.inl ⟨by rfl, ?_⟩) hSS ?_
                rotate_left
                · intro wz hSz
                  obtain ⟨p0, p1, p2⟩ := HRD.out _ hSz; have p3 := HKI _ hSz
                  go_simp
                  try with_reducible rfl
                simp only [List.getElem_toArray, List.getElem_cons_zero, List.getElem_cons_succ, Act.put, List.setIfInBounds_toArray, List.set_cons_zero, List.set_cons_succ]
                refine wpAnyH_take (i := 11) (v := ?_) rfl (by kernel_rfl) (by kernel_rfl) (by kernel_rfl) (fun _ _ _ h => h) (Or.inl ⟨by rfl, ?_⟩) hSS ?_
                rotate_left
                · intro wz hSz
                  go_simp
                  try with_reducible rfl
                simp only [List.getElem_toArray, List.getElem_cons_zero, List.getElem_cons_succ, Act.put, List.setIfInBounds_toArray, List.set_cons_zero, List.set_cons_succ]
                refine wpAnyH_take (i := 12) (v := ?_) rfl (by kernel_rfl) (by kernel_rfl) (by kernel_rfl) (fun _ _ _ h => h) (Or.inl ⟨by rfl, ?_⟩) hSS ?_
                rotate_left
                · intro wz hSz
                  obtain ⟨p0, p1, p2⟩ := HRD.out _ hSz; have p3 := HKI _ hSz
                  go_simp
                  try with_reducible rfl
                simp only [List.getElem_toArray, List.getElem_cons_zero, List.getElem_cons_succ, Act.put, List.setIfInBounds_toArray, List.set_cons_zero, List.set_cons_succ]
                refine wpAnyH_take (i := 13) (v := ?_) rfl (by kernel_rfl) (by kernel_rfl) (by kernel_rfl) (fun _ _ _ h => h) (Or.inl ⟨by rfl, ?_⟩) hSS ?_
                rotate_left
                · intro wz hSz
                  go_simp
                  try with_reducible rfl
                simp only [List.getElem_toArray, List.getElem_cons_zero, List.getElem_cons_succ, Act.put, List.setIfInBounds_toArray, List.set_cons_zero, List.set_cons_succ]
                refine wpAnyH_take (i := 14) (v := ?_) rfl (by kernel_rfl) (by kernel_rfl) (by kernel_rfl) (fun _ _ _ h => h) (Or.inl ⟨by rfl, ?_⟩) hSS ?_
                rotate_left
                · intro wz hSz
                  go_simp
                  try with_reducible rfl
                simp only [List.getElem_toArray, List.getElem_cons_zero, List.getElem_cons_succ, Act.put, List.setIfInBounds_toArray, List.set_cons_zero, List.set_cons_succ]
                refine wpAnyH_take (i := 15) (v := ?_) rfl (by kernel_rfl) (by kernel_rfl) (by kernel_rfl) (fun _ _ _ h => h) (Or.inl ⟨by rfl, ?_⟩) hSS ?_
                rotate_left
                · intro wz hSz
                  obtain ⟨p0, p1, p2⟩ := HRD.out _ hSz; have p3 := HKI _ hSz
                  go_simp
                  try with_reducible rfl
                simp only [List.getElem_toArray, List.getElem_cons_zero, List.getElem_cons_succ, Act.put, List.setIfInBounds_toArray, List.set_cons_zero, List.set_cons_succ]
                refine wpAnyH_take (i := 16) (v := (.bool true)) rfl (by kernel_rfl) (by kernel_rfl) (by kernel_rfl) (fun _ _ _ h => h) (Or.inl ⟨by rfl, ?_⟩) hSS ?_
                · intro wz hSz
                  go_simp
                simp only [List.getElem_toArray, List.getElem_cons_zero, List.getElem_cons_succ, Act.put, List.setIfInBounds_toArray, List.set_cons_zero, List.set_cons_succ]
                refine wpAnyH_take (i := 17) (v := (.bool true)) rfl (by kernel_rfl) (by kernel_rfl) (by kernel_rfl) (fun _ _ _ h => h) (Or.inl ⟨by rfl, ?_⟩) hSS ?_
                · intro wz hSz
                  go_simp
                simp only [List.getElem_toArray, List.getElem_cons_zero, List.getElem_cons_succ, Act.put, List.setIfInBounds_toArray, List.set_cons_zero, List.set_cons_succ]
                refine wpAnyH_done (by kernel_rfl) ?_ _
                have hX2 := (hSS.block (w.heap.size + 2) (Array.getElem?_eq_some_iff.1 hX).1).trans hX
                have hB2 := hB.below hSS
                have hs2 := hsr.below hSS
                have hv2 := hvr.below hSS
                clear hX hB hsr hvr HRD HKI
                go_wp2_with fail
                go_roundw
                case rel => exact ⟨j + 1, ks, vs, va, vc, some ⟨xb, xo, none⟩, xc, by omega, by omega, by go_num, HS2, hs2, hsk, hv2, hvk, hX2, hB2⟩
                case measure => simp [intOf]; omega
              · have hno : Hid (hasAt q[j] ks = false) := hasAt_no hik hey
                have hne2 := toList_ne hey
                have hle : below q[j] ks ≤ ks.length := by omega
                clear HBL HBA HKC hey HZ
                generalize ks[below q[j] ks] = y at *
                generalize hBB : below q[j] ks = B at *
                have HBB : Hid (below q[j] ks = B) := hBB
                clear hBB
                go_upto_region 25 with fail
                refine wp_region_held_drew (S := fun w' => Below wo.heap.size wo w') (by kernel_rfl) (Below.drew hbi) (fun hSS => ?_)
                refine wpAnyH_take (i := 0) (v := ?_) rfl (by kernel_rfl) (by kernel_rfl) (by kernel_rfl) (fun _ _ _ h => h) (Or.inl ⟨by rfl, ?_⟩) hSS ?_
                rotate_left
                · intro wz hSz
                  go_simp
                  try with_reducible rfl
                simp only [List.getElem_toArray, List.getElem_cons_zero, Act.put, List.setIfInBounds_toArray, List.set_cons_zero, List.set_cons_succ]
                refine wpAnyH_take (i := 1) (v := ?_) rfl (by kernel_rfl) (by kernel_rfl) (by kernel_rfl) (fun _ _ _ h => h) (Or.inl ⟨by rfl, ?_⟩) hSS ?_
                rotate_left
                · intro wz hSz
                  go_simp
                  try with_reducible rfl
                simp only [List.getElem_toArray, List.getElem_cons_zero, List.getElem_cons_succ, Act.put, List.setIfInBounds_toArray, List.set_cons_zero, List.set_cons_succ]
                refine wpAnyH_take (i := 2) (v := ?_) rfl (by kernel_rfl) (by kernel_rfl) (by kernel_rfl) (fun _ _ _ h => h) (Or.inl ⟨by rfl, ?_⟩) hSS ?_
                rotate_left
                · intro wz hSz
                  obtain ⟨p0, p1, p2⟩ := HRD.out _ hSz
                  go_simp
                  try with_reducible rfl
                simp only [List.getElem_toArray, List.getElem_cons_zero, List.getElem_cons_succ, Act.put, List.setIfInBounds_toArray, List.set_cons_zero, List.set_cons_succ]
                refine wpAnyH_take (i := 3) (v := ?_) rfl (by kernel_rfl) (by kernel_rfl) (by kernel_rfl) (fun _ _ _ h => h) (Or.inl ⟨by rfl, ?_⟩) hSS ?_
                rotate_left
                · intro wz hSz
                  go_simp
                  try with_reducible rfl
                simp only [List.getElem_toArray, List.getElem_cons_zero, List.getElem_cons_succ, Act.put, List.setIfInBounds_toArray, List.set_cons_zero, List.set_cons_succ]
                refine wpAnyH_take (i := 4) (v := (.bool true)) rfl (by kernel_rfl) (by kernel_rfl) (by kernel_rfl) (fun _ _ _ h => h) (Or.inl ⟨by rfl, ?_⟩) hSS ?_
                · intro wz hSz
                  go_simp
                simp only [List.getElem_toArray, List.getElem_cons_zero, List.getElem_cons_succ, Act.put, List.setIfInBounds_toArray, List.set_cons_zero, List.set_cons_succ]
                refine wpAnyH_take (i := 5) (v := ?_) rfl (by kernel_rfl) (by kernel_rfl) (by kernel_rfl) (fun _ _ _ h => h) (Or.inl ⟨by rfl, ?_⟩) hSS ?_
                rotate_left
                · intro wz hSz
                  go_simp
                  try with_reducible rfl
                simp only [List.getElem_toArray, List.getElem_cons_zero, List.getElem_cons_succ, Act.put, List.setIfInBounds_toArray, List.set_cons_zero, List.set_cons_succ]
                refine wpAnyH_take (i := 6) (v := ?_) rfl (by kernel_rfl) (by kernel_rfl) (by kernel_rfl) (fun _ _ _ h => h) (Or.inl ⟨by rfl, ?_⟩) hSS ?_
                rotate_left
                · intro wz hSz
                  go_simp
                  try with_reducible rfl
                simp only [List.getElem_toArray, List.getElem_cons_zero, List.getElem_cons_succ, Act.put, List.setIfInBounds_toArray, List.set_cons_zero, List.set_cons_succ]
                refine wpAnyH_take (i := 7) (v := ?_) rfl (by kernel_rfl) (by kernel_rfl) (by kernel_rfl) (fun _ _ _ h => h) (Or.inl ⟨by rfl, ?_⟩) hSS ?_
                rotate_left
                · intro wz hSz
                  obtain ⟨p0, p1, p2⟩ := HRD.out _ hSz; have p3 := HKI _ hSz
                  go_simp
                  try with_reducible rfl
                simp only [List.getElem_toArray, List.getElem_cons_zero, List.getElem_cons_succ, Act.put, List.setIfInBounds_toArray, List.set_cons_zero, List.set_cons_succ]
                refine wpAnyH_take (i := 8) (v := ?_) rfl (by kernel_rfl) (by kernel_rfl) (by kernel_rfl) (fun _ _ _ h => h) (Or.inl ⟨by rfl, ?_⟩) hSS ?_
                rotate_left
                · intro wz hSz
                  go_simp
                  try with_reducible rfl
                simp only [List.getElem_toArray, List.getElem_cons_zero, List.getElem_cons_succ, Act.put, List.setIfInBounds_toArray, List.set_cons_zero, List.set_cons_succ]
                refine wpAnyH_take (i := 9) (v := ?_) rfl (by kernel_rfl) (by kernel_rfl) (by kernel_rfl) (fun _ _ _ h => h) (Or.inl ⟨by rfl, ?_⟩) hSS ?_
                rotate_left
                · intro wz hSz
                  go_simp
                  try with_reducible rfl
                simp only [List.getElem_toArray, List.getElem_cons_zero, List.getElem_cons_succ, Act.put, List.setIfInBounds_toArray, List.set_cons_zero, List.set_cons_succ]
                refine wpAnyH_take (i := 10) (v := ?_) rfl (by kernel_rfl) (by kernel_rfl) (by kernel_rfl) (fun _ _ _ h => h) (Or.inl ⟨by rfl, ?_⟩) hSS ?_
                rotate_left
                · intro wz hSz
                  obtain ⟨p0, p1, p2⟩ := HRD.out _ hSz; have p3 := HKI _ hSz
                  go_simp
                  try with_reducible rfl
                simp only [List.getElem_toArray, List.getElem_cons_zero, List.getElem_cons_succ, Act.put, List.setIfInBounds_toArray, List.set_cons_zero, List.set_cons_succ]
                refine wpAnyH_take (i := 11) (v := ?_) rfl (by kernel_rfl) (by kernel_rfl) (by kernel_rfl) (fun _ _ _ h => h) (Or.inl ⟨by rfl, ?_⟩) hSS ?_
                rotate_left
                · intro wz hSz
                  go_simp
                  try with_reducible rfl
                simp only [List.getElem_toArray, List.getElem_cons_zero, List.getElem_cons_succ, Act.put, List.setIfInBounds_toArray, List.set_cons_zero, List.set_cons_succ]
                refine wpAnyH_take (i := 12) (v := ?_) rfl (by kernel_rfl) (by kernel_rfl) (by kernel_rfl) (fun _ _ _ h => h) (Or.inl ⟨by rfl, ?_⟩) hSS ?_
                rotate_left
                · intro wz hSz
                  obtain ⟨p0, p1, p2⟩ := HRD.out _ hSz; have p3 := HKI _ hSz
                  go_simp
                  try with_reducible rfl
                simp only [List.getElem_toArray, List.getElem_cons_zero, List.getElem_cons_succ, Act.put, List.setIfInBounds_toArray, List.set_cons_zero, List.set_cons_succ]
                refine wpAnyH_take (i := 13) (v := ?_) rfl (by kernel_rfl) (by kernel_rfl) (by kernel_rfl) (fun _ _ _ h => h) (Or.inl ⟨by rfl, ?_⟩) hSS ?_
                rotate_left
                · intro wz hSz
                  go_simp
                  try with_reducible rfl
                simp only [List.getElem_toArray, List.getElem_cons_zero, List.getElem_cons_succ, Act.put, List.setIfInBounds_toArray, List.set_cons_zero, List.set_cons_succ]
                refine wpAnyH_take (i := 14) (v := ?_) rfl (by kernel_rfl) (by kernel_rfl) (by kernel_rfl) (fun _ _ _ h => h) (Or.inl ⟨by rfl, ?_⟩) hSS ?_
                rotate_left
                · intro wz hSz
                  go_simp
                  try with_reducible rfl
                simp only [List.getElem_toArray, List.getElem_cons_zero, List.getElem_cons_succ, Act.put, List.setIfInBounds_toArray, List.set_cons_zero, List.set_cons_succ]
                refine wpAnyH_take (i := 15) (v := ?_) rfl (by kernel_rfl) (by kernel_rfl) (by kernel_rfl) (fun _ _ _ h => h) (Or.inl ⟨by rfl, ?_⟩) hSS ?_
                rotate_left
                · intro wz hSz
                  obtain ⟨p0, p1, p2⟩ := HRD.out _ hSz; have p3 := HKI _ hSz
                  go_simp
                  try with_reducible rfl
                simp only [List.getElem_toArray, List.getElem_cons_zero, List.getElem_cons_succ, Act.put, List.setIfInBounds_toArray, List.set_cons_zero, List.set_cons_succ]
                refine wpAnyH_take (i := 16) (v := (.bool false)) rfl (by kernel_rfl) (by kernel_rfl) (by kernel_rfl) (fun _ _ _ h => h) (Or.inl ⟨by rfl, ?_⟩) hSS ?_
                · intro wz hSz
                  go_simp
                simp only [List.getElem_toArray, List.getElem_cons_zero, List.getElem_cons_succ, Act.put, List.setIfInBounds_toArray, List.set_cons_zero, List.set_cons_succ]
                refine wpAnyH_take (i := 17) (v := (.bool false)) rfl (by kernel_rfl) (by kernel_rfl) (by kernel_rfl) (fun _ _ _ h => h) (Or.inl ⟨by rfl, ?_⟩) hSS ?_
                · intro wz hSz
                  go_simp
                simp only [List.getElem_toArray, List.getElem_cons_zero, List.getElem_cons_succ, Act.put, List.setIfInBounds_toArray, List.set_cons_zero, List.set_cons_succ]
                refine wpAnyH_done (by kernel_rfl) ?_ _
                go_upto_region 27 with fail
                refine wp_region_held_drew (S := fun w' => Below wo.heap.size wo w') (by kernel_rfl) (Below.drew hSS) (fun hSS => ?_)
                refine wpAnyH_take (i := 0) (v := ?_) rfl (by kernel_rfl) (by kernel_rfl) (by kernel_rfl) (fun _ _ _ h => h) (Or.inl ⟨by rfl, ?_⟩) hSS ?_
                rotate_left
                · intro wz hSz
                  go_simp
                  try with_reducible rfl
                simp only [List.getElem_toArray, List.getElem_cons_zero, Act.put, List.setIfInBounds_toArray, List.set_cons_zero, List.set_cons_succ]
                refine wpAnyH_take (i := 1) (v := ?_) rfl (by kernel_rfl) (by kernel_rfl) (by kernel_rfl) (fun _ _ _ h => h) (Or.inl ⟨by rfl, ?_⟩) hSS ?_
                rotate_left
                · intro wz hSz
                  go_simp
                  try with_reducible rfl
                simp only [List.getElem_toArray, List.getElem_cons_zero, List.getElem_cons_succ, Act.put, List.setIfInBounds_toArray, List.set_cons_zero, List.set_cons_succ]
                refine wpAnyH_take (i := 2) (v := ?_) rfl (by kernel_rfl) (by kernel_rfl) (by kernel_rfl) (fun _ _ _ h => h) (Or.inl ⟨by rfl, ?_⟩) hSS ?_
                rotate_left
                · intro wz hSz
                  obtain ⟨p0, p1, p2⟩ := HRD.out _ hSz
                  go_simp
                  try with_reducible rfl
                simp only [List.getElem_toArray, List.getElem_cons_zero, List.getElem_cons_succ, Act.put, List.setIfInBounds_toArray, List.set_cons_zero, List.set_cons_succ]
                refine wpAnyH_take (i := 3) (v := ?_) rfl (by kernel_rfl) (by kernel_rfl) (by kernel_rfl) (fun _ _ _ h => h) (Or.inl ⟨by rfl, ?_⟩) hSS ?_
                rotate_left
                · intro wz hSz
                  go_simp
                  try with_reducible rfl
                simp only [List.getElem_toArray, List.getElem_cons_zero, List.getElem_cons_succ, Act.put, List.setIfInBounds_toArray, List.set_cons_zero, List.set_cons_succ]
                refine wpAnyH_take (i := 4) (v := (.bool true)) rfl (by kernel_rfl) (by kernel_rfl) (by kernel_rfl) (fun _ _ _ h => h) (Or.inl ⟨by rfl, ?_⟩) hSS ?_
                · intro wz hSz
                  go_simp
                simp only [List.getElem_toArray, List.getElem_cons_zero, List.getElem_cons_succ, Act.put, List.setIfInBounds_toArray, List.set_cons_zero, List.set_cons_succ]
                refine wpAnyH_take (i := 5) (v := ?_) rfl (by kernel_rfl) (by kernel_rfl) (by kernel_rfl) (fun _ _ _ h => h) (Or.inl ⟨by rfl, ?_⟩) hSS ?_
                rotate_left
                · intro wz hSz
                  go_simp
                  try with_reducible rfl
                simp only [List.getElem_toArray, List.getElem_cons_zero, List.getElem_cons_succ, Act.put, List.setIfInBounds_toArray, List.set_cons_zero, List.set_cons_succ]
                refine wpAnyH_take (i := 6) (v := ?_) rfl (by kernel_rfl) (by kernel_rfl) (by kernel_rfl) (fun _ _ _ h => h) (Or.inl ⟨by rfl, ?_⟩) hSS ?_
                rotate_left
                · intro wz hSz
                  go_simp
                  try with_reducible rfl
                simp only [List.getElem_toArray, List.getElem_cons_zero, List.getElem_cons_succ, Act.put, List.setIfInBounds_toArray, List.set_cons_zero, List.set_cons_succ]
                refine wpAnyH_take (i := 7) (v := ?_) rfl (by kernel_rfl) (by kernel_rfl) (by kernel_rfl) (fun _ _ _ h => h) (Or.inl ⟨by rfl, ?_⟩) hSS ?_
                rotate_left
                · intro wz hSz
                  obtain ⟨p0, p1, p2⟩ := HRD.out _ hSz; have p3 := HKI _ hSz
                  go_simp
                  try with_reducible rfl
                simp only [List.getElem_toArray, List.getElem_cons_zero, List.getElem_cons_succ, Act.put, List.setIfInBounds_toArray, List.set_cons_zero, List.set_cons_succ]
                refine wpAnyH_take (i := 8) (v := ?_) rfl (by kernel_rfl) (by kernel_rfl) (by kernel_rfl) (fun _ _ _ h => h) (Or.inl ⟨by rfl, ?_⟩) hSS ?_
                rotate_left
                · intro wz hSz
                  go_simp
                  try with_reducible rfl
                simp only [List.getElem_toArray, List.getElem_cons_zero, List.getElem_cons_succ, Act.put, List.setIfInBounds_toArray, List.set_cons_zero, List.set_cons_succ]
                refine wpAnyH_take (i := 9) (v := ?_) rfl (by kernel_rfl) (by kernel_rfl) (by kernel_rfl) (fun _ _ _ h => h) (Or.inl ⟨by rfl, ?_⟩) hSS ?_
                rotate_left
                · intro wz hSz
                  go_simp
                  try with_reducible rfl
                simp only [List.getElem_toArray, List.getElem_cons_zero, List.getElem_cons_succ, Act.put, List.setIfInBounds_toArray, List.set_cons_zero, List.set_cons_succ]
                refine wpAnyH_take (i := 10) (v := ?_) rfl (by kernel_rfl) (by kernel_rfl) (by kernel_rfl) (fun _ _ _ h => h) (Or.inl ⟨by rfl, ?_⟩) hSS ?_
                rotate_left
                · intro wz hSz
                  obtain ⟨p0, p1, p2⟩ := HRD.out _ hSz; have p3 := HKI _ hSz
                  go_simp
                  try with_reducible rfl
                simp only [List.getElem_toArray, List.getElem_cons_zero, List.getElem_cons_succ, Act.put, List.setIfInBounds_toArray, List.set_cons_zero, List.set_cons_succ]
                refine wpAnyH_take (i := 11) (v := ?_) rfl (by kernel_rfl) (by kernel_rfl) (by kernel_rfl) (fun _ _ _ h => h) (Or.inl ⟨by rfl, ?_⟩) hSS ?_
                rotate_left
                · intro wz hSz
                  go_simp
                  try with_reducible rfl
                simp only [List.getElem_toArray, List.getElem_cons_zero, List.getElem_cons_succ, Act.put, List.setIfInBounds_toArray, List.set_cons_zero, List.set_cons_succ]
                refine wpAnyH_take (i := 12) (v := ?_) rfl (by kernel_rfl) (by kernel_rfl) (by kernel_rfl) (fun _ _ _ h => h) (Or.inl ⟨by rfl, ?_⟩) hSS ?_
                rotate_left
                · intro wz hSz
                  obtain ⟨p0, p1, p2⟩ := HRD.out _ hSz; have p3 := HKI _ hSz
                  go_simp
                  try with_reducible rfl
                simp only [List.getElem_toArray, List.getElem_cons_zero, List.getElem_cons_succ, Act.put, List.setIfInBounds_toArray, List.set_cons_zero, List.set_cons_succ]
                refine wpAnyH_take (i := 13) (v := ?_) rfl (by kernel_rfl) (by kernel_rfl) (by kernel_rfl) (fun _ _ _ h => h) (Or.inl ⟨by rfl, ?_⟩) hSS ?_
                rotate_left
                · intro wz hSz
                  go_simp
                  try with_reducible rfl
                simp only [List.getElem_toArray, List.getElem_cons_zero, List.getElem_cons_succ, Act.put, List.setIfInBounds_toArray, List.set_cons_zero, List.set_cons_succ]
                refine wpAnyH_take (i := 14) (v := ?_) rfl (by kernel_rfl) (by kernel_rfl) (by kernel_rfl) (fun _ _ _ h => h) (Or.inl ⟨by rfl, ?_⟩) hSS ?_
                rotate_left
                · intro wz hSz
                  go_simp
                  try with_reducible rfl
                simp only [List.getElem_toArray, List.getElem_cons_zero, List.getElem_cons_succ, Act.put, List.setIfInBounds_toArray, List.set_cons_zero, List.set_cons_succ]
                refine wpAnyH_take (i := 15) (v := ?_) rfl (by kernel_rfl) (by kernel_rfl) (by kernel_rfl) (fun _ _ _ h => h) (Or.inl ⟨by rfl, ?_⟩) hSS ?_
                rotate_left
                · intro wz hSz
                  obtain ⟨p0, p1, p2⟩ := HRD.out _ hSz; have p3 := HKI _ hSz
                  go_simp
                  try with_reducible rfl
                simp only [List.getElem_toArray, List.getElem_cons_zero, List.getElem_cons_succ, Act.put, List.setIfInBounds_toArray, List.set_cons_zero, List.set_cons_succ]
                refine wpAnyH_take (i := 16) (v := (.bool false)) rfl (by kernel_rfl) (by kernel_rfl) (by kernel_rfl) (fun _ _ _ h => h) (Or.inl ⟨by rfl, ?_⟩) hSS ?_
                · intro wz hSz
                  go_simp
                simp only [List.getElem_toArray, List.getElem_cons_zero, List.getElem_cons_succ, Act.put, List.setIfInBounds_toArray, List.set_cons_zero, List.set_cons_succ]
                refine wpAnyH_take (i := 17) (v := (.bool false)) rfl (by kernel_rfl) (by kernel_rfl) (by kernel_rfl) (fun _ _ _ h => h) (Or.inl ⟨by rfl, ?_⟩) hSS ?_
                · intro wz hSz
                  go_simp
                simp only [List.getElem_toArray, List.getElem_cons_zero, List.getElem_cons_succ, Act.put, List.setIfInBounds_toArray, List.set_cons_zero, List.set_cons_succ]
                refine wpAnyH_done (by kernel_rfl) ?_ _
                go_upto_region 28 with fail
                have hBc : B ≤ xc := Nat.le_trans hle hsk.2.1
                have hlB : ((ks.drop 0).take B).length = B := by simp; omega
                go_cut [8] from 118 to 130 (fun s8 wx => SOwn wx wo.heap.size s8 (ks.take B ++ [q[j]]) ∧ Below wo.heap.size wo wx)
                case first =>
                  refine wp_region_held_drew (S := fun w' => Below wo.heap.size wo w') (by kernel_rfl) (Below.drew hSS) (fun hSS => ?_)
                  refine wpAnyH_take (i := 1) (v := ?_) rfl (by kernel_rfl) (by kernel_rfl) (by kernel_rfl) (fun _ _ _ h => h) (Or.inl ⟨by rfl, ?_⟩) hSS ?_
                  rotate_left
                  · intro wz hSz
                    go_simp
                    try with_reducible rfl
                  simp only [List.getElem_toArray, List.getElem_cons_zero, List.getElem_cons_succ, Act.put, List.setIfInBounds_toArray, List.set_cons_zero, List.set_cons_succ]
                  refine wpAnyH_take (i := 2) (v := ?_) rfl (by kernel_rfl) (by kernel_rfl) (by kernel_rfl) (fun _ _ _ h => h) (Or.inl ⟨by rfl, ?_⟩) hSS ?_
                  rotate_left
                  · intro wz hSz
                    obtain ⟨p0, p1, p2⟩ := HRD.out _ hSz
                    go_simp
                    try with_reducible rfl
                  simp only [List.getElem_toArray, List.getElem_cons_zero, List.getElem_cons_succ, Act.put, List.setIfInBounds_toArray, List.set_cons_zero, List.set_cons_succ]
                  refine wpAnyH_take (i := 3) (v := ?_) rfl (by kernel_rfl) (by kernel_rfl) (by kernel_rfl) (fun _ _ _ h => h) (Or.inl ⟨by rfl, ?_⟩) hSS ?_
                  rotate_left
                  · intro wz hSz
                    go_simp
                    try with_reducible rfl
                  simp only [List.getElem_toArray, List.getElem_cons_zero, List.getElem_cons_succ, Act.put, List.setIfInBounds_toArray, List.set_cons_zero, List.set_cons_succ]
                  refine wpAnyH_take (i := 4) (v := .slice (cutN (some ⟨xb, xo, none⟩) xc 0 1) B xc) rfl (by kernel_rfl) (by kernel_rfl) (by kernel_rfl) (fun _ _ _ h => h) (Or.inl ⟨by rfl, ?_⟩) hSS ?_
                  · intro wz hSz
                    have hcut := cutS_h (some ⟨xb, xo, none⟩) ks.length xc B hBc
                    go_simp
                  simp only [List.getElem_toArray, List.getElem_cons_zero, List.getElem_cons_succ, Act.put, List.setIfInBounds_toArray, List.set_cons_zero, List.set_cons_succ]
                  refine wpAnyH_take (i := 6) (v := ?_) rfl (by kernel_rfl) (by kernel_rfl) (by kernel_rfl) (fun _ _ _ h => h) (Or.inl ⟨by rfl, ?_⟩) hSS ?_
                  rotate_left
                  · intro wz hSz
                    go_simp
                    try with_reducible rfl
                  simp only [List.getElem_toArray, List.getElem_cons_zero, List.getElem_cons_succ, Act.put, List.setIfInBounds_toArray, List.set_cons_zero, List.set_cons_succ]
                  refine wpAnyH_take (i := 7) (v := ?_) rfl (by kernel_rfl) (by kernel_rfl) (by kernel_rfl) (fun _ _ _ h => h) (Or.inl ⟨by rfl, ?_⟩) hSS ?_
                  rotate_left
                  · intro wz hSz
                    obtain ⟨p0, p1, p2⟩ := HRD.out _ hSz
                    go_simp
                    try with_reducible rfl
                  simp only [List.getElem_toArray, List.getElem_cons_zero, List.getElem_cons_succ, Act.put, List.setIfInBounds_toArray, List.set_cons_zero, List.set_cons_succ]
                  refine wpAnyH_take (i := 8) (v := ?_) rfl (by kernel_rfl) (by kernel_rfl) (by kernel_rfl) (fun _ _ _ h => h) (Or.inl ⟨by rfl, ?_⟩) hSS ?_
                  rotate_left
                  · intro wz hSz
                    go_simp
                    try with_reducible rfl
                  simp only [List.getElem_toArray, List.getElem_cons_zero, List.getElem_cons_succ, Act.put, List.setIfInBounds_toArray, List.set_cons_zero, List.set_cons_succ]
                  refine wpAnyH_take (i := 9) (v := ?_) rfl (by kernel_rfl) (by kernel_rfl) (by kernel_rfl) (fun _ _ _ h => h) (Or.inl ⟨by rfl, ?_⟩) hSS ?_
                  rotate_left
                  · intro wz hSz
                    go_simp
                    try with_reducible rfl
                  simp only [List.getElem_toArray, List.getElem_cons_zero, List.getElem_cons_succ, Act.put, List.setIfInBounds_toArray, List.set_cons_zero, List.set_cons_succ]
                  refine wpAnyH_take (i := 10) (v := ?_) rfl (by kernel_rfl) (by kernel_rfl) (by kernel_rfl) (fun _ _ _ h => h) (Or.inl ⟨by rfl, ?_⟩) hSS ?_
                  rotate_left
                  · intro wz hSz
                    obtain ⟨p0, p1, p2⟩ := HRD.out _ hSz
                    go_simp
                    try with_reducible rfl
                  simp only [List.getElem_toArray, List.getElem_cons_zero, List.getElem_cons_succ, Act.put, List.setIfInBounds_toArray, List.set_cons_zero, List.set_cons_succ]
                  generalize wr.drew.drew.drew = W0 at *
                  refine wpAnyH_ready (rs := [0, 11]) (by kernel_rfl) (by simp) (AllReadyH.cons rfl (fun K1 hK1 => ?_) (AllReadyH.cons rfl (fun K1 hK1 => ?_) AllReadyH.nil))
                  · refine step_plain (by rfl) ?_
                    simp only [List.getElem_toArray, List.getElem_cons_zero]
                    go_simp
                    have hO := SOwn.none (W0.alloc (.cells #[] 9)) wo.heap.size W0.heap.size (hSS.size) (heap_alloc_new W0 _)
                    refine hK1.out _ _ (hSS.alloc hSS.size _) (fun hSS => ?_)
                    refine wpAnyH_ready (rs := [5, 11]) (by kernel_rfl) (by simp) (AllReadyH.cons rfl (fun K2 hK2 => ?_) (AllReadyH.cons rfl (fun K2 hK2 => ?_) AllReadyH.nil))
                    · obtain ⟨v5, W5, hr5, hO5, hg5, -⟩ := append_texts hO (((hsr.below hSS).cut hsk.2.1 0 B)) hlB (fun e => by obtain ⟨h1, h2⟩ := cutN_nil 0 1 hsk.1 e; exact ⟨by omega, h2⟩) (by have := hSS.size; omega) (by simp; omega) 23 (c := xc)
                      refine step_append_any (by rfl) _ _ _ (by rfl) _ _ (by rfl) (by rfl) hr5 ?_
                      simp only [List.drop_zero, List.nil_append] at hO5
                      refine hK2.out _ _ (hSS.grown hg5 hSS.size (fun k hk => (hO.own k hk).1)) (fun hSS => ?_)
                      refine wpAnyH_ready (rs := [11]) (by kernel_rfl) (by simp) (AllReadyH.cons rfl (fun K3 hK3 => ?_) AllReadyH.nil)
                      refine step_plain (by rfl) ?_
                      simp only [List.getElem_toArray, List.getElem_cons_zero, List.getElem_cons_succ]
                      go_simp
                      have h11 := heap_alloc_new W5 (.cells #[.string q[j]] 9)
                      refine hK3.out _ _ (hSS.alloc hSS.size _) (fun hSS => ?_)
                      have hO6 := hO5.below ((Below.refl _ _).alloc (Nat.le_refl _) (.cells #[.string q[j]] 9))
                      refine wpAnyH_ready (rs := [12]) (by kernel_rfl) (by simp) (AllReadyH.cons rfl (fun K4 hK4 => ?_) AllReadyH.nil)
                      obtain ⟨v12, W12, hr12, hO12, hg12, -⟩ := append_texts hO6 (one_srow h11 hqm) rfl (fun e => by cases e) (by have := hSS.size; omega) (by simp; omega) 23 (c := 1)
                      refine step_append_any (by rfl) _ _ _ (by rfl) _ _ (by rfl) (by rfl) hr12 ?_
                      refine hK4.out _ _ (hSS.grown hg12 hSS.size (fun k hk => (hO6.own k hk).1)) (fun hSS => ?_)
                      refine wpAnyH_take (i := 13) (v := v12) rfl (by kernel_rfl) (by kernel_rfl) (by kernel_rfl) (fun _ _ _ h => h) (Or.inl ⟨by rfl, ?_⟩) hSS ?_
                      · intro wz hSz
                        go_simp
                      refine wpAnyH_done (by kernel_rfl) ?_ _
                      go_wp2_with fail
                      go_meet
                      exact ⟨hO12, hSS⟩
                    · refine step_plain (by rfl) ?_
                      simp only [List.getElem_toArray, List.getElem_cons_zero, List.getElem_cons_succ]
                      go_simp
                      have h11 := heap_alloc_new (W0.alloc (.cells #[] 9)) (.cells #[.string q[j]] 9)
                      simp only [World.size_alloc] at h11
                      refine hK2.out _ _ (hSS.alloc hSS.size _) (fun hSS => ?_)
                      replace hO := hO.below ((Below.refl _ _).alloc (Nat.le_refl _) (.cells #[.string q[j]] 9))
                      refine wpAnyH_ready (rs := [5]) (by kernel_rfl) (by simp) (AllReadyH.cons rfl (fun K3 hK3 => ?_) AllReadyH.nil)
                      obtain ⟨v5, W5, hr5, hO5, hg5, -⟩ := append_texts hO (((hsr.below hSS).cut hsk.2.1 0 B)) hlB (fun e => by obtain ⟨h1, h2⟩ := cutN_nil 0 1 hsk.1 e; exact ⟨by omega, h2⟩) (by have := hSS.size; omega) (by simp; omega) 23 (c := xc)
                      refine step_append_any (by rfl) _ _ _ (by rfl) _ _ (by rfl) (by rfl) hr5 ?_
                      simp only [List.drop_zero, List.nil_append] at hO5
                      refine hK3.out _ _ (hSS.grown hg5 hSS.size (fun k hk => (hO.own k hk).1)) (fun hSS => ?_)
                      have h12 := (hg5.block _ (by first | (simp; done) | (simp; omega)) (by first | (simp [Value.ownBlock]; done) | (simp [Value.ownBlock]; omega))).trans h11
                      refine wpAnyH_ready (rs := [12]) (by kernel_rfl) (by simp) (AllReadyH.cons rfl (fun K4 hK4 => ?_) AllReadyH.nil)
                      obtain ⟨v12, W12, hr12, hO12, hg12, -⟩ := append_texts hO5 (one_srow h12 hqm) rfl (fun e => by cases e) (by have := hSS.size; omega) (by simp; omega) 23 (c := 1)
                      refine step_append_any (by rfl) _ _ _ (by rfl) _ _ (by rfl) (by rfl) hr12 ?_
                      refine hK4.out _ _ (hSS.grown hg12 hSS.size (fun k hk => (hO5.own k hk).1)) (fun hSS => ?_)
                      refine wpAnyH_take (i := 13) (v := v12) rfl (by kernel_rfl) (by kernel_rfl) (by kernel_rfl) (fun _ _ _ h => h) (Or.inl ⟨by rfl, ?_⟩) hSS ?_
                      · intro wz hSz
                        go_simp
                      refine wpAnyH_done (by kernel_rfl) ?_ _
                      go_wp2_with fail
                      go_meet
                      exact ⟨hO12, hSS⟩
                  · refine step_plain (by rfl) ?_
                    simp only [List.getElem_toArray, List.getElem_cons_zero, List.getElem_cons_succ]
                    go_simp
                    have h11 := heap_alloc_new W0 (.cells #[.string q[j]] 9)
                    refine hK1.out _ _ (hSS.alloc hSS.size _) (fun hSS => ?_)
                    refine wpAnyH_ready (rs := [0]) (by kernel_rfl) (by simp) (AllReadyH.cons rfl (fun K2 hK2 => ?_) AllReadyH.nil)
                    refine step_plain (by rfl) ?_
                    simp only [List.getElem_toArray, List.getElem_cons_zero]
                    go_simp
                    have hO := SOwn.none ((W0.alloc (.cells #[.string q[j]] 9)).alloc (.cells #[] 9)) wo.heap.size (W0.alloc (.cells #[.string q[j]] 9)).heap.size (hSS.size) (heap_alloc_new (W0.alloc (.cells #[.string q[j]] 9)) _)
                    simp only [World.size_alloc] at hO
                    refine hK2.out _ _ (hSS.alloc hSS.size _) (fun hSS => ?_)
                    replace h11 := (Below.heap_alloc _ (.cells #[] 9) W0.heap.size (by simp)).trans h11
                    refine wpAnyH_ready (rs := [5]) (by kernel_rfl) (by simp) (AllReadyH.cons rfl (fun K3 hK3 => ?_) AllReadyH.nil)
                    obtain ⟨v5, W5, hr5, hO5, hg5, -⟩ := append_texts hO (((hsr.below hSS).cut hsk.2.1 0 B)) hlB (fun e => by obtain ⟨h1, h2⟩ := cutN_nil 0 1 hsk.1 e; exact ⟨by omega, h2⟩) (by have := hSS.size; omega) (by simp; omega) 23 (c := xc)
                    refine step_append_any (by rfl) _ _ _ (by rfl) _ _ (by rfl) (by rfl) hr5 ?_
                    simp only [List.drop_zero, List.nil_append] at hO5
                    refine hK3.out _ _ (hSS.grown hg5 hSS.size (fun k hk => (hO.own k hk).1)) (fun hSS => ?_)
                    have h12 := (hg5.block _ (by first | (simp; done) | (simp; omega)) (by first | (simp [Value.ownBlock]; done) | (simp [Value.ownBlock]; omega))).trans h11
                    refine wpAnyH_ready (rs := [12]) (by kernel_rfl) (by simp) (AllReadyH.cons rfl (fun K4 hK4 => ?_) AllReadyH.nil)
                    obtain ⟨v12, W12, hr12, hO12, hg12, -⟩ := append_texts hO5 (one_srow h12 hqm) rfl (fun e => by cases e) (by have := hSS.size; omega) (by simp; omega) 23 (c := 1)
                    refine step_append_any (by rfl) _ _ _ (by rfl) _ _ (by rfl) (by rfl) hr12 ?_
                    refine hK4.out _ _ (hSS.grown hg12 hSS.size (fun k hk => (hO5.own k hk).1)) (fun hSS => ?_)
                    refine wpAnyH_take (i := 13) (v := v12) rfl (by kernel_rfl) (by kernel_rfl) (by kernel_rfl) (fun _ _ _ h => h) (Or.inl ⟨by rfl, ?_⟩) hSS ?_
                    · intro wz hSz
                      go_simp
                    refine wpAnyH_done (by kernel_rfl) ?_ _
                    go_wp2_with fail
                    go_meet
                    exact ⟨hO12, hSS⟩
                case rest =>
                  obtain ⟨hO8, hb8⟩ := hcut
                  obtain ⟨w8, rfl⟩ : ∃ w8, w8 = wc := ⟨_, rfl⟩
                  have hbw8 := hbw.trans (hb8.mono hbw.size)
                  obtain ⟨bl, off, rfl, -, hcc⟩ := hc (by intro e; subst e; simp at hlt)
                  have hVA := (hcc j hlt).below hbw8
                  have C : Hid (∀ W, Below w8.heap.size w8 W → Calls Tryz.prog 9 #[l[j].val (P j)] W fun e w' => ∃ p', e = .returned (l[j].clean.val p') ∧ VIn w' (fun b => W.heap.size ≤ b) l[j].clean p' ∧ Below W.heap.size W w') := fun W hW => CC.out W j hlt (hbw8.trans (hW.mono hbw8.size))
                  have hlt8 : w.heap.size + 2 < wo.heap.size := (Array.getElem?_eq_some_iff.1 hX).1
                  have hX8 := (hb8.block (w.heap.size + 2) hlt8).trans hX
                  have hB8 := hB.below hb8
                  have hs8 := hb8.size
                  have hvB : B ≤ vs.length := by have := HKV.out; omega
                  have hvc : B ≤ vc := Nat.le_trans hvB hvk.2.1
                  have hvlB : ((vs.drop 0).take B).length = B := by simp; omega
                  have hvn : vs.length ≤ 1048576 := by have := HKV.out; omega
                  have y5 := cell_of_row _ _ 5 _ _ _ hX8
                  have z5 := hB8.cells 5
                  simp only [V.cells, List.getElem?_cons_succ, List.getElem?_cons_zero, List.getElem?_toArray] at y5 z5
                  have HRV : Hid (∀ W, Below w8.heap.size w8 W → W.cell? ⟨w.heap.size + 2, 5, none⟩ = some (.slice va vs.length vc) ∧ W.cell? ⟨w.heap.size, 5, none⟩ = some (.slice (some ⟨bl, off, none⟩) l.length lc) ∧ VAt W bl off j l[j] (P j)) := fun W hW => ⟨(hW.cell (p := ⟨w.heap.size + 2, 5, none⟩) (World.block_lt_of_cell? _ _ y5)).trans y5, (hW.cell (p := ⟨w.heap.size, 5, none⟩) (World.block_lt_of_cell? _ _ z5)).trans z5, hVA.below hW⟩
                  obtain ⟨OK, hOK⟩ : ∃ OK : Nat → Prop, ∀ b, OK b ↔ (w.heap.size + 3 ≤ b ∧ (b < wo.heap.size ∨ w8.heap.size ≤ b)) := ⟨fun b => w.heap.size + 3 ≤ b ∧ (b < wo.heap.size ∨ w8.heap.size ≤ b), fun _ => Iff.rfl⟩
                  have HOK : Hid (∀ b, OK b ↔ (w.heap.size + 3 ≤ b ∧ (b < wo.heap.size ∨ w8.heap.size ≤ b))) := hOK
                  have HVO : Hid (∀ (W : World) (sv : Value), Below w8.heap.size w8 W → (∀ k, sv.ownBlock = some k → w8.heap.size ≤ k) → VRow W (fun b => OK b ∧ sv.ownBlock ≠ some b) va vs) := fun W sv hW hs => VRow.old (X := w8.heap.size) hvr (hb8.trans (hW.mono hs8)) (fun b h1 h2 => (hOK b).2 ⟨h1, Or.inl h2⟩) hs8 hs
                  clear hOK hcc hc hVA y5 z5 HRD CC hX8
                  unfold VAt at HRV
                  generalize hxx : l[j].clean = x at *
                  generalize l[j] = xe at *
                  generalize P j = xp at *
                  unfold V.val at C
                  go_upto_region 29 with fail
                  go_cut [9] from 131 to 144 (fun s9 wx => VL2 wx OK w8.heap.size s9 (vs.take B ++ [x]) ∧ Below w8.heap.size w8 wx)
                  case first =>
                    refine wp_region_held_drew (S := fun w' => Below w8.heap.size w8 w') (by kernel_rfl) (Below.drew (Below.refl _ _)) (fun hSS => ?_)
                    refine wpAnyH_take (i := 1) (v := ?_) rfl (by kernel_rfl) (by kernel_rfl) (by kernel_rfl) (fun _ _ _ h => h) (Or.inl ⟨by rfl, ?_⟩) hSS ?_
                    rotate_left
                    · intro wz hSz
                      go_simp
                      try with_reducible rfl
                    simp only [List.getElem_toArray, List.getElem_cons_zero, List.getElem_cons_succ, Act.put, List.setIfInBounds_toArray, List.set_cons_zero, List.set_cons_succ]
                    refine wpAnyH_take (i := 2) (v := ?_) rfl (by kernel_rfl) (by kernel_rfl) (by kernel_rfl) (fun _ _ _ h => h) (Or.inl ⟨by rfl, ?_⟩) hSS ?_
                    rotate_left
                    · intro wz hSz
                      obtain ⟨p0, p1, p2, p3, p4, p5, p6, p7, p8⟩ := HRV.out _ hSz
                      go_simp
                      try with_reducible rfl
                    simp only [List.getElem_toArray, List.getElem_cons_zero, List.getElem_cons_succ, Act.put, List.setIfInBounds_toArray, List.set_cons_zero, List.set_cons_succ]
                    refine wpAnyH_take (i := 3) (v := ?_) rfl (by kernel_rfl) (by kernel_rfl) (by kernel_rfl) (fun _ _ _ h => h) (Or.inl ⟨by rfl, ?_⟩) hSS ?_
                    rotate_left
                    · intro wz hSz
                      go_simp
                      try with_reducible rfl
                    simp only [List.getElem_toArray, List.getElem_cons_zero, List.getElem_cons_succ, Act.put, List.setIfInBounds_toArray, List.set_cons_zero, List.set_cons_succ]
                    refine wpAnyH_take (i := 4) (v := .slice (cutN va vc 0 7) B vc) rfl (by kernel_rfl) (by kernel_rfl) (by kernel_rfl) (fun _ _ _ h => h) (Or.inl ⟨by rfl, ?_⟩) hSS ?_
                    · intro wz hSz
                      have hcut := cutV_h va vs.length vc B hvc
                      go_simp
                    simp only [List.getElem_toArray, List.getElem_cons_zero, List.getElem_cons_succ, Act.put, List.setIfInBounds_toArray, List.set_cons_zero, List.set_cons_succ]
                    refine wpAnyH_take (i := 6) (v := ?_) rfl (by kernel_rfl) (by kernel_rfl) (by kernel_rfl) (fun _ _ _ h => h) (Or.inl ⟨by rfl, ?_⟩) hSS ?_
                    rotate_left
                    · intro wz hSz
                      go_simp
                      try with_reducible rfl
                    simp only [List.getElem_toArray, List.getElem_cons_zero, List.getElem_cons_succ, Act.put, List.setIfInBounds_toArray, List.set_cons_zero, List.set_cons_succ]
                    refine wpAnyH_take (i := 7) (v := ?_) rfl (by kernel_rfl) (by kernel_rfl) (by kernel_rfl) (fun _ _ _ h => h) (Or.inl ⟨by rfl, ?_⟩) hSS ?_
                    rotate_left
                    · intro wz hSz
                      obtain ⟨p0, p1, p2, p3, p4, p5, p6, p7, p8⟩ := HRV.out _ hSz
                      go_simp
                      try with_reducible rfl
                    simp only [List.getElem_toArray, List.getElem_cons_zero, List.getElem_cons_succ, Act.put, List.setIfInBounds_toArray, List.set_cons_zero, List.set_cons_succ]
                    refine wpAnyH_take (i := 8) (v := ?_) rfl (by kernel_rfl) (by kernel_rfl) (by kernel_rfl) (fun _ _ _ h => h) (Or.inl ⟨by rfl, ?_⟩) hSS ?_
                    rotate_left
                    · intro wz hSz
                      go_simp
                      try with_reducible rfl
                    simp only [List.getElem_toArray, List.getElem_cons_zero, List.getElem_cons_succ, Act.put, List.setIfInBounds_toArray, List.set_cons_zero, List.set_cons_succ]
                    refine wpAnyH_take (i := 9) (v := ?_) rfl (by kernel_rfl) (by kernel_rfl) (by kernel_rfl) (fun _ _ _ h => h) (Or.inl ⟨by rfl, ?_⟩) hSS ?_
                    rotate_left
                    · intro wz hSz
                      go_simp
                      try with_reducible rfl
                    simp only [List.getElem_toArray, List.getElem_cons_zero, List.getElem_cons_succ, Act.put, List.setIfInBounds_toArray, List.set_cons_zero, List.set_cons_succ]
                    refine wpAnyH_take (i := 10) (v := ?_) rfl (by kernel_rfl) (by kernel_rfl) (by kernel_rfl) (fun _ _ _ h => h) (Or.inl ⟨by rfl, ?_⟩) hSS ?_
                    rotate_left
                    · intro wz hSz
                      obtain ⟨p0, p1, p2, p3, p4, p5, p6, p7, p8⟩ := HRV.out _ hSz
                      go_simp
                      try with_reducible rfl
                    simp only [List.getElem_toArray, List.getElem_cons_zero, List.getElem_cons_succ, Act.put, List.setIfInBounds_toArray, List.set_cons_zero, List.set_cons_succ]
                    generalize w8.drew = W0 at *
                    refine wpAnyH_ready (rs := [0]) (by kernel_rfl) (by simp) (AllReadyH.cons rfl (fun K1 hK1 => ?_) AllReadyH.nil)
                    refine step_plain (by rfl) ?_
                    simp only [List.getElem_toArray, List.getElem_cons_zero]
                    go_simp
                    have hV := VL2.none (W0.alloc (.cells #[] 25)) OK w8.heap.size W0.heap.size hSS.size 25 _ rfl (heap_alloc_new W0 _) rfl
                    refine hK1.out _ _ (hSS.alloc hSS.size _) (fun hSS => ?_)
                    refine wpAnyH_ready (rs := [5]) (by kernel_rfl) (by simp) (AllReadyH.cons rfl (fun K2 hK2 => ?_) AllReadyH.nil)
                    obtain ⟨v5, W5, hr5, hV5, hg5, -⟩ := append_vals hV ((HVO.out _ _ hSS (fun k hk => (hV.own k hk).1)).cut hvk.2.1 0 B) hvlB (fun e => by obtain ⟨h1, h2⟩ := cutN_nil 0 7 hvk.1 e; exact ⟨by omega, h2⟩) hSS.size (by simp; omega) 22 (c := vc)
                    refine step_append_any (by rfl) _ _ _ (by rfl) _ _ (by rfl) (by rfl) hr5 ?_
                    simp only [List.drop_zero, List.nil_append] at hV5
                    refine hK2.out _ _ (hSS.grown hg5 hSS.size (fun k hk => (hV.own k hk).1)) (fun hSS => ?_)
                    clear hV hr5 hg5 hK1 hK2
                    refine wpAnyH_ready (rs := [11]) (by kernel_rfl) (by simp) (AllReadyH.cons rfl (fun K3 hK3 => ?_) AllReadyH.nil)
                    refine step_plain (by rfl) ?_
                    simp only [List.getElem_toArray, List.getElem_cons_zero, List.getElem_cons_succ]
                    go_simp
                    go_at_call 9
                    refine (C.out _ hSS).mono ?_
                    rintro e w6 ⟨yp, rfl, hv6, hb6⟩
                    have ho5 := hV5.own
                    have hs5 := hSS.size
                    replace hV5 := hV5.below hb6
                    go_simp
                    refine hK3.out _ _ (hSS.trans (hb6.mono hSS.size)) (fun hSS6 => ?_)
                    refine wpAnyH_ready (rs := [12]) (by kernel_rfl) (by simp) (AllReadyH.cons rfl (fun K4 hK4 => ?_) AllReadyH.nil)
                    refine step_plain (by rfl) ?_
                    simp only [List.getElem_toArray, List.getElem_cons_zero, List.getElem_cons_succ]
                    go_simp
                    have h12 := heap_alloc_new w6 (.cells #[.int .i64 x.k, .bool x.b, .int .i64 x.n, .int .i64 x.m, .string x.s, .slice yp.la x.l.length yp.lc, .slice yp.ka x.keys.length yp.kc] 25)
                    have ha6 : Below w6.heap.size w6 (w6.alloc (.cells #[.int .i64 x.k, .bool x.b, .int .i64 x.n, .int .i64 x.m, .string x.s, .slice yp.la x.l.length yp.lc, .slice yp.ka x.keys.length yp.kc] 25)) := (Below.refl _ _).alloc (Nat.le_refl _) _
                    have hok6 : ∀ b, W5.heap.size ≤ b → OK b ∧ v5.ownBlock ≠ some b := fun b hb => ⟨(HOK.out b).2 ⟨by omega, Or.inr (by omega)⟩, fun e => by have := (ho5 b e).2; omega⟩
                    have hv7 := (hv6.mono (ok' := fun b => OK b ∧ v5.ownBlock ≠ some b) (fun b h1 _ => hok6 b h1)).stays ha6
                    have hV7 := hV5.below ha6
                    have hrow7 := one_vrow h12 (hok6 _ hb6.size) hv7
                    clear h12 hv7 hv6 hV5
                    refine hK4.out _ _ (hSS6.alloc hSS6.size _) (fun hSS => ?_)
                    refine wpAnyH_ready (rs := [13]) (by kernel_rfl) (by simp) (AllReadyH.cons rfl (fun K5 hK5 => ?_) AllReadyH.nil)
                    obtain ⟨v13, W13, hr13, hV13, hg13, -⟩ := append_vals hV7 hrow7 rfl (fun e => by cases e) hSS.size (by simp; omega) 22 (c := 1)
                    refine step_append_any (by rfl) _ _ _ (by rfl) _ _ (by rfl) (by rfl) hr13 ?_
                    refine hK5.out _ _ (hSS.grown hg13 hSS.size (fun k hk => (hV7.own k hk).1)) (fun hSS => ?_)
                    refine wpAnyH_take (i := 14) (v := v13) rfl (by kernel_rfl) (by kernel_rfl) (by kernel_rfl) (fun _ _ _ h => h) (Or.inl ⟨by rfl, ?_⟩) hSS ?_
                    · intro wz hSz
                      go_simp
                    refine wpAnyH_done (by kernel_rfl) ?_ _
                    go_wp2_with fail
                    go_meet
                    exact ⟨hV13, hSS⟩
                  case rest =>
                    obtain ⟨hV9, hb9⟩ := hcut
                    obtain ⟨w9, rfl⟩ : ∃ w9, w9 = wc := ⟨_, rfl⟩
                    have hb09 := hb8.trans (hb9.mono hs8)
                    have hs9 := hb9.size
                    have hX9 := (hb09.block (w.heap.size + 2) hlt8).trans hX
                    have hO9 := hO8.below hb9
                    have hB9 := hB8.below hb9
                    have hdk : (ks.drop B).take (ks.length - B) = ks.drop B := List.take_of_length_le (by simp)
                    have hdv : (vs.drop B).take (vs.length - B) = vs.drop B := List.take_of_length_le (by simp)
                    have hown8 := hO8.own
                    have hown9 := hV9.own
                    -- the keys
                    obtain ⟨k30, W30, hr30, hO30, hg30, ha30⟩ := append_texts hO9 ((hsr.below hb09).cut hsk.2.1 B (ks.length - B)) (m := ks.length - B) (c := xc - B) (by simp) (fun e => by obtain ⟨h1, h2⟩ := cutN_nil B 1 hsk.1 e; exact ⟨by omega, by omega⟩) (by omega) (by simp; omega) 23
                    rw [hdk] at hO30
                    obtain ⟨KS, hKS⟩ : ∃ KS, KS = ks.take B ++ [q[j]] ++ ks.drop B := ⟨_, rfl⟩
                    rw [← hKS] at hO30
                    have hs30 := hg30.size
                    have hX30 := (hg30.block (w.heap.size + 2) (by omega) (fun e => by have := (hown8 _ e.symm).1; omega)).trans hX9
                    have hX31 := heap_setCell_same _ _ 6 _ _ k30 hX30
                    have hV31 := (hV9.grown hg30 (fun k hk => ⟨fun e => by have h1 := (hown8 _ hk).2; have h2 := (hown9 _ e).1; omega, fun e => by have h1 := hown8 _ hk; have h2 := (HOK.out k).1 e; omega⟩)).set (i := 6) (k := w.heap.size + 2) (by omega) (fun e => by have h2 := (HOK.out _).1 e; omega) k30
                    have hb30 : Below w8.heap.size w8 w9 := hb9
                    -- the values, in the world behind the store
                    have hrow31 : VRow (W30.setCell ⟨w.heap.size + 2, 6, none⟩ k30) (fun b => OK b ∧ u9.ownBlock ≠ some b) va vs := by
                      have h1 : VRow w9 (fun b => OK b ∧ u9.ownBlock ≠ some b) va vs := HVO.out _ _ hb9 (fun k hk => (hown9 k hk).1)
                      have h2 : VRow W30 (fun b => OK b ∧ u9.ownBlock ≠ some b) va vs := h1.agree (fun b hb hlt => hg30.block b hlt (fun e => by have h1 := hown8 _ e.symm; have h2 := (HOK.out b).1 hb.1; omega))
                      exact h2.agree (Agree.setCell k30 (fun e => by have h2 := (HOK.out _).1 e.1; omega))
                    obtain ⟨v31, W32, hr31, hV32, hg32, ha32⟩ := append_vals hV31 (hrow31.cut hvk.2.1 B (vs.length - B)) (m := vs.length - B) (c := vc - B) (by simp) (fun e => by obtain ⟨h1, h2⟩ := cutN_nil B 7 hvk.1 e; exact ⟨by omega, by omega⟩) (by simp; omega) (by simp; omega) 22
                    rw [hdv] at hV32
                    obtain ⟨VS, hVS⟩ : ∃ VS, VS = vs.take B ++ [x] ++ vs.drop B := ⟨_, rfl⟩
                    rw [← hVS] at hV32
                    have hs32 := hg32.size
                    simp only [World.size_setCell] at hs32
                    have hX32 := (hg32.block (w.heap.size + 2) (by simp; omega) (fun e => by have := (hown9 _ e.symm).1; omega)).trans hX31
                    have hX33 := heap_setCell_same _ _ 5 _ _ v31 hX32
                    have hO33 := (((hO30.set (i := 6) (k := w.heap.size + 2) (by omega) k30).grown hg32 (fun k hk => by
                      have h1 := hown9 k hk
                      rcases ha30 with h | h
                      · rw [h]; intro e; have := (hown8 k e).2; omega
                      · rw [h]; intro e; injection e with e; omega))).set (i := 5) (k := w.heap.size + 2) (by omega) v31
                    have hV33 := hV32.set (i := 5) (k := w.heap.size + 2) (by omega) (fun e => by have h2 := (HOK.out _).1 e; omega) v31
                    have hB33 := (((hB9.grown hg30 (fun k hk => by have := (hown8 k hk).1; omega)).set (i := 6) (k := w.heap.size + 2) (Nat.le_refl _) k30).grown hg32 (fun k hk => by have := (hown9 k hk).1; omega)).set (i := 5) (k := w.heap.size + 2) (Nat.le_refl _) v31
                    have HS3 : Hid (insAll (Z.take (j + 1)) [] [] = (KS, VS)) := by
                      show _ = _
                      rw [hKS, hVS, HST.out]
                      simp [insKeys, insVals, hno.out, HBB.out]
                    obtain ⟨xa2, xc2, rfl, hsk2, hsr2⟩ := hO33.row (ok := fun b => w.heap.size + 3 ≤ b) (fun b hb => by omega)
                    obtain ⟨va2, vc2, rfl, hvk2, hvr2⟩ := hV33.row (n := w.heap.size + 3) (by omega) (fun b hb => ((HOK.out b).1 hb).1)
                    have c6 := cell_of_row _ _ 6 _ _ _ hX9
                    have d6 := cell_of_row _ _ 6 _ _ _ hX30
                    have d6f := frozen_of_row _ _ 6 _ _ hX30
                    have e5 := cell_of_row _ _ 5 _ _ _ hX31
                    have g5 := cell_of_row _ _ 5 _ _ _ hX32
                    have g5f := frozen_of_row _ _ 5 _ _ hX32
                    simp only [List.getElem?_cons_succ, List.getElem?_cons_zero, List.getElem?_toArray, List.setIfInBounds_toArray, List.set_cons_zero, List.set_cons_succ] at c6 d6 e5 g5 hX33
                    have hcutk := cutS_l (some ⟨xb, xo, none⟩) ks.length xc B hle
                    have hcutv := cutV_l va vs.length vc B hvB
                    clear hKS hVS hX9 hX30 hX31 hX32 hX hsr hvr hvk hsk hO8 hO9 hO30 hO33 hV9 hV31 hV32 hV33 hrow31 HVO HRV HOK C hB hB8 hB9 HST hdk hdv HKV hno HBB ha30 ha32 hg30 hg32 hown8 hown9 HL
                    go_wp2_with (at_builtin; go_must (first | (refine wpList_append_run (by rfl) _ _ _ (by rfl) _ _ (by rfl) (by rfl) hr30 ?_) | (refine wpList_append_run (by rfl) _ _ _ (by rfl) _ _ (by rfl) (by rfl) hr31 ?_) | fail))
                    go_roundw
                    case rel => exact ⟨j + 1, _, _, va2, vc2, xa2, xc2, by omega, by omega, by go_num, HS3, hsr2, hsk2, hvr2, hvk2, hX33, hB33⟩
                    case measure => simp [intOf]; omega
            · have hno : Hid (hasAt q[j] ks = false) := hasAt_end hik
              have hle : below q[j] ks ≤ ks.length := by omega
              have hik' : ¬ ((below q[j] ks : Nat) : Int) < (ks.length : Int) := by omega
              clear HBL HBA HKC HZ
              generalize hBB : below q[j] ks = B at *
              have HBB : Hid (below q[j] ks = B) := hBB
              clear hBB
              go_upto_region 25 with fail
              refine wp_region_held_drew (S := fun w' => Below wo.heap.size wo w') (by kernel_rfl) (Below.drew hbi) (fun hSS => ?_)
              refine wpAnyH_take (i := 0) (v := ?_) rfl (by kernel_rfl) (by kernel_rfl) (by kernel_rfl) (fun _ _ _ h => h) (Or.inl ⟨by rfl, ?_⟩) hSS ?_
              rotate_left
              · intro wz hSz
                go_simp
                try with_reducible rfl
              simp only [List.getElem_toArray, List.getElem_cons_zero, Act.put, List.setIfInBounds_toArray, List.set_cons_zero, List.set_cons_succ]
              refine wpAnyH_take (i := 1) (v := ?_) rfl (by kernel_rfl) (by kernel_rfl) (by kernel_rfl) (fun _ _ _ h => h) (Or.inl ⟨by rfl, ?_⟩) hSS ?_
              rotate_left
              · intro wz hSz
                go_simp
                try with_reducible rfl
              simp only [List.getElem_toArray, List.getElem_cons_zero, List.getElem_cons_succ, Act.put, List.setIfInBounds_toArray, List.set_cons_zero, List.set_cons_succ]
              refine wpAnyH_take (i := 2) (v := ?_) rfl (by kernel_rfl) (by kernel_rfl) (by kernel_rfl) (fun _ _ _ h => h) (Or.inl ⟨by rfl, ?_⟩) hSS ?_
              rotate_left
              · intro wz hSz
                obtain ⟨p0, p1, p2⟩ := HRD.out _ hSz
                go_simp
                try with_reducible rfl
              simp only [List.getElem_toArray, List.getElem_cons_zero, List.getElem_cons_succ, Act.put, List.setIfInBounds_toArray, List.set_cons_zero, List.set_cons_succ]
              refine wpAnyH_take (i := 3) (v := ?_) rfl (by kernel_rfl) (by kernel_rfl) (by kernel_rfl) (fun _ _ _ h => h) (Or.inl ⟨by rfl, ?_⟩) hSS ?_
              rotate_left
              · intro wz hSz
                go_simp
                try with_reducible rfl
              simp only [List.getElem_toArray, List.getElem_cons_zero, List.getElem_cons_succ, Act.put, List.setIfInBounds_toArray, List.set_cons_zero, List.set_cons_succ]
              refine wpAnyH_take (i := 4) (v := (.bool false)) rfl (by kernel_rfl) (by kernel_rfl) (by kernel_rfl) (fun _ _ _ h => h) (Or.inl ⟨by rfl, ?_⟩) hSS ?_
              · intro wz hSz
                go_simp
              simp only [List.getElem_toArray, List.getElem_cons_zero, List.getElem_cons_succ, Act.put, List.setIfInBounds_toArray, List.set_cons_zero, List.set_cons_succ]
              refine wpAnyH_take (i := 5) (v := ?_) rfl (by kernel_rfl) (by kernel_rfl) (by kernel_rfl) (fun _ _ _ h => h) (Or.inl ⟨by rfl, ?_⟩) hSS ?_
              rotate_left
              · intro wz hSz
                go_simp
                try with_reducible rfl
              simp only [List.getElem_toArray, List.getElem_cons_zero, List.getElem_cons_succ, Act.put, List.setIfInBounds_toArray, List.set_cons_zero, List.set_cons_succ]
              refine wpAnyH_take (i := 6) (v := undef) rfl (by kernel_rfl) (by kernel_rfl) (by kernel_rfl) (fun _ _ _ h => h) (Or.inr ⟨by rfl, rfl⟩) hSS ?_
              simp only [List.getElem_toArray, List.getElem_cons_zero, List.getElem_cons_succ, Act.put, List.setIfInBounds_toArray, List.set_cons_zero, List.set_cons_succ]
              refine wpAnyH_take (i := 7) (v := undef) rfl (by kernel_rfl) (by kernel_rfl) (by kernel_rfl) (fun _ _ _ h => h) (Or.inr ⟨by rfl, rfl⟩) hSS ?_
              simp only [List.getElem_toArray, List.getElem_cons_zero, List.getElem_cons_succ, Act.put, List.setIfInBounds_toArray, List.set_cons_zero, List.set_cons_succ]
              refine wpAnyH_take (i := 8) (v := undef) rfl (by kernel_rfl) (by kernel_rfl) (by kernel_rfl) (fun _ _ _ h => h) (Or.inr ⟨by rfl, rfl⟩) hSS ?_
              simp only [List.getElem_toArray, List.getElem_cons_zero, List.getElem_cons_succ, Act.put, List.setIfInBounds_toArray, List.set_cons_zero, List.set_cons_succ]
              refine wpAnyH_take (i := 9) (v := undef) rfl (by kernel_rfl) (by kernel_rfl) (by kernel_rfl) (fun _ _ _ h => h) (Or.inr ⟨by rfl, rfl⟩) hSS ?_
              simp only [List.getElem_toArray, List.getElem_cons_zero, List.getElem_cons_succ, Act.put, List.setIfInBounds_toArray, List.set_cons_zero, List.set_cons_succ]
              refine wpAnyH_take (i := 10) (v := undef) rfl (by kernel_rfl) (by kernel_rfl) (by kernel_rfl) (fun _ _ _ h => h) (Or.inr ⟨by rfl, rfl⟩) hSS ?_
              simp only [List.getElem_toArray, List.getElem_cons_zero, List.getElem_cons_succ, Act.put, List.setIfInBounds_toArray, List.set_cons_zero, List.set_cons_succ]
              refine wpAnyH_take (i := 11) (v := undef) rfl (by kernel_rfl) (by kernel_rfl) (by kernel_rfl) (fun _ _ _ h => h) (Or.inr ⟨by rfl, rfl⟩) hSS ?_
              simp only [List.getElem_toArray, List.getElem_cons_zero, List.getElem_cons_succ, Act.put, List.setIfInBounds_toArray, List.set_cons_zero, List.set_cons_succ]
              refine wpAnyH_take (i := 12) (v := undef) rfl (by kernel_rfl) (by kernel_rfl) (by kernel_rfl) (fun _ _ _ h => h) (Or.inr ⟨by rfl, rfl⟩) hSS ?_
              simp only [List.getElem_toArray, List.getElem_cons_zero, List.getElem_cons_succ, Act.put, List.setIfInBounds_toArray, List.set_cons_zero, List.set_cons_succ]
              refine wpAnyH_take (i := 13) (v := undef) rfl (by kernel_rfl) (by kernel_rfl) (by kernel_rfl) (fun _ _ _ h => h) (Or.inr ⟨by rfl, rfl⟩) hSS ?_
              simp only [List.getElem_toArray, List.getElem_cons_zero, List.getElem_cons_succ, Act.put, List.setIfInBounds_toArray, List.set_cons_zero, List.set_cons_succ]
              refine wpAnyH_take (i := 14) (v := undef) rfl (by kernel_rfl) (by kernel_rfl) (by kernel_rfl) (fun _ _ _ h => h) (Or.inr ⟨by rfl, rfl⟩) hSS ?_
              simp only [List.getElem_toArray, List.getElem_cons_zero, List.getElem_cons_succ, Act.put, List.setIfInBounds_toArray, List.set_cons_zero, List.set_cons_succ]
              refine wpAnyH_take (i := 15) (v := undef) rfl (by kernel_rfl) (by kernel_rfl) (by kernel_rfl) (fun _ _ _ h => h) (Or.inr ⟨by rfl, rfl⟩) hSS ?_
              simp only [List.getElem_toArray, List.getElem_cons_zero, List.getElem_cons_succ, Act.put, List.setIfInBounds_toArray, List.set_cons_zero, List.set_cons_succ]
              refine wpAnyH_take (i := 16) (v := undef) rfl (by kernel_rfl) (by kernel_rfl) (by kernel_rfl) (fun _ _ _ h => h) (Or.inr ⟨by rfl, rfl⟩) hSS ?_
              simp only [List.getElem_toArray, List.getElem_cons_zero, List.getElem_cons_succ, Act.put, List.setIfInBounds_toArray, List.set_cons_zero, List.set_cons_succ]
              refine wpAnyH_take (i := 17) (v := (.bool false)) rfl (by kernel_rfl) (by kernel_rfl) (by kernel_rfl) (fun _ _ _ h => h) (Or.inl ⟨by rfl, ?_⟩) hSS ?_
              · intro wz hSz
                go_simp
              simp only [List.getElem_toArray, List.getElem_cons_zero, List.getElem_cons_succ, Act.put, List.setIfInBounds_toArray, List.set_cons_zero, List.set_cons_succ]
              refine wpAnyH_done (by kernel_rfl) ?_ _
              go_upto_region 27 with fail
              refine wp_region_held_drew (S := fun w' => Below wo.heap.size wo w') (by kernel_rfl) (Below.drew hSS) (fun hSS => ?_)
              refine wpAnyH_take (i := 0) (v := ?_) rfl (by kernel_rfl) (by kernel_rfl) (by kernel_rfl) (fun _ _ _ h => h) (Or.inl ⟨by rfl, ?_⟩) hSS ?_
              rotate_left
              · intro wz hSz
                go_simp
                try with_reducible rfl
              simp only [List.getElem_toArray, List.getElem_cons_zero, Act.put, List.setIfInBounds_toArray, List.set_cons_zero, List.set_cons_succ]
              refine wpAnyH_take (i := 1) (v := ?_) rfl (by kernel_rfl) (by kernel_rfl) (by kernel_rfl) (fun _ _ _ h => h) (Or.inl ⟨by rfl, ?_⟩) hSS ?_
              rotate_left
              · intro wz hSz
                go_simp
                try with_reducible rfl
              simp only [List.getElem_toArray, List.getElem_cons_zero, List.getElem_cons_succ, Act.put, List.setIfInBounds_toArray, List.set_cons_zero, List.set_cons_succ]
              refine wpAnyH_take (i := 2) (v := ?_) rfl (by kernel_rfl) (by kernel_rfl) (by kernel_rfl) (fun _ _ _ h => h) (Or.inl ⟨by rfl, ?_⟩) hSS ?_
              rotate_left
              · intro wz hSz
                obtain ⟨p0, p1, p2⟩ := HRD.out _ hSz
                go_simp
                try with_reducible rfl
              simp only [List.getElem_toArray, List.getElem_cons_zero, List.getElem_cons_succ, Act.put, List.setIfInBounds_toArray, List.set_cons_zero, List.set_cons_succ]
              refine wpAnyH_take (i := 3) (v := ?_) rfl (by kernel_rfl) (by kernel_rfl) (by kernel_rfl) (fun _ _ _ h => h) (Or.inl ⟨by rfl, ?_⟩) hSS ?_
              rotate_left
              · intro wz hSz
                go_simp
                try with_reducible rfl
              simp only [List.getElem_toArray, List.getElem_cons_zero, List.getElem_cons_succ, Act.put, List.setIfInBounds_toArray, List.set_cons_zero, List.set_cons_succ]
              refine wpAnyH_take (i := 4) (v := (.bool false)) rfl (by kernel_rfl) (by kernel_rfl) (by kernel_rfl) (fun _ _ _ h => h) (Or.inl ⟨by rfl, ?_⟩) hSS ?_
              · intro wz hSz
                go_simp
              simp only [List.getElem_toArray, List.getElem_cons_zero, List.getElem_cons_succ, Act.put, List.setIfInBounds_toArray, List.set_cons_zero, List.set_cons_succ]
              refine wpAnyH_take (i := 5) (v := ?_) rfl (by kernel_rfl) (by kernel_rfl) (by kernel_rfl) (fun _ _ _ h => h) (Or.inl ⟨by rfl, ?_⟩) hSS ?_
              rotate_left
              · intro wz hSz
                go_simp
                try with_reducible rfl
              simp only [List.getElem_toArray, List.getElem_cons_zero, List.getElem_cons_succ, Act.put, List.setIfInBounds_toArray, List.set_cons_zero, List.set_cons_succ]
              refine wpAnyH_take (i := 6) (v := undef) rfl (by kernel_rfl) (by kernel_rfl) (by kernel_rfl) (fun _ _ _ h => h) (Or.inr ⟨by rfl, rfl⟩) hSS ?_
              simp only [List.getElem_toArray, List.getElem_cons_zero, List.getElem_cons_succ, Act.put, List.setIfInBounds_toArray, List.set_cons_zero, List.set_cons_succ]
              refine wpAnyH_take (i := 7) (v := undef) rfl (by kernel_rfl) (by kernel_rfl) (by kernel_rfl) (fun _ _ _ h => h) (Or.inr ⟨by rfl, rfl⟩) hSS ?_
              simp only [List.getElem_toArray, List.getElem_cons_zero, List.getElem_cons_succ, Act.put, List.setIfInBounds_toArray, List.set_cons_zero, List.set_cons_succ]
              refine wpAnyH_take (i := 8) (v := undef) rfl (by kernel_rfl) (by kernel_rfl) (by kernel_rfl) (fun _ _ _ h => h) (Or.inr ⟨by rfl, rfl⟩) hSS ?_
              simp only [List.getElem_toArray, List.getElem_cons_zero, List.getElem_cons_succ, Act.put, List.setIfInBounds_toArray, List.set_cons_zero, List.set_cons_succ]
              refine wpAnyH_take (i := 9) (v := undef) rfl (by kernel_rfl) (by kernel_rfl) (by kernel_rfl) (fun _ _ _ h => h) (Or.inr ⟨by rfl, rfl⟩) hSS ?_
              simp only [List.getElem_toArray, List.getElem_cons_zero, List.getElem_cons_succ, Act.put, List.setIfInBounds_toArray, List.set_cons_zero, List.set_cons_succ]
              refine wpAnyH_take (i := 10) (v := undef) rfl (by kernel_rfl) (by kernel_rfl) (by kernel_rfl) (fun _ _ _ h => h) (Or.inr ⟨by rfl, rfl⟩) hSS ?_
              simp only [List.getElem_toArray, List.getElem_cons_zero, List.getElem_cons_succ, Act.put, List.setIfInBounds_toArray, List.set_cons_zero, List.set_cons_succ]
              refine wpAnyH_take (i := 11) (v := undef) rfl (by kernel_rfl) (by kernel_rfl) (by kernel_rfl) (fun _ _ _ h => h) (Or.inr ⟨by rfl, rfl⟩) hSS ?_
              simp only [List.getElem_toArray, List.getElem_cons_zero, List.getElem_cons_succ, Act.put, List.setIfInBounds_toArray, List.set_cons_zero, List.set_cons_succ]
              refine wpAnyH_take (i := 12) (v := undef) rfl (by kernel_rfl) (by kernel_rfl) (by kernel_rfl) (fun _ _ _ h => h) (Or.inr ⟨by rfl, rfl⟩) hSS ?_
              simp only [List.getElem_toArray, List.getElem_cons_zero, List.getElem_cons_succ, Act.put, List.setIfInBounds_toArray, List.set_cons_zero, List.set_cons_succ]
              refine wpAnyH_take (i := 13) (v := undef) rfl (by kernel_rfl) (by kernel_rfl) (by kernel_rfl) (fun _ _ _ h => h) (Or.inr ⟨by rfl, rfl⟩) hSS ?_
              simp only [List.getElem_toArray, List.getElem_cons_zero, List.getElem_cons_succ, Act.put, List.setIfInBounds_toArray, List.set_cons_zero, List.set_cons_succ]
              refine wpAnyH_take (i := 14) (v := undef) rfl (by kernel_rfl) (by kernel_rfl) (by kernel_rfl) (fun _ _ _ h => h) (Or.inr ⟨by rfl, rfl⟩) hSS ?_
              simp only [List.getElem_toArray, List.getElem_cons_zero, List.getElem_cons_succ, Act.put, List.setIfInBounds_toArray, List.set_cons_zero, List.set_cons_succ]
              refine wpAnyH_take (i := 15) (v := undef) rfl (by kernel_rfl) (by kernel_rfl) (by kernel_rfl) (fun _ _ _ h => h) (Or.inr ⟨by rfl, rfl⟩) hSS ?_
              simp only [List.getElem_toArray, List.getElem_cons_zero, List.getElem_cons_succ, Act.put, List.setIfInBounds_toArray, List.set_cons_zero, List.set_cons_succ]
              refine wpAnyH_take (i := 16) (v := undef) rfl (by kernel_rfl) (by kernel_rfl) (by kernel_rfl) (fun _ _ _ h => h) (Or.inr ⟨by rfl, rfl⟩) hSS ?_
              simp only [List.getElem_toArray, List.getElem_cons_zero, List.getElem_cons_succ, Act.put, List.setIfInBounds_toArray, List.set_cons_zero, List.set_cons_succ]
              refine wpAnyH_take (i := 17) (v := (.bool false)) rfl (by kernel_rfl) (by kernel_rfl) (by kernel_rfl) (fun _ _ _ h => h) (Or.inl ⟨by rfl, ?_⟩) hSS ?_
              · intro wz hSz
                go_simp
              simp only [List.getElem_toArray, List.getElem_cons_zero, List.getElem_cons_succ, Act.put, List.setIfInBounds_toArray, List.set_cons_zero, List.set_cons_succ]
              refine wpAnyH_done (by kernel_rfl) ?_ _
              go_upto_region 28 with fail
              have hBc : B ≤ xc := Nat.le_trans hle hsk.2.1
              have hlB : ((ks.drop 0).take B).length = B := by simp; omega
              go_cut [8] from 118 to 130 (fun s8 wx => SOwn wx wo.heap.size s8 (ks.take B ++ [q[j]]) ∧ Below wo.heap.size wo wx)
              case first =>
                refine wp_region_held_drew (S := fun w' => Below wo.heap.size wo w') (by kernel_rfl) (Below.drew hSS) (fun hSS => ?_)
                refine wpAnyH_take (i := 1) (v := ?_) rfl (by kernel_rfl) (by kernel_rfl) (by kernel_rfl) (fun _ _ _ h => h) (Or.inl ⟨by rfl, ?_⟩) hSS ?_
                rotate_left
                · intro wz hSz
                  go_simp
                  try with_reducible rfl
                simp only [List.getElem_toArray, List.getElem_cons_zero, List.getElem_cons_succ, Act.put, List.setIfInBounds_toArray, List.set_cons_zero, List.set_cons_succ]
                refine wpAnyH_take (i := 2) (v := ?_) rfl (by kernel_rfl) (by kernel_rfl) (by kernel_rfl) (fun _ _ _ h => h) (Or.inl ⟨by rfl, ?_⟩) hSS ?_
                rotate_left
                · intro wz hSz
                  obtain ⟨p0, p1, p2⟩ := HRD.out _ hSz
                  go_simp
                  try with_reducible rfl
                simp only [List.getElem_toArray, List.getElem_cons_zero, List.getElem_cons_succ, Act.put, List.setIfInBounds_toArray, List.set_cons_zero, List.set_cons_succ]
                refine wpAnyH_take (i := 3) (v := ?_) rfl (by kernel_rfl) (by kernel_rfl) (by kernel_rfl) (fun _ _ _ h => h) (Or.inl ⟨by rfl, ?_⟩) hSS ?_
                rotate_left
                · intro wz hSz
                  go_simp
                  try with_reducible rfl
                simp only [List.getElem_toArray, List.getElem_cons_zero, List.getElem_cons_succ, Act.put, List.setIfInBounds_toArray, List.set_cons_zero, List.set_cons_succ]
                refine wpAnyH_take (i := 4) (v := .slice (cutN xa xc 0 1) B xc) rfl (by kernel_rfl) (by kernel_rfl) (by kernel_rfl) (fun _ _ _ h => h) (Or.inl ⟨by rfl, ?_⟩) hSS ?_
                · intro wz hSz
                  have hcut := cutS_h xa ks.length xc B hBc
                  go_simp
                simp only [List.getElem_toArray, List.getElem_cons_zero, List.getElem_cons_succ, Act.put, List.setIfInBounds_toArray, List.set_cons_zero, List.set_cons_succ]
                refine wpAnyH_take (i := 6) (v := ?_) rfl (by kernel_rfl) (by kernel_rfl) (by kernel_rfl) (fun _ _ _ h => h) (Or.inl ⟨by rfl, ?_⟩) hSS ?_
                rotate_left
                · intro wz hSz
                  go_simp
                  try with_reducible rfl
                simp only [List.getElem_toArray, List.getElem_cons_zero, List.getElem_cons_succ, Act.put, List.setIfInBounds_toArray, List.set_cons_zero, List.set_cons_succ]
                refine wpAnyH_take (i := 7) (v := ?_) rfl (by kernel_rfl) (by kernel_rfl) (by kernel_rfl) (fun _ _ _ h => h) (Or.inl ⟨by rfl, ?_⟩) hSS ?_
                rotate_left
                · intro wz hSz
                  obtain ⟨p0, p1, p2⟩ := HRD.out _ hSz
                  go_simp
                  try with_reducible rfl
                simp only [List.getElem_toArray, List.getElem_cons_zero, List.getElem_cons_succ, Act.put, List.setIfInBounds_toArray, List.set_cons_zero, List.set_cons_succ]
                refine wpAnyH_take (i := 8) (v := ?_) rfl (by kernel_rfl) (by kernel_rfl) (by kernel_rfl) (fun _ _ _ h => h) (Or.inl ⟨by rfl, ?_⟩) hSS ?_
                rotate_left
                · intro wz hSz
                  go_simp
                  try with_reducible rfl
                simp only [List.getElem_toArray, List.getElem_cons_zero, List.getElem_cons_succ, Act.put, List.setIfInBounds_toArray, List.set_cons_zero, List.set_cons_succ]
                refine wpAnyH_take (i := 9) (v := ?_) rfl (by kernel_rfl) (by kernel_rfl) (by kernel_rfl) (fun _ _ _ h => h) (Or.inl ⟨by rfl, ?_⟩) hSS ?_
                rotate_left
                · intro wz hSz
                  go_simp
                  try with_reducible rfl
                simp only [List.getElem_toArray, List.getElem_cons_zero, List.getElem_cons_succ, Act.put, List.setIfInBounds_toArray, List.set_cons_zero, List.set_cons_succ]
                refine wpAnyH_take (i := 10) (v := ?_) rfl (by kernel_rfl) (by kernel_rfl) (by kernel_rfl) (fun _ _ _ h => h) (Or.inl ⟨by rfl, ?_⟩) hSS ?_
                rotate_left
                · intro wz hSz
                  obtain ⟨p0, p1, p2⟩ := HRD.out _ hSz
                  go_simp
                  try with_reducible rfl
                simp only [List.getElem_toArray, List.getElem_cons_zero, List.getElem_cons_succ, Act.put, List.setIfInBounds_toArray, List.set_cons_zero, List.set_cons_succ]
                generalize wr.drew.drew.drew = W0 at *
                refine wpAnyH_ready (rs := [0, 11]) (by kernel_rfl) (by simp) (AllReadyH.cons rfl (fun K1 hK1 => ?_) (AllReadyH.cons rfl (fun K1 hK1 => ?_) AllReadyH.nil))
                · refine step_plain (by rfl) ?_
                  simp only [List.getElem_toArray, List.getElem_cons_zero]
                  go_simp
                  have hO := SOwn.none (W0.alloc (.cells #[] 9)) wo.heap.size W0.heap.size (hSS.size) (heap_alloc_new W0 _)
                  refine hK1.out _ _ (hSS.alloc hSS.size _) (fun hSS => ?_)
                  refine wpAnyH_ready (rs := [5, 11]) (by kernel_rfl) (by simp) (AllReadyH.cons rfl (fun K2 hK2 => ?_) (AllReadyH.cons rfl (fun K2 hK2 => ?_) AllReadyH.nil))
                  · obtain ⟨v5, W5, hr5, hO5, hg5, -⟩ := append_texts hO (((hsr.below hSS).cut hsk.2.1 0 B)) hlB (fun e => by obtain ⟨h1, h2⟩ := cutN_nil 0 1 hsk.1 e; exact ⟨by omega, h2⟩) (by have := hSS.size; omega) (by simp; omega) 23 (c := xc)
                    refine step_append_any (by rfl) _ _ _ (by rfl) _ _ (by rfl) (by rfl) hr5 ?_
                    simp only [List.drop_zero, List.nil_append] at hO5
                    refine hK2.out _ _ (hSS.grown hg5 hSS.size (fun k hk => (hO.own k hk).1)) (fun hSS => ?_)
                    refine wpAnyH_ready (rs := [11]) (by kernel_rfl) (by simp) (AllReadyH.cons rfl (fun K3 hK3 => ?_) AllReadyH.nil)
                    refine step_plain (by rfl) ?_
                    simp only [List.getElem_toArray, List.getElem_cons_zero, List.getElem_cons_succ]
                    go_simp
                    have h11 := heap_alloc_new W5 (.cells #[.string q[j]] 9)
                    refine hK3.out _ _ (hSS.alloc hSS.size _) (fun hSS => ?_)
                    have hO6 := hO5.below ((Below.refl _ _).alloc (Nat.le_refl _) (.cells #[.string q[j]] 9))
                    refine wpAnyH_ready (rs := [12]) (by kernel_rfl) (by simp) (AllReadyH.cons rfl (fun K4 hK4 => ?_) AllReadyH.nil)
                    obtain ⟨v12, W12, hr12, hO12, hg12, -⟩ := append_texts hO6 (one_srow h11 hqm) rfl (fun e => by cases e) (by have := hSS.size; omega) (by simp; omega) 23 (c := 1)
                    refine step_append_any (by rfl) _ _ _ (by rfl) _ _ (by rfl) (by rfl) hr12 ?_
                    refine hK4.out _ _ (hSS.grown hg12 hSS.size (fun k hk => (hO6.own k hk).1)) (fun hSS => ?_)
                    refine wpAnyH_take (i := 13) (v := v12) rfl (by kernel_rfl) (by kernel_rfl) (by kernel_rfl) (fun _ _ _ h => h) (Or.inl ⟨by rfl, ?_⟩) hSS ?_
                    · intro wz hSz
                      go_simp
                    refine wpAnyH_done (by kernel_rfl) ?_ _
                    go_wp2_with fail
                    go_meet
                    exact ⟨hO12, hSS⟩
                  · refine step_plain (by rfl) ?_
                    simp only [List.getElem_toArray, List.getElem_cons_zero, List.getElem_cons_succ]
                    go_simp
                    have h11 := heap_alloc_new (W0.alloc (.cells #[] 9)) (.cells #[.string q[j]] 9)
                    simp only [World.size_alloc] at h11
                    refine hK2.out _ _ (hSS.alloc hSS.size _) (fun hSS => ?_)
                    replace hO := hO.below ((Below.refl _ _).alloc (Nat.le_refl _) (.cells #[.string q[j]] 9))
                    refine wpAnyH_ready (rs := [5]) (by kernel_rfl) (by simp) (AllReadyH.cons rfl (fun K3 hK3 => ?_) AllReadyH.nil)
                    obtain ⟨v5, W5, hr5, hO5, hg5, -⟩ := append_texts hO (((hsr.below hSS).cut hsk.2.1 0 B)) hlB (fun e => by obtain ⟨h1, h2⟩ := cutN_nil 0 1 hsk.1 e; exact ⟨by omega, h2⟩) (by have := hSS.size; omega) (by simp; omega) 23 (c := xc)
                    refine step_append_any (by rfl) _ _ _ (by rfl) _ _ (by rfl) (by rfl) hr5 ?_
                    simp only [List.drop_zero, List.nil_append] at hO5
                    refine hK3.out _ _ (hSS.grown hg5 hSS.size (fun k hk => (hO.own k hk).1)) (fun hSS => ?_)
                    have h12 := (hg5.block _ (by first | (simp; done) | (simp; omega)) (by first | (simp [Value.ownBlock]; done) | (simp [Value.ownBlock]; omega))).trans h11
                    refine wpAnyH_ready (rs := [12]) (by kernel_rfl) (by simp) (AllReadyH.cons rfl (fun K4 hK4 => ?_) AllReadyH.nil)
                    obtain ⟨v12, W12, hr12, hO12, hg12, -⟩ := append_texts hO5 (one_srow h12 hqm) rfl (fun e => by cases e) (by have := hSS.size; omega) (by simp; omega) 23 (c := 1)
                    refine step_append_any (by rfl) _ _ _ (by rfl) _ _ (by rfl) (by rfl) hr12 ?_
                    refine hK4.out _ _ (hSS.grown hg12 hSS.size (fun k hk => (hO5.own k hk).1)) (fun hSS => ?_)
                    refine wpAnyH_take (i := 13) (v := v12) rfl (by kernel_rfl) (by kernel_rfl) (by kernel_rfl) (fun _ _ _ h => h) (Or.inl ⟨by rfl, ?_⟩) hSS ?_
                    · intro wz hSz
                      go_simp
                    refine wpAnyH_done (by kernel_rfl) ?_ _
                    go_wp2_with fail
                    go_meet
                    exact ⟨hO12, hSS⟩
                · refine step_plain (by rfl) ?_
                  simp only [List.getElem_toArray, List.getElem_cons_zero, List.getElem_cons_succ]
                  go_simp
                  have h11 := heap_alloc_new W0 (.cells #[.string q[j]] 9)
                  refine hK1.out _ _ (hSS.alloc hSS.size _) (fun hSS => ?_)
                  refine wpAnyH_ready (rs := [0]) (by kernel_rfl) (by simp) (AllReadyH.cons rfl (fun K2 hK2 => ?_) AllReadyH.nil)
                  refine step_plain (by rfl) ?_
                  simp only [List.getElem_toArray, List.getElem_cons_zero]
                  go_simp
                  have hO := SOwn.none ((W0.alloc (.cells #[.string q[j]] 9)).alloc (.cells #[] 9)) wo.heap.size (W0.alloc (.cells #[.string q[j]] 9)).heap.size (hSS.size) (heap_alloc_new (W0.alloc (.cells #[.string q[j]] 9)) _)
                  simp only [World.size_alloc] at hO
                  refine hK2.out _ _ (hSS.alloc hSS.size _) (fun hSS => ?_)
                  replace h11 := (Below.heap_alloc _ (.cells #[] 9) W0.heap.size (by simp)).trans h11
                  refine wpAnyH_ready (rs := [5]) (by kernel_rfl) (by simp) (AllReadyH.cons rfl (fun K3 hK3 => ?_) AllReadyH.nil)
                  obtain ⟨v5, W5, hr5, hO5, hg5, -⟩ := append_texts hO (((hsr.below hSS).cut hsk.2.1 0 B)) hlB (fun e => by obtain ⟨h1, h2⟩ := cutN_nil 0 1 hsk.1 e; exact ⟨by omega, h2⟩) (by have := hSS.size; omega) (by simp; omega) 23 (c := xc)
                  refine step_append_any (by rfl) _ _ _ (by rfl) _ _ (by rfl) (by rfl) hr5 ?_
                  simp only [List.drop_zero, List.nil_append] at hO5
                  refine hK3.out _ _ (hSS.grown hg5 hSS.size (fun k hk => (hO.own k hk).1)) (fun hSS => ?_)
                  have h12 := (hg5.block _ (by first | (simp; done) | (simp; omega)) (by first | (simp [Value.ownBlock]; done) | (simp [Value.ownBlock]; omega))).trans h11
                  refine wpAnyH_ready (rs := [12]) (by kernel_rfl) (by simp) (AllReadyH.cons rfl (fun K4 hK4 => ?_) AllReadyH.nil)
                  obtain ⟨v12, W12, hr12, hO12, hg12, -⟩ := append_texts hO5 (one_srow h12 hqm) rfl (fun e => by cases e) (by have := hSS.size; omega) (by simp; omega) 23 (c := 1)
                  refine step_append_any (by rfl) _ _ _ (by rfl) _ _ (by rfl) (by rfl) hr12 ?_
                  refine hK4.out _ _ (hSS.grown hg12 hSS.size (fun k hk => (hO5.own k hk).1)) (fun hSS => ?_)
                  refine wpAnyH_take (i := 13) (v := v12) rfl (by kernel_rfl) (by kernel_rfl) (by kernel_rfl) (fun _ _ _ h => h) (Or.inl ⟨by rfl, ?_⟩) hSS ?_
                  · intro wz hSz
                    go_simp
                  refine wpAnyH_done (by kernel_rfl) ?_ _
                  go_wp2_with fail
                  go_meet
                  exact ⟨hO12, hSS⟩
              case rest =>
                obtain ⟨hO8, hb8⟩ := hcut
                obtain ⟨w8, rfl⟩ : ∃ w8, w8 = wc := ⟨_, rfl⟩
                have hbw8 := hbw.trans (hb8.mono hbw.size)
                obtain ⟨bl, off, rfl, -, hcc⟩ := hc (by intro e; subst e; simp at hlt)
                have hVA := (hcc j hlt).below hbw8
                have C : Hid (∀ W, Below w8.heap.size w8 W → Calls Tryz.prog 9 #[l[j].val (P j)] W fun e w' => ∃ p', e = .returned (l[j].clean.val p') ∧ VIn w' (fun b => W.heap.size ≤ b) l[j].clean p' ∧ Below W.heap.size W w') := fun W hW => CC.out W j hlt (hbw8.trans (hW.mono hbw8.size))
                have hlt8 : w.heap.size + 2 < wo.heap.size := (Array.getElem?_eq_some_iff.1 hX).1
                have hX8 := (hb8.block (w.heap.size + 2) hlt8).trans hX
                have hB8 := hB.below hb8
                have hs8 := hb8.size
                have hvB : B ≤ vs.length := by have := HKV.out; omega
                have hvc : B ≤ vc := Nat.le_trans hvB hvk.2.1
                have hvlB : ((vs.drop 0).take B).length = B := by simp; omega
                have hvn : vs.length ≤ 1048576 := by have := HKV.out; omega
                have y5 := cell_of_row _ _ 5 _ _ _ hX8
                have z5 := hB8.cells 5
                simp only [V.cells, List.getElem?_cons_succ, List.getElem?_cons_zero, List.getElem?_toArray] at y5 z5
                have HRV : Hid (∀ W, Below w8.heap.size w8 W → W.cell? ⟨w.heap.size + 2, 5, none⟩ = some (.slice va vs.length vc) ∧ W.cell? ⟨w.heap.size, 5, none⟩ = some (.slice (some ⟨bl, off, none⟩) l.length lc) ∧ VAt W bl off j l[j] (P j)) := fun W hW => ⟨(hW.cell (p := ⟨w.heap.size + 2, 5, none⟩) (World.block_lt_of_cell? _ _ y5)).trans y5, (hW.cell (p := ⟨w.heap.size, 5, none⟩) (World.block_lt_of_cell? _ _ z5)).trans z5, hVA.below hW⟩
                obtain ⟨OK, hOK⟩ : ∃ OK : Nat → Prop, ∀ b, OK b ↔ (w.heap.size + 3 ≤ b ∧ (b < wo.heap.size ∨ w8.heap.size ≤ b)) := ⟨fun b => w.heap.size + 3 ≤ b ∧ (b < wo.heap.size ∨ w8.heap.size ≤ b), fun _ => Iff.rfl⟩
                have HOK : Hid (∀ b, OK b ↔ (w.heap.size + 3 ≤ b ∧ (b < wo.heap.size ∨ w8.heap.size ≤ b))) := hOK
                have HVO : Hid (∀ (W : World) (sv : Value), Below w8.heap.size w8 W → (∀ k, sv.ownBlock = some k → w8.heap.size ≤ k) → VRow W (fun b => OK b ∧ sv.ownBlock ≠ some b) va vs) := fun W sv hW hs => VRow.old (X := w8.heap.size) hvr (hb8.trans (hW.mono hs8)) (fun b h1 h2 => (hOK b).2 ⟨h1, Or.inl h2⟩) hs8 hs
                clear hOK hcc hc hVA y5 z5 HRD CC hX8
                unfold VAt at HRV
                generalize hxx : l[j].clean = x at *
                generalize l[j] = xe at *
                generalize P j = xp at *
                unfold V.val at C
                go_upto_region 29 with fail
                go_cut [9] from 131 to 144 (fun s9 wx => VL2 wx OK w8.heap.size s9 (vs.take B ++ [x]) ∧ Below w8.heap.size w8 wx)
                case first =>
                  refine wp_region_held_drew (S := fun w' => Below w8.heap.size w8 w') (by kernel_rfl) (Below.drew (Below.refl _ _)) (fun hSS => ?_)
                  refine wpAnyH_take (i := 1) (v := ?_) rfl (by kernel_rfl) (by kernel_rfl) (by kernel_rfl) (fun _ _ _ h => h) (Or.inl ⟨by rfl, ?_⟩) hSS ?_
                  rotate_left
                  · intro wz hSz
                    go_simp
                    try with_reducible rfl
                  simp only [List.getElem_toArray, List.getElem_cons_zero, List.getElem_cons_succ, Act.put, List.setIfInBounds_toArray, List.set_cons_zero, List.set_cons_succ]
                  refine wpAnyH_take (i := 2) (v := ?_) rfl (by kernel_rfl) (by kernel_rfl) (by kernel_rfl) (fun _ _ _ h => h) (Or.inl ⟨by rfl, ?_⟩) hSS ?_
                  rotate_left
                  · intro wz hSz
                    obtain ⟨p0, p1, p2, p3, p4, p5, p6, p7, p8⟩ := HRV.out _ hSz
                    go_simp
                    try with_reducible rfl
                  simp only [List.getElem_toArray, List.getElem_cons_zero, List.getElem_cons_succ, Act.put, List.setIfInBounds_toArray, List.set_cons_zero, List.set_cons_succ]
                  refine wpAnyH_take (i := 3) (v := ?_) rfl (by kernel_rfl) (by kernel_rfl) (by kernel_rfl) (fun _ _ _ h => h) (Or.inl ⟨by rfl, ?_⟩) hSS ?_
                  rotate_left
                  · intro wz hSz
                    go_simp
                    try with_reducible rfl
                  simp only [List.getElem_toArray, List.getElem_cons_zero, List.getElem_cons_succ, Act.put, List.setIfInBounds_toArray, List.set_cons_zero, List.set_cons_succ]
                  refine wpAnyH_take (i := 4) (v := .slice (cutN va vc 0 7) B vc) rfl (by kernel_rfl) (by kernel_rfl) (by kernel_rfl) (fun _ _ _ h => h) (Or.inl ⟨by rfl, ?_⟩) hSS ?_
                  · intro wz hSz
                    have hcut := cutV_h va vs.length vc B hvc
                    go_simp
                  simp only [List.getElem_toArray, List.getElem_cons_zero, List.getElem_cons_succ, Act.put, List.setIfInBounds_toArray, List.set_cons_zero, List.set_cons_succ]
                  refine wpAnyH_take (i := 6) (v := ?_) rfl (by kernel_rfl) (by kernel_rfl) (by kernel_rfl) (fun _ _ _ h => h) (Or.inl ⟨by rfl, ?_⟩) hSS ?_
                  rotate_left
                  · intro wz hSz
                    go_simp
                    try with_reducible rfl
                  simp only [List.getElem_toArray, List.getElem_cons_zero, List.getElem_cons_succ, Act.put, List.setIfInBounds_toArray, List.set_cons_zero, List.set_cons_succ]
                  refine wpAnyH_take (i := 7) (v := ?_) rfl (by kernel_rfl) (by kernel_rfl) (by kernel_rfl) (fun _ _ _ h => h) (Or.inl ⟨by rfl, ?_⟩) hSS ?_
                  rotate_left
                  · intro wz hSz
                    obtain ⟨p0, p1, p2, p3, p4, p5, p6, p7, p8⟩ := HRV.out _ hSz
                    go_simp
                    try with_reducible rfl
                  simp only [List.getElem_toArray, List.getElem_cons_zero, List.getElem_cons_succ, Act.put, List.setIfInBounds_toArray, List.set_cons_zero, List.set_cons_succ]
                  refine wpAnyH_take (i := 8) (v := ?_) rfl (by kernel_rfl) (by kernel_rfl) (by kernel_rfl) (fun _ _ _ h => h) (Or.inl ⟨by rfl, ?_⟩) hSS ?_
                  rotate_left
                  · intro wz hSz
                    go_simp
                    try with_reducible rfl
                  simp only [List.getElem_toArray, List.getElem_cons_zero, List.getElem_cons_succ, Act.put, List.setIfInBounds_toArray, List.set_cons_zero, List.set_cons_succ]
                  refine wpAnyH_take (i := 9) (v := ?_) rfl (by kernel_rfl) (by kernel_rfl) (by kernel_rfl) (fun _ _ _ h => h) (Or.inl ⟨by rfl, ?_⟩) hSS ?_
                  rotate_left
                  · intro wz hSz
                    go_simp
                    try with_reducible rfl
                  simp only [List.getElem_toArray, List.getElem_cons_zero, List.getElem_cons_succ, Act.put, List.setIfInBounds_toArray, List.set_cons_zero, List.set_cons_succ]
                  refine wpAnyH_take (i := 10) (v := ?_) rfl (by kernel_rfl) (by kernel_rfl) (by kernel_rfl) (fun _ _ _ h => h) (Or.inl ⟨by rfl, ?_⟩) hSS ?_
                  rotate_left
                  · intro wz hSz
                    obtain ⟨p0, p1, p2, p3, p4, p5, p6, p7, p8⟩ := HRV.out _ hSz
                    go_simp
                    try with_reducible rfl
                  simp only [List.getElem_toArray, List.getElem_cons_zero, List.getElem_cons_succ, Act.put, List.setIfInBounds_toArray, List.set_cons_zero, List.set_cons_succ]
                  generalize w8.drew = W0 at *
                  refine wpAnyH_ready (rs := [0]) (by kernel_rfl) (by simp) (AllReadyH.cons rfl (fun K1 hK1 => ?_) AllReadyH.nil)
                  refine step_plain (by rfl) ?_
                  simp only [List.getElem_toArray, List.getElem_cons_zero]
                  go_simp
                  have hV := VL2.none (W0.alloc (.cells #[] 25)) OK w8.heap.size W0.heap.size hSS.size 25 _ rfl (heap_alloc_new W0 _) rfl
                  refine hK1.out _ _ (hSS.alloc hSS.size _) (fun hSS => ?_)
                  refine wpAnyH_ready (rs := [5]) (by kernel_rfl) (by simp) (AllReadyH.cons rfl (fun K2 hK2 => ?_) AllReadyH.nil)
                  obtain ⟨v5, W5, hr5, hV5, hg5, -⟩ := append_vals hV ((HVO.out _ _ hSS (fun k hk => (hV.own k hk).1)).cut hvk.2.1 0 B) hvlB (fun e => by obtain ⟨h1, h2⟩ := cutN_nil 0 7 hvk.1 e; exact ⟨by omega, h2⟩) hSS.size (by simp; omega) 22 (c := vc)
                  refine step_append_any (by rfl) _ _ _ (by rfl) _ _ (by rfl) (by rfl) hr5 ?_
                  simp only [List.drop_zero, List.nil_append] at hV5
                  refine hK2.out _ _ (hSS.grown hg5 hSS.size (fun k hk => (hV.own k hk).1)) (fun hSS => ?_)
                  clear hV hr5 hg5 hK1 hK2
                  refine wpAnyH_ready (rs := [11]) (by kernel_rfl) (by simp) (AllReadyH.cons rfl (fun K3 hK3 => ?_) AllReadyH.nil)
                  refine step_plain (by rfl) ?_
                  simp only [List.getElem_toArray, List.getElem_cons_zero, List.getElem_cons_succ]
                  go_simp
                  go_at_call 9
                  refine (C.out _ hSS).mono ?_
                  rintro e w6 ⟨yp, rfl, hv6, hb6⟩
                  have ho5 := hV5.own
                  have hs5 := hSS.size
                  replace hV5 := hV5.below hb6
                  go_simp
                  refine hK3.out _ _ (hSS.trans (hb6.mono hSS.size)) (fun hSS6 => ?_)
                  refine wpAnyH_ready (rs := [12]) (by kernel_rfl) (by simp) (AllReadyH.cons rfl (fun K4 hK4 => ?_) AllReadyH.nil)
                  refine step_plain (by rfl) ?_
                  simp only [List.getElem_toArray, List.getElem_cons_zero, List.getElem_cons_succ]
                  go_simp
                  have h12 := heap_alloc_new w6 (.cells #[.int .i64 x.k, .bool x.b, .int .i64 x.n, .int .i64 x.m, .string x.s, .slice yp.la x.l.length yp.lc, .slice yp.ka x.keys.length yp.kc] 25)
                  have ha6 : Below w6.heap.size w6 (w6.alloc (.cells #[.int .i64 x.k, .bool x.b, .int .i64 x.n, .int .i64 x.m, .string x.s, .slice yp.la x.l.length yp.lc, .slice yp.ka x.keys.length yp.kc] 25)) := (Below.refl _ _).alloc (Nat.le_refl _) _
                  have hok6 : ∀ b, W5.heap.size ≤ b → OK b ∧ v5.ownBlock ≠ some b := fun b hb => ⟨(HOK.out b).2 ⟨by omega, Or.inr (by omega)⟩, fun e => by have := (ho5 b e).2; omega⟩
                  have hv7 := (hv6.mono (ok' := fun b => OK b ∧ v5.ownBlock ≠ some b) (fun b h1 _ => hok6 b h1)).stays ha6
                  have hV7 := hV5.below ha6
                  have hrow7 := one_vrow h12 (hok6 _ hb6.size) hv7
                  clear h12 hv7 hv6 hV5
                  refine hK4.out _ _ (hSS6.alloc hSS6.size _) (fun hSS => ?_)
                  refine wpAnyH_ready (rs := [13]) (by kernel_rfl) (by simp) (AllReadyH.cons rfl (fun K5 hK5 => ?_) AllReadyH.nil)
                  obtain ⟨v13, W13, hr13, hV13, hg13, -⟩ := append_vals hV7 hrow7 rfl (fun e => by cases e) hSS.size (by simp; omega) 22 (c := 1)
                  refine step_append_any (by rfl) _ _ _ (by rfl) _ _ (by rfl) (by rfl) hr13 ?_
                  refine hK5.out _ _ (hSS.grown hg13 hSS.size (fun k hk => (hV7.own k hk).1)) (fun hSS => ?_)
                  refine wpAnyH_take (i := 14) (v := v13) rfl (by kernel_rfl) (by kernel_rfl) (by kernel_rfl) (fun _ _ _ h => h) (Or.inl ⟨by rfl, ?_⟩) hSS ?_
                  · intro wz hSz
                    go_simp
                  refine wpAnyH_done (by kernel_rfl) ?_ _
                  go_wp2_with fail
                  go_meet
                  exact ⟨hV13, hSS⟩
                case rest =>
                  obtain ⟨hV9, hb9⟩ := hcut
                  obtain ⟨w9, rfl⟩ : ∃ w9, w9 = wc := ⟨_, rfl⟩
                  have hb09 := hb8.trans (hb9.mono hs8)
                  have hs9 := hb9.size
                  have hX9 := (hb09.block (w.heap.size + 2) hlt8).trans hX
                  have hO9 := hO8.below hb9
                  have hB9 := hB8.below hb9
                  have hdk : (ks.drop B).take (ks.length - B) = ks.drop B := List.take_of_length_le (by simp)
                  have hdv : (vs.drop B).take (vs.length - B) = vs.drop B := List.take_of_length_le (by simp)
                  have hown8 := hO8.own
                  have hown9 := hV9.own
                  -- the keys
                  obtain ⟨k30, W30, hr30, hO30, hg30, ha30⟩ := append_texts hO9 ((hsr.below hb09).cut hsk.2.1 B (ks.length - B)) (m := ks.length - B) (c := xc - B) (by simp) (fun e => by obtain ⟨h1, h2⟩ := cutN_nil B 1 hsk.1 e; exact ⟨by omega, by omega⟩) (by omega) (by simp; omega) 23
                  rw [hdk] at hO30
                  obtain ⟨KS, hKS⟩ : ∃ KS, KS = ks.take B ++ [q[j]] ++ ks.drop B := ⟨_, rfl⟩
                  rw [← hKS] at hO30
                  have hs30 := hg30.size
                  have hX30 := (hg30.block (w.heap.size + 2) (by omega) (fun e => by have := (hown8 _ e.symm).1; omega)).trans hX9
                  have hX31 := heap_setCell_same _ _ 6 _ _ k30 hX30
                  have hV31 := (hV9.grown hg30 (fun k hk => ⟨fun e => by have h1 := (hown8 _ hk).2; have h2 := (hown9 _ e).1; omega, fun e => by have h1 := hown8 _ hk; have h2 := (HOK.out k).1 e; omega⟩)).set (i := 6) (k := w.heap.size + 2) (by omega) (fun e => by have h2 := (HOK.out _).1 e; omega) k30
                  have hb30 : Below w8.heap.size w8 w9 := hb9
                  -- the values, in the world behind the store
                  have hrow31 : VRow (W30.setCell ⟨w.heap.size + 2, 6, none⟩ k30) (fun b => OK b ∧ u9.ownBlock ≠ some b) va vs := by
                    have h1 : VRow w9 (fun b => OK b ∧ u9.ownBlock ≠ some b) va vs := HVO.out _ _ hb9 (fun k hk => (hown9 k hk).1)
                    have h2 : VRow W30 (fun b => OK b ∧ u9.ownBlock ≠ some b) va vs := h1.agree (fun b hb hlt => hg30.block b hlt (fun e => by have h1 := hown8 _ e.symm; have h2 := (HOK.out b).1 hb.1; omega))
                    exact h2.agree (Agree.setCell k30 (fun e => by have h2 := (HOK.out _).1 e.1; omega))
                  obtain ⟨v31, W32, hr31, hV32, hg32, ha32⟩ := append_vals hV31 (hrow31.cut hvk.2.1 B (vs.length - B)) (m := vs.length - B) (c := vc - B) (by simp) (fun e => by obtain ⟨h1, h2⟩ := cutN_nil B 7 hvk.1 e; exact ⟨by omega, by omega⟩) (by simp; omega) (by simp; omega) 22
                  rw [hdv] at hV32
                  obtain ⟨VS, hVS⟩ : ∃ VS, VS = vs.take B ++ [x] ++ vs.drop B := ⟨_, rfl⟩
                  rw [← hVS] at hV32
                  have hs32 := hg32.size
                  simp only [World.size_setCell] at hs32
                  have hX32 := (hg32.block (w.heap.size + 2) (by simp; omega) (fun e => by have := (hown9 _ e.symm).1; omega)).trans hX31
                  have hX33 := heap_setCell_same _ _ 5 _ _ v31 hX32
                  have hO33 := (((hO30.set (i := 6) (k := w.heap.size + 2) (by omega) k30).grown hg32 (fun k hk => by
                    have h1 := hown9 k hk
                    rcases ha30 with h | h
                    · rw [h]; intro e; have := (hown8 k e).2; omega
                    · rw [h]; intro e; injection e with e; omega))).set (i := 5) (k := w.heap.size + 2) (by omega) v31
                  have hV33 := hV32.set (i := 5) (k := w.heap.size + 2) (by omega) (fun e => by have h2 := (HOK.out _).1 e; omega) v31
                  have hB33 := (((hB9.grown hg30 (fun k hk => by have := (hown8 k hk).1; omega)).set (i := 6) (k := w.heap.size + 2) (Nat.le_refl _) k30).grown hg32 (fun k hk => by have := (hown9 k hk).1; omega)).set (i := 5) (k := w.heap.size + 2) (Nat.le_refl _) v31
                  have HS3 : Hid (insAll (Z.take (j + 1)) [] [] = (KS, VS)) := by
                    show _ = _
                    rw [hKS, hVS, HST.out]
                    simp [insKeys, insVals, hno.out, HBB.out]
                  obtain ⟨xa2, xc2, rfl, hsk2, hsr2⟩ := hO33.row (ok := fun b => w.heap.size + 3 ≤ b) (fun b hb => by omega)
                  obtain ⟨va2, vc2, rfl, hvk2, hvr2⟩ := hV33.row (n := w.heap.size + 3) (by omega) (fun b hb => ((HOK.out b).1 hb).1)
                  have c6 := cell_of_row _ _ 6 _ _ _ hX9
                  have d6 := cell_of_row _ _ 6 _ _ _ hX30
                  have d6f := frozen_of_row _ _ 6 _ _ hX30
                  have e5 := cell_of_row _ _ 5 _ _ _ hX31
                  have g5 := cell_of_row _ _ 5 _ _ _ hX32
                  have g5f := frozen_of_row _ _ 5 _ _ hX32
                  simp only [List.getElem?_cons_succ, List.getElem?_cons_zero, List.getElem?_toArray, List.setIfInBounds_toArray, List.set_cons_zero, List.set_cons_succ] at c6 d6 e5 g5 hX33
                  have hcutk := cutS_l xa ks.length xc B hle
                  have hcutv := cutV_l va vs.length vc B hvB
                  clear hKS hVS hX9 hX30 hX31 hX32 hX hsr hvr hvk hsk hO8 hO9 hO30 hO33 hV9 hV31 hV32 hV33 hrow31 HVO HRV HOK C hB hB8 hB9 HST hdk hdv HKV hno HBB ha30 ha32 hg30 hg32 hown8 hown9 HL
                  go_wp2_with (at_builtin; go_must (first | (refine wpList_append_run (by rfl) _ _ _ (by rfl) _ _ (by rfl) (by rfl) hr30 ?_) | (refine wpList_append_run (by rfl) _ _ _ (by rfl) _ _ (by rfl) (by rfl) hr31 ?_) | fail))
                  go_roundw
                  case rel => exact ⟨j + 1, _, _, va2, vc2, xa2, xc2, by omega, by omega, by go_num, HS3, hsr2, hsk2, hvr2, hvk2, hX33, hB33⟩
                  case measure => simp [intOf]; omega
      · have hfin : Hid (insAll Z [] [] = (ks, vs)) := by
          have := hid.out
          rw [List.take_of_length_le (by rw [HL.out]; omega)] at this
          exact this
        have hlq' : ¬ (j : Int) < (q.length : Int) := by omega
        clear hid HL hkeys
        have y0 := cell_of_row _ _ 0 _ _ _ hB.2.1
        have y1 := cell_of_row _ _ 1 _ _ _ hB.2.1
        have y2 := cell_of_row _ _ 2 _ _ _ hB.2.1
        have y3 := cell_of_row _ _ 3 _ _ _ hB.2.1
        have y4 := cell_of_row _ _ 4 _ _ _ hB.2.1
        have y5 := cell_of_row _ _ 5 _ _ _ hB.2.1
        have y6 := cell_of_row _ _ 6 _ _ _ hB.2.1
        have yf := fun o => frozen_of_row _ _ o _ _ hB.2.1
        simp only [List.getElem?_cons_succ, List.getElem?_cons_zero, List.getElem?_toArray] at y0 y1 y2 y3 y4 y5 y6
        obtain ⟨P5, hrr, hri⟩ := hvr
        obtain ⟨g1, g2, g3⟩ := set7 hB (.int .i64 7) (.bool false) (.int .i64 0) (.int .i64 0) (.string ByteArray.empty) (.slice va vs.length vc) (.slice xa ks.length xc) (VIn.mk 7 false 0 0 ByteArray.empty vs ks ⟨va, vc, xa, xc⟩ P5 (by unfold I64; omega) i64_0 i64_0 empty_max hvk hsk hsr hrr hri)
        have d0 := cell_of_row _ _ 0 _ _ _ g1
        have d1 := cell_of_row _ _ 1 _ _ _ g1
        have d2 := cell_of_row _ _ 2 _ _ _ g1
        have d3 := cell_of_row _ _ 3 _ _ _ g1
        have d4 := cell_of_row _ _ 4 _ _ _ g1
        have d5 := cell_of_row _ _ 5 _ _ _ g1
        have d6 := cell_of_row _ _ 6 _ _ _ g1
        simp only [List.getElem?_cons_succ, List.getElem?_cons_zero, List.getElem?_toArray] at d0 d1 d2 d3 d4 d5 d6
        clear hc hrr hri CC HZ hsr hX
        go_wp2_with fail
        exact bodyPost_ret (v := .agg #[.int .i64 7, .bool false, .int .i64 0, .int .i64 0, .string ByteArray.empty, .slice va vs.length vc, .slice xa ks.length xc]) (by simp [results, Tryz.results9, go_sem, d0, d1, d2, d3, d4, d5, d6]) rfl ⟨⟨va, vc, xa, xc⟩, by rw [hfin.out], by rw [hfin.out]; exact g3, g2⟩
    · have hfin : Hid (insAll Z [] [] = (ks, vs)) := by
        have := hid.out
        rw [List.take_of_length_le (by rw [HL.out]; omega)] at this
        exact this
      clear hid HL hkeys
      have y0 := cell_of_row _ _ 0 _ _ _ hB.2.1
      have y1 := cell_of_row _ _ 1 _ _ _ hB.2.1
      have y2 := cell_of_row _ _ 2 _ _ _ hB.2.1
      have y3 := cell_of_row _ _ 3 _ _ _ hB.2.1
      have y4 := cell_of_row _ _ 4 _ _ _ hB.2.1
      have y5 := cell_of_row _ _ 5 _ _ _ hB.2.1
      have y6 := cell_of_row _ _ 6 _ _ _ hB.2.1
      have yf := fun o => frozen_of_row _ _ o _ _ hB.2.1
      simp only [List.getElem?_cons_succ, List.getElem?_cons_zero, List.getElem?_toArray] at y0 y1 y2 y3 y4 y5 y6
      obtain ⟨P5, hrr, hri⟩ := hvr
      obtain ⟨g1, g2, g3⟩ := set7 hB (.int .i64 7) (.bool false) (.int .i64 0) (.int .i64 0) (.string ByteArray.empty) (.slice va vs.length vc) (.slice xa ks.length xc) (VIn.mk 7 false 0 0 ByteArray.empty vs ks ⟨va, vc, xa, xc⟩ P5 (by unfold I64; omega) i64_0 i64_0 empty_max hvk hsk hsr hrr hri)
      have d0 := cell_of_row _ _ 0 _ _ _ g1
      have d1 := cell_of_row _ _ 1 _ _ _ g1
      have d2 := cell_of_row _ _ 2 _ _ _ g1
      have d3 := cell_of_row _ _ 3 _ _ _ g1
      have d4 := cell_of_row _ _ 4 _ _ _ g1
      have d5 := cell_of_row _ _ 5 _ _ _ g1
      have d6 := cell_of_row _ _ 6 _ _ _ g1
      simp only [List.getElem?_cons_succ, List.getElem?_cons_zero, List.getElem?_toArray] at d0 d1 d2 d3 d4 d5 d6
      clear hc hrr hri CC HZ hsr hX
      go_wp2_with fail
      exact bodyPost_ret (v := .agg #[.int .i64 7, .bool false, .int .i64 0, .int .i64 0, .string ByteArray.empty, .slice va vs.length vc, .slice xa ks.length xc]) (by simp [results, Tryz.results9, go_sem, d0, d1, d2, d3, d4, d5, d6]) rfl ⟨⟨va, vc, xa, xc⟩, by rw [hfin.out], by rw [hfin.out]; exact g3, g2⟩
end Go.Proofs.YtepohbcpepkboaaGreat

