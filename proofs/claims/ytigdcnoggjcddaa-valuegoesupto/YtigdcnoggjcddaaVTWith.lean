/- A Map with another value of a key: with. Conditions: values in memory, keys rising, at most 1048576 of them and of their letters. -/
import Derived.Test.YtigdcnoggjcddaaVPutP
import Derived.Test.YtigdcnoggjcddaaVInsV
import Derived.Test.YtigdcnoggjcddaaVSearch
namespace Go.Proofs.Ytigdcnoggjcddaa
open Go.RowKit Go.Maps Go.WideMaps

set_option maxRecDepth 100000 in
theorem insS_any {w : World} {base : Nat} {sv : Value} {q : List ByteArray} (h : w.ownsRow base 9 1 sv q.length (q.map Value.string)) {i : Nat} (hi : i ≤ q.length) {vb : Nat} {key : ByteArray} (hv : w.heap[vb]? = some (.cells #[.string key] 9 (0, 0))) (hvs : sv.ownBlock ≠ some vb) (hbase : base ≤ w.heap.size) (hn : q.length ≤ 1048576) :
    Calls Try.prog 91 #[sv, .int .i64 (i : Nat), .slice (some ⟨vb, 0, none⟩) 1 1] w fun e w' => ∃ v', e = .returned v' ∧ w'.ownsRow base 9 1 v' (q.length + 1) ((q.take i ++ key :: q.drop i).map Value.string) ∧ ∀ X, X ≤ w.heap.size → (∀ k, sv.ownBlock = some k → X ≤ k) → Below X w w' := by
  have hl : (q.map Value.string).length = q.length := by simp
  refine (ins_any_s (us := q.map Value.string) (by rw [hl]; exact h) (by simp [Value.oneCell']) (by rw [hl]; exact hi) (by rfl) hv hvs hbase (by rw [hl]; exact hn)).mono ?_
  rintro e w' ⟨v', rfl, h1, h2⟩
  refine ⟨v', rfl, ?_, h2⟩
  rw [hl] at h1
  rw [List.map_append, List.map_cons, List.map_take, List.map_drop]
  exact h1
set_option maxRecDepth 100000 in
theorem own_ge {w : World} {base n : Nat} {E : TypeId} {v : Value} {xs : List Value} (h : w.ownsRow base E 1 v n xs) : ∀ k, v.ownBlock = some k → base ≤ k ∧ k < w.heap.size := fun k hk => h.lt k hk
set_option maxRecDepth 100000 in
set_option maxHeartbeats 1600000 in
theorem twith_any {w : World} {ok : Nat → Prop} (hk : ∀ b, w.heap.size ≤ b → ok b) (B M : Nat) (l : List V) (q : List ByteArray) (a : Option Addr) (c : Nat) (ka : Option Addr) (kc : Nat) (c4 : w.cell? ⟨B, 4, none⟩ = some (.slice a l.length c)) (c5 : w.cell? ⟨B, 5, none⟩ = some (.slice ka q.length kc)) (c6 : w.cell? ⟨B, 6, none⟩ = some (.map (some M))) (hM : Places w M q) (hr : RRow w ok a l) (hok : SliceOk a l.length c) (hs : SRow w ok ka q) (hok2 : SliceOk ka q.length kc) (hq : q.length = l.length) (hqr : Rising q)
    (key : ByteArray) (hkm : key.size ≤ maxLen) {u : Value} {x : V} (hu : Rep w ok u x) (hn : l.length ≤ 1048575) (hbk : V.bulk.go (mapPut l q key x).l ≤ 1048576) :
    Calls Try.prog 78 #[.pointer (some ⟨B, 0, none⟩), .string key, .agg #[u]] w fun e w' => ∃ h, e = .returned (.agg #[h]) ∧ Rep w' ok h (mapPut l q key x) ∧ Below w.heap.size w w' := by
  obtain ⟨n, D, hown, hh, hat⟩ := hM
  have hkey : keyOf Try.prog 9 (.string key) = some (litS key) := keyOf_string_mk Try.underlying9 hkm
  have hhz : Maps.has D (litS key) = (V.mk 7 false 0 0 ByteArray.empty l q).hasK key := by rw [Bool.eq_iff_iff, hasK_mem]; exact hh key
  have hlt := World.block_lt_of_cell? _ _ c6
  have hone := hu.one
  have hB0 := BX.start w u
  have hownW : ∀ W, BX w W u → W.ownsMap Try.prog 9 (plainElem Try.prog 3) M n D := fun W hW => mapOwn_agree hown (hW.2.2.block M hown.lt)
  have HX : Hid (∀ W, BX w W u → W.cell? ⟨w.heap.size, 0, none⟩ = some u ∧ W.cell? ⟨B, 4, none⟩ = some (.slice a l.length c) ∧ W.cell? ⟨B, 5, none⟩ = some (.slice ka q.length kc) ∧ W.cell? ⟨B, 6, none⟩ = some (.map (some M))) := fun W hW => ⟨hW.cell, (hW.2.2.cell (p := ⟨B, 4, none⟩) hlt).trans c4, (hW.2.2.cell (p := ⟨B, 5, none⟩) hlt).trans c5, (hW.2.2.cell (p := ⟨B, 6, none⟩) hlt).trans c6⟩
  have hup : ∀ W, BX w W u → RRow W (fun b => ok b ∧ b ≠ w.heap.size + 1) a l ∧ SRow W (fun b => ok b ∧ b ≠ w.heap.size + 1) ka q ∧ Rep W (fun b => ok b ∧ b ≠ w.heap.size + 1) u x ∧ w.heap.size + 2 ≤ W.heap.size := fun W hW => by
    obtain ⟨-, ⟨y, hy⟩, hb⟩ := hW
    have hsz := (Array.getElem?_eq_some_iff.1 hy).1
    refine ⟨?_, ?_, ?_, hsz⟩
    · exact ((hr.mono (ok' := fun b => ok b ∧ b < w.heap.size) (fun b h1 h2 => ⟨h1, h2⟩)).agree (w' := W) (fun b h1 _ => hb.block b h1.2)).mono (fun b h1 _ => ⟨h1.1, by omega⟩)
    · exact ((hs.mono (ok' := fun b => ok b ∧ b < w.heap.size) (fun b h1 h2 => ⟨h1, h2⟩)).agree (w' := W) (fun b h1 _ => hb.block b h1.2)).mono (fun b h1 _ => ⟨h1.1, by omega⟩)
    · exact ((hu.mono (ok' := fun b => ok b ∧ b < w.heap.size) (fun b h1 h2 => ⟨h1, h2⟩)).agree (w' := W) (fun b h1 _ => hb.block b h1.2)).mono (fun b h1 _ => ⟨h1.1, by omega⟩)
  obtain ⟨d0, d4, d5, d6⟩ := HX.out _ hB0
  have hown' := hownW _ hB0
  have CM : Hid (∀ W a' c' ka' kc' (L : List V) (Q : List ByteArray), BX w W u → RRow W (fun b => ok b ∧ b ≠ w.heap.size + 1) a' L → SliceOk a' L.length c' → SRow W (fun b => ok b ∧ b ≠ w.heap.size + 1) ka' Q → SliceOk ka' Q.length kc' → Q.length = L.length → Q.Nodup → V.bulk.go L ≤ 1048576 → Calls Try.prog 62 #[.slice ka' Q.length kc', .slice a' L.length c'] W fun e w' => ∃ h, e = .returned (.agg #[h]) ∧ h.oneCell' = true ∧ Rep w' (fun b => ok b ∧ b ≠ w.heap.size + 1) h (V.map L Q) ∧ Below W.heap.size W w') := fun W a' c' ka' kc' L Q hW h1 h2 h3 h4 h5 h6 h7 => by
    have hsz := (hup W hW).2.2.2
    refine (mapOf_any a' L c' ka' Q kc' W (ok := fun b => ok b ∧ b ≠ w.heap.size + 1) (fun b hb => ⟨hk b (by omega), by omega⟩) h1 h2 h7 h3 h4 h5 h6).mono ?_
    rintro e w' ⟨g, rfl, h3, h4⟩
    exact ⟨g, rfl, h3.one, h3, h4⟩
  unfold mapPut at hbk ⊢
  cases hz : (V.mk 7 false 0 0 ByteArray.empty l q).hasK key
  · rw [if_neg (by rw [hz]; simp)] at hbk
    rw [if_neg (by simp)]
    rw [hz] at hhz
    have hnot : key ∉ q := fun hm => by
      have := (hasK_mem (V.mk 7 false 0 0 ByteArray.empty l q) key).2 hm
      rw [hz] at this; cases this
    have hbl := below_le key q
    have CB : Hid (∀ W, BX w W u → Calls Try.prog 90 #[.slice ka q.length kc, .string key] W fun e w' => ∃ f : Bool, e = .returned (.tuple #[.int .i64 (below key q : Nat), .bool f]) ∧ Below W.heap.size W w') := fun W hW => bs_any kc (hup W hW).2.1 hqr (by omega) key
    have CK : Hid (∀ W, BX w W u → Calls Try.prog 71 #[.slice ka q.length kc] W fun e w' => ∃ v', e = .returned v' ∧ w'.ownsRow W.heap.size 9 1 v' q.length (q.map Value.string) ∧ Below W.heap.size W w') := fun W hW => by
      have := cloneS_own ka (q.map Value.string) kc W (hup W hW).2.1.crow (by simpa using hok2) (by simp [Value.oneCell']) (by simp; omega)
      simpa using this
    obtain ⟨i, hi⟩ : ∃ i, i = below key q := ⟨_, rfl⟩
    have CV : Hid (∀ W, BX w W u → ∃ us : List Value, us.length = l.length ∧ (∀ j (hj : j < us.length) (hk : j < l.length), Rep W (fun b => ok b ∧ b ≠ w.heap.size + 1) us[j] l[j]) ∧ (∀ y ∈ us, y.oneCell' = true) ∧ Calls Try.prog 66 #[.slice a l.length c] W fun e w' => ∃ v', e = .returned v' ∧ w'.ownsRow W.heap.size 30 1 v' l.length us ∧ Below W.heap.size W w') := fun W hW => by
      obtain ⟨us, h1, h2, h3, h4⟩ := (hup W hW).1.vals
      refine ⟨us, h1, h4, h3, ?_⟩
      have := cloneV_own a us c W h2 (by rw [h1]; exact hok) h3 (by omega)
      rw [h1] at this
      exact this
    have hil : i ≤ q.length := by rw [hi]; exact hbl
    have hil2 : i ≤ l.length := by omega
    have hQl : (q.take i ++ key :: q.drop i).length = q.length + 1 := by simp; omega
    have hLl : (l.take i ++ x :: l.drop i).length = l.length + 1 := by simp; omega
    have hQn : Hid ((q.take i ++ key :: q.drop i).Nodup) := by rw [hi]; exact (ins_rising hqr hnot).nodup
    have hQs : Hid (∀ y ∈ q.take i ++ key :: q.drop i, y.size ≤ maxLen) := fun y hy => by
      rcases List.mem_append.1 hy with h1 | h1
      · exact hs.1 y (List.mem_of_mem_take h1)
      · rcases List.mem_cons.1 h1 with rfl | h1
        · exact hkm
        · exact hs.1 y (List.mem_of_mem_drop h1)
    have hLb : Hid (V.bulk.go (l.take i ++ x :: l.drop i) ≤ 1048576) := by rw [hi]; exact hbk
    rw [← hi] at CB ⊢
    have HU : Hid (∀ W, BX w W u → Rep W (fun b => ok b ∧ b ≠ w.heap.size + 1) u x ∧ w.heap.size + 2 ≤ W.heap.size) := fun W hW => (hup W hW).2.2
    have hn1 : q.length ≤ 1048576 := by omega
    have HQ : Hid (q.length = l.length) := hq
    have CI : Hid (∀ W v4 us vb b4, BX w W u → w.heap.size + 2 ≤ b4 → b4 ≤ W.heap.size → us.length = l.length → (∀ j (hj : j < us.length) (hk : j < l.length), Rep W (fun b => (ok b ∧ b ≠ w.heap.size + 1) ∧ b < b4) us[j] l[j]) → (∀ y ∈ us, y.oneCell' = true) → W.ownsRow b4 30 1 v4 l.length us → W.heap[vb]? = some (.cells #[u] 30 (0, 0)) → v4.ownBlock ≠ some vb → Calls Try.prog 92 #[v4, .int .i64 (i : Nat), .slice (some ⟨vb, 0, none⟩) 1 1] W fun e w' => ∃ a5 c5, e = .returned (.slice a5 (l.take i ++ x :: l.drop i).length c5) ∧ RRow w' (fun b => ok b ∧ b ≠ w.heap.size + 1) a5 (l.take i ++ x :: l.drop i) ∧ SliceOk a5 (l.take i ++ x :: l.drop i).length c5 ∧ Below b4 W w') := fun W v4 us vb b4 hW hb4 hbW hul hrep h1 ho hv hne => by
      refine (ins_any_v (us := us) (by rw [hul]; exact ho) h1 (by omega) hone hv hne hbW (by omega)).mono ?_
      rintro e w' ⟨v', rfl, ho', hbl'⟩
      have hb' := hbl' b4 hbW (fun k hk => (ho.lt k hk).1)
      rw [hul] at ho'
      obtain ⟨a5, c5, rfl, hc5, hk5, hl5⟩ := own_crow ho' (ok := fun b => ok b ∧ b ≠ w.heap.size + 1) (fun b hb => ⟨hk b (by omega), by omega⟩)
      have hux : Rep W (fun b => (ok b ∧ b ≠ w.heap.size + 1) ∧ b < b4) u x := by
        have h1 := (hu.mono (ok' := fun b => ok b ∧ b < w.heap.size) (fun b h1 h2 => ⟨h1, h2⟩)).agree (w' := W) (fun b h1 _ => hW.2.2.block b h1.2)
        exact h1.mono (fun b h1 _ => ⟨⟨h1.1, by omega⟩, by omega⟩)
      have hall := ins_rep (i := i) (by omega) (fun j hj hk => (hrep j hj hk)) hux (by omega)
      refine ⟨a5, c5, by rw [hLl], RRow.of_vals hc5 (by rw [hl5, hLl]) (fun j hj hk => ?_), by rw [hLl]; exact hk5, hb'⟩
      exact ((hall j hj hk).agree (w' := w') (fun b h1 _ => hb'.block b h1.2)).mono (fun b h1 _ => h1.1)
    have CS : Hid (∀ W v2 vb b2, BX w W u → w.heap.size + 2 ≤ b2 → b2 ≤ W.heap.size → W.ownsRow b2 9 1 v2 q.length (q.map Value.string) → W.heap[vb]? = some (.cells #[.string key] 9 (0, 0)) → v2.ownBlock ≠ some vb → Calls Try.prog 91 #[v2, .int .i64 (i : Nat), .slice (some ⟨vb, 0, none⟩) 1 1] W fun e w' => ∃ a5 c5, e = .returned (.slice a5 (q.take i ++ key :: q.drop i).length c5) ∧ SRow w' (fun b => ok b ∧ b ≠ w.heap.size + 1) a5 (q.take i ++ key :: q.drop i) ∧ SliceOk a5 (q.take i ++ key :: q.drop i).length c5 ∧ Below b2 W w') := fun W v2 vb b2 hW hb2 hbW ho hv hne => by
      refine (insS_any ho hil hv hne hbW hn1).mono ?_
      rintro e w' ⟨v', rfl, ho', hbl'⟩
      have hb' := hbl' b2 hbW (fun k hk => (ho.lt k hk).1)
      obtain ⟨a5, c5, rfl, hc5, hk5, hl5⟩ := own_crow ho' (ok := fun b => ok b ∧ b ≠ w.heap.size + 1) (fun b hb => ⟨hk b (by omega), by omega⟩)
      exact ⟨a5, c5, by rw [hQl], hc5.srow (fun y hy => hQs.out y hy), by rw [hQl]; exact hk5, hb'⟩
    clear hk hr hok hs hok2 hu hn hbk c4 c5 c6 hup hat hownW hown hh hqr hkm hbl hi hnot hz hq hil hil2
    generalize List.take i q ++ key :: List.drop i q = QL at *
    generalize List.take i l ++ x :: List.drop i l = LL at *
    have HL : Hid (QL.length = LL.length) := by show _ = _; rw [hQl, hLl, HQ.out]
    clear hQl hLl
    go_enter Try.func78, Try.ntmps78
    go_wp2_with (at_lookup; refine wpList_look2 _ rfl _ _ 98 rfl 9 3 .i64 keyedS Try.underlying98 Try.underlying3 (zeroI _) M n _ rfl hown' _ _ rfl hkey 0 false (fun h => by cases h) hhz ?_; intro cc hcc)
    refine (CB.out _ hB0).mono ?_
    rintro e w1 ⟨f, rfl, hb1⟩
    have hB1 := hB0.below hb1
    obtain ⟨p0, p4, p5, p6⟩ := HX.out _ hB1
    clear d0 d4 d5 d6 hown' CB hb1 hB0
    go_wp2_with fail
    refine (CK.out _ hB1).mono ?_
    rintro e w2 ⟨v2, rfl, ho2, hb2⟩
    have z1 := (HU.out _ hB1).2
    have hs2 := hb2.size
    clear p0 p4 p5 p6 CK
    go_wp2_with fail
    have hB2a := hB1.below (hb2.alloc hb2.size (.cells #[.string key] 9))
    have ho2a := cown_below ho2 ((Below.refl w2.heap.size w2).alloc (Nat.le_refl _) (.cells #[.string key] 9))
    refine (CS.out _ v2 w2.heap.size w1.heap.size hB2a (by omega) (by simp; omega) ho2a (heap_alloc_new _ _) (fun e => by have := (ho2.lt _ e).2; omega)).mono ?_
    rintro e w3 ⟨a3, c3, rfl, hsr, hk3, hb3⟩
    have hB3 := hB2a.upto (X := w1.heap.size) z1 hb3
    have hs3 := (HU.out _ hB3).2
    have hS3 : BX w w3 u ∧ Below w3.heap.size w3 w3 := ⟨hB3, Below.refl _ _⟩
    clear CS ho2 ho2a hb2 hB2a hb3 hs2 z1 hB1 hkey hhz hcc hlt
    go_wp2_with fail
    refine wp_region_held_drew (S := fun w' => BX w w' u ∧ Below w3.heap.size w3 w') (by kernel_rfl) ⟨hS3.1.drew, hS3.2.drew⟩ (fun hSS => ?_)
    refine wpAnyH_take (i := 0) (v := ?_) rfl (by kernel_rfl) (by kernel_rfl) (by kernel_rfl) (fun _ _ _ h => h) (Or.inl ⟨by rfl, ?_⟩) hSS ?_
    rotate_left
    · intro wz hSz
      go_simp
      try with_reducible rfl
    simp only [List.getElem_toArray, List.getElem_cons_zero, Act.put, List.setIfInBounds_toArray, List.set_cons_zero, List.set_cons_succ]
    refine wpAnyH_take (i := 1) (v := ?_) rfl (by kernel_rfl) (by kernel_rfl) (by kernel_rfl) (fun _ _ _ h => h) (Or.inl ⟨by rfl, ?_⟩) hSS ?_
    rotate_left
    · intro wz hSz
      go_simp
      try with_reducible rfl
    simp only [List.getElem_toArray, List.getElem_cons_zero, List.getElem_cons_succ, Act.put, List.setIfInBounds_toArray, List.set_cons_zero, List.set_cons_succ]
    refine wpAnyH_take (i := 2) (v := ?_) rfl (by kernel_rfl) (by kernel_rfl) (by kernel_rfl) (fun _ _ _ h => h) (Or.inl ⟨by rfl, ?_⟩) hSS ?_
    rotate_left
    · intro wz hSz
      go_simp
      try with_reducible rfl
    simp only [List.getElem_toArray, List.getElem_cons_zero, List.getElem_cons_succ, Act.put, List.setIfInBounds_toArray, List.set_cons_zero, List.set_cons_succ]
    refine wpAnyH_take (i := 3) (v := ?_) rfl (by kernel_rfl) (by kernel_rfl) (by kernel_rfl) (fun _ _ _ h => h) (Or.inl ⟨by rfl, ?_⟩) hSS ?_
    rotate_left
    · intro wz hSz
      go_simp
      try with_reducible rfl
    simp only [List.getElem_toArray, List.getElem_cons_zero, List.getElem_cons_succ, Act.put, List.setIfInBounds_toArray, List.set_cons_zero, List.set_cons_succ]
    refine wpAnyH_take (i := 4) (v := ?_) rfl (by kernel_rfl) (by kernel_rfl) (by kernel_rfl) (fun _ _ _ h => h) (Or.inl ⟨by rfl, ?_⟩) hSS ?_
    rotate_left
    · intro wz hSz
      obtain ⟨p0, p4, p5, p6⟩ := HX.out _ hSz.1
      go_simp
      try with_reducible rfl
    simp only [List.getElem_toArray, List.getElem_cons_zero, List.getElem_cons_succ, Act.put, List.setIfInBounds_toArray, List.set_cons_zero, List.set_cons_succ]
    refine wpAnyH_take (i := 6) (v := ?_) rfl (by kernel_rfl) (by kernel_rfl) (by kernel_rfl) (fun _ _ _ h => h) (Or.inl ⟨by rfl, ?_⟩) hSS ?_
    rotate_left
    · intro wz hSz
      go_simp
      try with_reducible rfl
    simp only [List.getElem_toArray, List.getElem_cons_zero, List.getElem_cons_succ, Act.put, List.setIfInBounds_toArray, List.set_cons_zero, List.set_cons_succ]
    refine wpAnyH_take (i := 7) (v := ?_) rfl (by kernel_rfl) (by kernel_rfl) (by kernel_rfl) (fun _ _ _ h => h) (Or.inl ⟨by rfl, ?_⟩) hSS ?_
    rotate_left
    · intro wz hSz
      obtain ⟨p0, p4, p5, p6⟩ := HX.out _ hSz.1
      go_simp
      try with_reducible rfl
    simp only [List.getElem_toArray, List.getElem_cons_zero, List.getElem_cons_succ, Act.put, List.setIfInBounds_toArray, List.set_cons_zero, List.set_cons_succ]
    refine wpAnyH_ready (rs := [5, 8]) (by kernel_rfl) (by simp) (AllReadyH.cons rfl (fun K5 hK5 => ?_) (AllReadyH.cons rfl (fun K8 hK8 => ?_) AllReadyH.nil))
    · refine step_plain (by rfl) ?_
      simp only [List.getElem_toArray, List.getElem_cons_zero, List.getElem_cons_succ]
      go_simp
      go_at_call 66
      obtain ⟨us, hul, hrep, hone1, CC⟩ := CV.out _ hSS.1
      have hz0 := (HU.out _ hSS.1).2
      have hlow := hSS.2.size
      refine CC.mono ?_
      rintro e w4 ⟨v4, rfl, ho4, hb4⟩
      have hrep4 := fun j hj hk => (hrep j hj hk).low.agree (w' := w4) (fun b h1 _ => hb4.block b h1.2)
      have hs4 := hb4.size
      go_simp
      refine hK5.out _ _ ⟨hSS.1.below hb4, hSS.2.trans (hb4.mono hSS.2.size)⟩ (fun hSS2 => ?_)
      clear hK5 hSS
      refine wpAnyH_ready (rs := [8]) (by kernel_rfl) (by simp) (AllReadyH.cons rfl (fun K6 hK6 => ?_) AllReadyH.nil)
      refine step_plain (by rfl) ?_
      simp only [List.getElem_toArray, List.getElem_cons_zero, List.getElem_cons_succ]
      go_simp
      have hS8 : Below w4.heap.size w4 (w4.alloc (.cells #[u] 30)) := (Below.refl _ _).alloc (Nat.le_refl _) _
      have ho5 := cown_below ho4 hS8
      have hv5 := heap_alloc_new w4 (.cells #[u] 30)
      have hne5 : v4.ownBlock ≠ some w4.heap.size := fun e => by have := (ho4.lt _ e).2; omega
      have hrep5 := fun j hj hk => (hrep4 j hj hk).agree (w' := w4.alloc (.cells #[u] 30)) (fun b h1 _ => hS8.block b (by omega))
      refine hK6.out _ _ ⟨hSS2.1.below hS8, hSS2.2.trans (hS8.mono hSS2.2.size)⟩ (fun hSS => ?_)
      clear hK6 hSS2 hS8
      refine wpAnyH_ready (rs := [9]) (by kernel_rfl) (by simp) (AllReadyH.cons rfl (fun K7 hK7 => ?_) AllReadyH.nil)
      refine step_plain (by rfl) ?_
      simp only [List.getElem_toArray, List.getElem_cons_zero, List.getElem_cons_succ]
      go_simp
      go_at_call 92
      refine (CI.out _ v4 us _ _ hSS.1 hz0 (by simp; omega) hul hrep5 hone1 ho5 hv5 hne5).mono ?_
      rintro e w6 ⟨a6, c6, rfl, hr6, hk6, hb6⟩
      have hb6' : Below w3.heap.size w3 w6 := hSS.2.trans (hb6.mono hlow)
      have hB6 := hSS.1.upto hz0 hb6
      go_simp
      refine hK7.out _ _ ⟨hB6, hb6'⟩ (fun hSS => ?_)
      clear hK7
      refine wpAnyH_take (i := 10) (v := ?_) rfl (by kernel_rfl) (by kernel_rfl) (by kernel_rfl) (fun _ _ _ h => h) (Or.inl ⟨by rfl, ?_⟩) hSS ?_
      rotate_left
      · intro wz hSz
        go_simp
        try with_reducible rfl
      simp only [List.getElem_toArray, List.getElem_cons_zero, List.getElem_cons_succ, Act.put, List.setIfInBounds_toArray, List.set_cons_zero, List.set_cons_succ]
      refine wpAnyH_done (by kernel_rfl) ?_ _
      have hsr6 := hsr.agree (w' := w6) (fun b h1 h2 => hb6'.block b h2)
      clear CI hrep4 hrep5 ho4 ho5 hone1 hb6' hrep hv5 hne5 hul HU hs4
      go_wp2_with fail
      refine (CM.out _ _ _ _ _ _ _ hB6 hr6 hk6 hsr6 hk3 HL.out hQn.out hLb.out).mono ?_
      rintro e w7 ⟨g, rfl, hg1, hrep, hb7⟩
      have hB7 := hB6.below hb7
      have hgot := hB7.got g
      have hset := (hB7.set g).2.2
      have hrep2 := hrep.setR (w := w) g
      obtain ⟨-, ⟨y, hy⟩, -⟩ := hB7
      have st := store_old g y hg1 w7 _ (cell_of_row _ _ 0 _ _ _ hy) (frozen_of_row _ _ 0 _ _ hy)
      clear hB6 hb7 hr6 hsr6 hrep CM
      go_wp2_with fail
      exact bodyPost_ret (v := .agg #[g]) (by simp [results, Try.results78, go_sem, hgot]) rfl ⟨g, rfl, hrep2.mono (fun _ h _ => h.1), hset⟩
    · refine step_plain (by rfl) ?_
      simp only [List.getElem_toArray, List.getElem_cons_zero, List.getElem_cons_succ]
      go_simp
      have hv0 := fun (W : World) => heap_alloc_new W (.cells #[u] 30)
      refine hK8.out _ _ ⟨hSS.1.below ((Below.refl _ _).alloc (Nat.le_refl _) _), hSS.2.trans (((Below.refl _ _).alloc (Nat.le_refl _) _).mono hSS.2.size)⟩ (fun hSS => ?_)
      clear hK8
      refine wpAnyH_ready (rs := [5]) (by kernel_rfl) (by simp) (AllReadyH.cons rfl (fun K6 hK6 => ?_) AllReadyH.nil)
      refine step_plain (by rfl) ?_
      simp only [List.getElem_toArray, List.getElem_cons_zero, List.getElem_cons_succ]
      go_simp
      go_at_call 66
      obtain ⟨us, hul, hrep, hone1, CC⟩ := CV.out _ hSS.1
      have hz0 := (HU.out _ hSS.1).2
      have hlow := hSS.2.size
      refine CC.mono ?_
      rintro e w4 ⟨v4, rfl, ho4, hb4⟩
      have hrep4 := fun j hj hk => (hrep j hj hk).low.agree (w' := w4) (fun b h1 _ => hb4.block b h1.2)
      have hs4 := hb4.size
      go_simp
      have ho5 := ho4
      have hv5 := (hb4.block _ (by simp)).trans (hv0 _)
      have hrep5 := hrep4
      refine hK6.out _ _ ⟨hSS.1.below hb4, hSS.2.trans (hb4.mono hSS.2.size)⟩ (fun hSS => ?_)
      clear hK6 hv0
      refine wpAnyH_ready (rs := [9]) (by kernel_rfl) (by simp) (AllReadyH.cons rfl (fun K7 hK7 => ?_) AllReadyH.nil)
      refine step_plain (by rfl) ?_
      simp only [List.getElem_toArray, List.getElem_cons_zero, List.getElem_cons_succ]
      go_simp
      go_at_call 92
      refine (CI.out _ v4 us _ _ hSS.1 hz0 hs4 hul hrep5 hone1 ho5 hv5 (fun e => absurd (ho4.lt _ e).1 (by simp))).mono ?_
      rintro e w6 ⟨a6, c6, rfl, hr6, hk6, hb6⟩
      have hb6' : Below w3.heap.size w3 w6 := hSS.2.trans (hb6.mono hlow)
      have hB6 := hSS.1.upto hz0 hb6
      go_simp
      refine hK7.out _ _ ⟨hB6, hb6'⟩ (fun hSS => ?_)
      clear hK7
      refine wpAnyH_take (i := 10) (v := ?_) rfl (by kernel_rfl) (by kernel_rfl) (by kernel_rfl) (fun _ _ _ h => h) (Or.inl ⟨by rfl, ?_⟩) hSS ?_
      rotate_left
      · intro wz hSz
        go_simp
        try with_reducible rfl
      simp only [List.getElem_toArray, List.getElem_cons_zero, List.getElem_cons_succ, Act.put, List.setIfInBounds_toArray, List.set_cons_zero, List.set_cons_succ]
      refine wpAnyH_done (by kernel_rfl) ?_ _
      have hsr6 := hsr.agree (w' := w6) (fun b h1 h2 => hb6'.block b h2)
      clear CI hrep4 hrep5 ho4 ho5 hone1 hb6' hrep hv5 hul HU hs4
      go_wp2_with fail
      refine (CM.out _ _ _ _ _ _ _ hB6 hr6 hk6 hsr6 hk3 HL.out hQn.out hLb.out).mono ?_
      rintro e w7 ⟨g, rfl, hg1, hrep, hb7⟩
      have hB7 := hB6.below hb7
      have hgot := hB7.got g
      have hset := (hB7.set g).2.2
      have hrep2 := hrep.setR (w := w) g
      obtain ⟨-, ⟨y, hy⟩, -⟩ := hB7
      have st := store_old g y hg1 w7 _ (cell_of_row _ _ 0 _ _ _ hy) (frozen_of_row _ _ 0 _ _ hy)
      clear hB6 hb7 hr6 hsr6 hrep CM
      go_wp2_with fail
      exact bodyPost_ret (v := .agg #[g]) (by simp [results, Try.results78, go_sem, hgot]) rfl ⟨g, rfl, hrep2.mono (fun _ h _ => h.1), hset⟩
  · rw [if_pos hz] at hbk
    rw [if_pos rfl]
    rw [hz] at hhz
    have hm := (hasK_mem (V.mk 7 false 0 0 ByteArray.empty l q) key).1 hz
    have hatz : D.atKey (litS key) (.lit (.int .i64 0)) = .lit (.int .i64 (posK q key)) := by
      have := hat (posK q key) (posK_lt hm)
      rw [posK_at hm] at this
      exact this
    have hp : posK q key < l.length := by have := posK_lt hm; simp only at this; omega
    obtain ⟨k, hkk⟩ : ∃ k, k = posK q key := ⟨_, rfl⟩
    rw [← hkk] at hatz hp hbk ⊢
    have CP : Hid (∀ W, BX w W u → Calls Try.prog 89 #[.slice a l.length c, .int .i64 (k : Nat), .agg #[u]] W fun e w' => ∃ a' c', e = .returned (.slice a' (putAt l k x).length c') ∧ RRow w' (fun b => ok b ∧ b ≠ w.heap.size + 1) a' (putAt l k x) ∧ SliceOk a' (putAt l k x).length c' ∧ Below W.heap.size W w') := fun W hW => by
      obtain ⟨h1, h2, h3, h4⟩ := hup W hW
      exact placed_any (ok := fun b => ok b ∧ b ≠ w.heap.size + 1) (fun b hb => ⟨hk b (by omega), by omega⟩) c h1 hok (by omega) (by omega) h3
    have hbk2 : V.bulk.go (putAt l k x) ≤ 1048576 := hbk
    have hLl : (putAt l k x).length = l.length := by rw [putAt_len, if_pos hp]
    have CM2 : Hid (∀ W a' c', BX w W u → RRow W (fun b => ok b ∧ b ≠ w.heap.size + 1) a' (putAt l k x) → SliceOk a' (putAt l k x).length c' → Calls Try.prog 62 #[.slice ka q.length kc, .slice a' (putAt l k x).length c'] W fun e w' => ∃ h, e = .returned (.agg #[h]) ∧ h.oneCell' = true ∧ Rep w' (fun b => ok b ∧ b ≠ w.heap.size + 1) h (V.map (putAt l k x) q) ∧ Below W.heap.size W w') := fun W a' c' hW h1 h2 =>
      CM.out W a' c' ka kc _ q hW h1 h2 (hup W hW).2.1 hok2 (by omega) hqr.nodup hbk2
    have hBX2 : BX w (((w.alloc (.cells #[u] 30)).alloc (.cells #[.nilIface] 30))) u := hB0
    clear hk hr hok hs hok2 hu hn hbk hbk2 c4 c5 c6 hup hat hownW hown hh hqr hkm hm hz CM hLl hkk hq hp
    generalize putAt l k x = L at *
    go_enter Try.func78, Try.ntmps78
    go_wp2_with (at_lookup; refine wpList_look2 _ rfl _ _ 98 rfl 9 3 .i64 keyedS Try.underlying98 Try.underlying3 (zeroI _) M n _ rfl hown' _ _ rfl hkey k true (fun _ => hatz) hhz ?_; intro cc hcc; rw [hcc rfl])
    refine wp_region_held_drew (S := fun w' => BX w w' u) (by kernel_rfl) (BX.drew hBX2) (fun hSS => ?_)
    refine wpAnyH_take (i := 0) (v := ?_) rfl (by kernel_rfl) (by kernel_rfl) (by kernel_rfl) (fun _ _ _ h => h) (Or.inl ⟨by rfl, ?_⟩) hSS ?_
    rotate_left
    · intro wz hSz
      go_simp
      try with_reducible rfl
    simp only [List.getElem_toArray, List.getElem_cons_zero, Act.put, List.setIfInBounds_toArray, List.set_cons_zero, List.set_cons_succ]
    refine wpAnyH_take (i := 1) (v := ?_) rfl (by kernel_rfl) (by kernel_rfl) (by kernel_rfl) (fun _ _ _ h => h) (Or.inl ⟨by rfl, ?_⟩) hSS ?_
    rotate_left
    · intro wz hSz
      go_simp
      try with_reducible rfl
    simp only [List.getElem_toArray, List.getElem_cons_zero, List.getElem_cons_succ, Act.put, List.setIfInBounds_toArray, List.set_cons_zero, List.set_cons_succ]
    refine wpAnyH_take (i := 2) (v := ?_) rfl (by kernel_rfl) (by kernel_rfl) (by kernel_rfl) (fun _ _ _ h => h) (Or.inl ⟨by rfl, ?_⟩) hSS ?_
    rotate_left
    · intro wz hSz
      go_simp
      try with_reducible rfl
    simp only [List.getElem_toArray, List.getElem_cons_zero, List.getElem_cons_succ, Act.put, List.setIfInBounds_toArray, List.set_cons_zero, List.set_cons_succ]
    refine wpAnyH_take (i := 3) (v := ?_) rfl (by kernel_rfl) (by kernel_rfl) (by kernel_rfl) (fun _ _ _ h => h) (Or.inl ⟨by rfl, ?_⟩) hSS ?_
    rotate_left
    · intro wz hSz
      obtain ⟨p0, p4, p5, p6⟩ := HX.out _ hSz
      go_simp
      try with_reducible rfl
    simp only [List.getElem_toArray, List.getElem_cons_zero, List.getElem_cons_succ, Act.put, List.setIfInBounds_toArray, List.set_cons_zero, List.set_cons_succ]
    refine wpAnyH_take (i := 4) (v := ?_) rfl (by kernel_rfl) (by kernel_rfl) (by kernel_rfl) (fun _ _ _ h => h) (Or.inl ⟨by rfl, ?_⟩) hSS ?_
    rotate_left
    · intro wz hSz
      go_simp
      try with_reducible rfl
    simp only [List.getElem_toArray, List.getElem_cons_zero, List.getElem_cons_succ, Act.put, List.setIfInBounds_toArray, List.set_cons_zero, List.set_cons_succ]
    refine wpAnyH_take (i := 5) (v := ?_) rfl (by kernel_rfl) (by kernel_rfl) (by kernel_rfl) (fun _ _ _ h => h) (Or.inl ⟨by rfl, ?_⟩) hSS ?_
    rotate_left
    · intro wz hSz
      go_simp
      try with_reducible rfl
    simp only [List.getElem_toArray, List.getElem_cons_zero, List.getElem_cons_succ, Act.put, List.setIfInBounds_toArray, List.set_cons_zero, List.set_cons_succ]
    refine wpAnyH_take (i := 6) (v := ?_) rfl (by kernel_rfl) (by kernel_rfl) (by kernel_rfl) (fun _ _ _ h => h) (Or.inl ⟨by rfl, ?_⟩) hSS ?_
    rotate_left
    · intro wz hSz
      go_simp
      try with_reducible rfl
    simp only [List.getElem_toArray, List.getElem_cons_zero, List.getElem_cons_succ, Act.put, List.setIfInBounds_toArray, List.set_cons_zero, List.set_cons_succ]
    refine wpAnyH_take (i := 7) (v := ?_) rfl (by kernel_rfl) (by kernel_rfl) (by kernel_rfl) (fun _ _ _ h => h) (Or.inl ⟨by rfl, ?_⟩) hSS ?_
    rotate_left
    · intro wz hSz
      go_simp
      try with_reducible rfl
    simp only [List.getElem_toArray, List.getElem_cons_zero, List.getElem_cons_succ, Act.put, List.setIfInBounds_toArray, List.set_cons_zero, List.set_cons_succ]
    refine wpAnyH_take (i := 8) (v := ?_) rfl (by kernel_rfl) (by kernel_rfl) (by kernel_rfl) (fun _ _ _ h => h) (Or.inl ⟨by rfl, ?_⟩) hSS ?_
    rotate_left
    · intro wz hSz
      obtain ⟨p0, p4, p5, p6⟩ := HX.out _ hSz
      go_simp
      try with_reducible rfl
    simp only [List.getElem_toArray, List.getElem_cons_zero, List.getElem_cons_succ, Act.put, List.setIfInBounds_toArray, List.set_cons_zero, List.set_cons_succ]
    refine wpAnyH_take (i := 9) (v := ?_) rfl (by kernel_rfl) (by kernel_rfl) (by kernel_rfl) (fun _ _ _ h => h) (Or.inl ⟨by rfl, ?_⟩) hSS ?_
    rotate_left
    · intro wz hSz
      go_simp
      try with_reducible rfl
    simp only [List.getElem_toArray, List.getElem_cons_zero, List.getElem_cons_succ, Act.put, List.setIfInBounds_toArray, List.set_cons_zero, List.set_cons_succ]
    refine wpAnyH_take (i := 10) (v := ?_) rfl (by kernel_rfl) (by kernel_rfl) (by kernel_rfl) (fun _ _ _ h => h) (Or.inl ⟨by rfl, ?_⟩) hSS ?_
    rotate_left
    · intro wz hSz
      obtain ⟨p0, p4, p5, p6⟩ := HX.out _ hSz
      go_simp
      try with_reducible rfl
    simp only [List.getElem_toArray, List.getElem_cons_zero, List.getElem_cons_succ, Act.put, List.setIfInBounds_toArray, List.set_cons_zero, List.set_cons_succ]
    refine wpAnyH_ready (rs := [11]) (by kernel_rfl) (by simp) (AllReadyH.cons rfl (fun K1 hK1 => ?_) AllReadyH.nil)
    refine step_plain (by rfl) ?_
    simp only [List.getElem_toArray, List.getElem_cons_zero, List.getElem_cons_succ]
    go_simp
    go_at_call 89
    refine (CP.out _ hSS).mono ?_
    rintro e w1 ⟨a1, c1, rfl, hr1, hok1, hb1⟩
    go_simp
    refine hK1.out _ _ (hSS.below hb1) (fun hSS => ?_)
    clear hK1
    refine wpAnyH_ready (rs := [12]) (by kernel_rfl) (by simp) (AllReadyH.cons rfl (fun K2 hK2 => ?_) AllReadyH.nil)
    refine step_plain (by rfl) ?_
    simp only [List.getElem_toArray, List.getElem_cons_zero, List.getElem_cons_succ]
    go_simp
    go_at_call 62
    refine (CM2.out _ _ _ hSS hr1 hok1).mono ?_
    rintro e w2 ⟨g, rfl, hg1, hrep, hb2⟩
    go_simp
    refine hK2.out _ _ (hSS.below hb2) (fun hSS => ?_)
    clear hK2
    have hSx := hSS
    obtain ⟨-, ⟨y, hy⟩, -⟩ := hSx
    refine wpAnyH_ready (rs := [13]) (by kernel_rfl) (by simp) (AllReadyH.cons rfl (fun K3 hK3 => ?_) AllReadyH.nil)
    refine step_set0 (by rfl) _ _ (by rfl) (by rfl) (B := w.heap.size + 1) (u := g) (by rfl) (by rfl) hg1 hy ?_
    have hrep2 := hrep.setR (w := w) g
    have hgot := hSS.got g
    refine hK3.out _ _ (hSS.set g) (fun hSS => ?_)
    clear hK3 hrep hy
    generalize w2.setCell ⟨w.heap.size + 1, 0, none⟩ g = W3 at *
    refine wpAnyH_done (by kernel_rfl) ?_ _
    go_wp2_with fail
    exact bodyPost_ret (v := .agg #[g]) (by simp [results, Try.results78, go_sem, hgot]) rfl ⟨g, rfl, hrep2.mono (fun _ h _ => h.1), hSS.2.2⟩
end Go.Proofs.Ytigdcnoggjcddaa

