/- What placesOf makes of keys: a map of each key to its place, of one that stands twice to the last. Condition: keys in memory, at most 1048576. -/
import Derived.Test.YtigdcnoggjcddaaVMeasA
import Derived.Test.YtigdcnoggjcddaaVCopy
import Derived.Test.YtigdcnoggjcddaaVRep
import Derived.Test.YtigdcnoggjcddaaVarA
import Derived.Maps.Ext
namespace Go.Proofs.Ytigdcnoggjcddaa
open Go.RowKit Go.Maps

set_option maxRecDepth 100000 in
/-- A result's cell, written, and a new block behind it. -/
theorem res_block {w w1 : World} {T T' : TypeId} {u0 u : Value} {cs : Array Value} (hz : w1.heap[w.heap.size]? = some (.cells #[u0] T (0, 0))) (hb : Below w.heap.size w w1) :
    Below w.heap.size w ((w1.setCell ⟨w.heap.size, 0, none⟩ u).alloc (.cells cs T')) ∧ ((w1.setCell ⟨w.heap.size, 0, none⟩ u).alloc (.cells cs T')).cell? ⟨w.heap.size, 0, none⟩ = some u ∧
    (∀ i, ((w1.setCell ⟨w.heap.size, 0, none⟩ u).alloc (.cells cs T')).cell? ⟨w1.heap.size, i, none⟩ = cs[i]?) ∧ PlainT ((w1.setCell ⟨w.heap.size, 0, none⟩ u).alloc (.cells cs T')) w1.heap.size T' := by
  have hs : (w1.setCell ⟨w.heap.size, 0, none⟩ u).heap.size = w1.heap.size := by simp [World.setCell]
  have h1 : (w1.setCell ⟨w.heap.size, 0, none⟩ u).heap[w.heap.size]? = some (.cells #[u] T (0, 0)) := heap_setCell_same _ _ 0 _ _ _ hz
  have hlt : w.heap.size < w1.heap.size := (Array.getElem?_eq_some_iff.1 hz).1
  refine ⟨(hb.setCell (Nat.le_refl _) _).alloc (by rw [hs]; omega) _, ?_, fun i => ?_, ?_⟩
  · exact cell_of_row _ _ _ _ _ _ ((Below.heap_alloc _ _ w.heap.size (by rw [hs]; exact hlt)).trans h1)
  · have h2 := heap_alloc_new (w1.setCell ⟨w.heap.size, 0, none⟩ u) (.cells cs T')
    rw [hs] at h2
    exact cell_of_row _ _ _ _ _ _ h2
  · have h2 := heap_alloc_new (w1.setCell ⟨w.heap.size, 0, none⟩ u) (.cells cs T')
    rw [hs] at h2
    exact ⟨_, h2⟩
def V.list (l : List V) : V := .mk 6 false 0 0 ByteArray.empty l []
set_option maxRecDepth 100000 in
theorem list_deep (l : List V) : (V.mk 6 false 0 0 ByteArray.empty l []).deep = V.deep.go l + 1 := by simp only [V.deep]
set_option maxRecDepth 100000 in
theorem list_size (l : List V) : (V.mk 6 false 0 0 ByteArray.empty l []).size = 1 + V.size.go l := by simp only [V.size]
set_option maxRecDepth 100000 in
theorem list_known (l : List V) : (V.mk 6 false 0 0 ByteArray.empty l []).known = V.known.go l := by simp [V.known]
set_option maxRecDepth 100000 in
theorem list_right (l : List V) : (V.mk 6 false 0 0 ByteArray.empty l []).right = ((rightL l && decide (V.deep.go l + 1 ≤ 8)) && decide (l.length ≤ 64)) := by rw [right_of]; simp
set_option maxRecDepth 100000 in
set_option maxHeartbeats 1600000 in
theorem listOf_any (ao : Option Addr) (l : List V) (c : Nat) (w : World) {ok : Nat → Prop} (hk : ∀ b, w.heap.size ≤ b → ok b) (hr : RRow w ok ao l) (hok : SliceOk ao l.length c) (hbk : V.bulk.go l ≤ 1048576) :
    Calls Try.prog 65 #[.slice ao l.length c] w fun e w' => ∃ h, e = .returned (.agg #[h]) ∧ Rep w' ok h (V.list l) ∧ Below w.heap.size w w' := by
  have C : Hid (∀ W, Below w.heap.size w W → Calls Try.prog 85 #[.slice ao l.length c] W fun e w' => e = .returned (measL l) ∧ Below W.heap.size W w') := fun W hW => measAll_any ao l c W (hr.below hW) hbk
  have HL : Hid (measL l = .agg #[.int .i64 ((V.mk 6 false 0 0 ByteArray.empty l []).deep : Nat), .int .i64 ((V.mk 6 false 0 0 ByteArray.empty l []).size : Nat), .bool (V.mk 6 false 0 0 ByteArray.empty l []).known, .bool (V.mk 6 false 0 0 ByteArray.empty l []).right]) := by
    show measL l = _
    rw [measL, list_deep, list_size, list_known, list_right]
  rw [HL.out] at C
  clear HL
  have HR : Hid (∀ (W : World) (B : Nat), Below w.heap.size w W → w.heap.size ≤ B → PlainT W B 95 → W.cell? ⟨B, 0, none⟩ = some (.int .i64 ((V.mk 6 false 0 0 ByteArray.empty l []).deep : Nat)) → W.cell? ⟨B, 1, none⟩ = some (.int .i64 ((V.mk 6 false 0 0 ByteArray.empty l []).size : Nat)) →
      W.cell? ⟨B, 2, none⟩ = some (.bool (V.mk 6 false 0 0 ByteArray.empty l []).known) → W.cell? ⟨B, 3, none⟩ = some (.bool (V.mk 6 false 0 0 ByteArray.empty l []).right) → W.cell? ⟨B, 4, none⟩ = some (.slice ao l.length c) →
      Rep W ok (.iface 91 (.pointer (some ⟨B, 0, none⟩))) (V.list l)) := fun W B hW hB hPB c0 c1 c2 c3 c4 => by
    obtain ⟨H, h1, h2⟩ := hr.below hW
    exact Rep.list B l ao c H ⟨hk B hB, hPB⟩ hok c0 c1 c2 c3 c4 h1 h2
  clear hr hok hbk hk
  generalize (V.mk 6 false 0 0 ByteArray.empty l []).deep = X0 at *
  generalize (V.mk 6 false 0 0 ByteArray.empty l []).size = X1 at *
  generalize (V.mk 6 false 0 0 ByteArray.empty l []).known = X2 at *
  generalize (V.mk 6 false 0 0 ByteArray.empty l []).right = X3 at *
  go_enter Try.func65, Try.ntmps65
  go_wp2_with fail
  refine (C.out _ ((Below.refl _ _).alloc (Nat.le_refl _) _)).mono ?_
  rintro e w1 ⟨rfl, hb1⟩
  have hz := heap_alloc_new w (.cells #[.nilIface] 30)
  have hz1 := (hb1.block w.heap.size (by simp)).trans hz
  have hlt : w.heap.size < w1.heap.size := (Array.getElem?_eq_some_iff.1 hz1).1
  have z0 := cell_of_row _ _ 0 _ _ _ hz1
  have z1 := frozen_of_row _ _ 0 _ _ hz1
  have hB1 : Below w.heap.size w w1 := ((Below.refl _ _).alloc (Nat.le_refl _) _).trans (hb1.mono (by simp))
  clear hz C hb1
  go_wp2_with fail
  obtain ⟨g1, g2, g3, g4⟩ := res_block (T' := 95) (u := .iface 91 (.pointer (some ⟨w1.heap.size, 0, none⟩))) (cs := #[.int .i64 X0, .int .i64 X1, .bool X2, .bool X3, .slice ao l.length c]) hz1 hB1
  exact bodyPost_ret (v := .agg #[.iface 91 (.pointer (some ⟨w1.heap.size, 0, none⟩))]) (by simp [results, Try.results65, go_sem, g2]) rfl ⟨_, rfl, HR.out _ _ g1 hB1.size g4 (g3 0) (g3 1) (g3 2) (g3 3) (g3 4), g1⟩
set_option maxRecDepth 100000 in
/-- A slice of values, copied. -/
theorem RRow.of_crow {w : World} {ok : Nat → Prop} {a : Option Addr} {l : List V} {H : Nat → Value} (hc : CRow w ok a ((List.range l.length).map H)) (hin : ∀ j (hj : j < l.length), Rep w ok (H j) l[j]) : RRow w ok a l := by
  refine ⟨H, fun hn => ?_, hin⟩
  obtain ⟨b, off, rfl, hb, h⟩ := hc (by intro e; have h := congrArg List.length e; simp only [List.length_map, List.length_range, List.length_nil] at h; omega)
  refine ⟨b, off, rfl, hb, fun j hj => h j (H j) ?_⟩
  simp [hj]
set_option maxRecDepth 100000 in
theorem one_map {w : World} {ok : Nat → Prop} {l : List V} {H : Nat → Value} (hin : ∀ j (hj : j < l.length), Rep w ok (H j) l[j]) : ∀ u ∈ (List.range l.length).map H, u.oneCell' = true := by
  intro u hu
  obtain ⟨j, hj, rfl⟩ := List.mem_map.1 hu
  exact (hin j (List.mem_range.1 hj)).one
set_option maxRecDepth 100000 in
set_option maxHeartbeats 1600000 in
theorem cloneVs_any (ao : Option Addr) (l : List V) (c : Nat) (w : World) {ok : Nat → Prop} (hk : ∀ b, w.heap.size ≤ b → ok b) (hr : RRow w ok ao l) (hok : SliceOk ao l.length c) (hn : l.length ≤ 1048576) :
    Calls Try.prog 66 #[.slice ao l.length c] w fun e w' => ∃ a' c', e = .returned (.slice a' l.length c') ∧ RRow w' ok a' l ∧ SliceOk a' l.length c' ∧ Below w.heap.size w w' := by
  obtain ⟨H, h1, h2⟩ := hr
  have hlen : ((List.range l.length).map H).length = l.length := by simp
  have C := cloneV_any ao ((List.range l.length).map H) c w hk h1.crow (by rw [hlen]; exact hok) (one_map h2) (by rw [hlen]; omega)
  rw [hlen] at C
  refine C.mono ?_
  rintro e w' ⟨a', c', rfl, hc, hk, hb⟩
  exact ⟨a', c', rfl, RRow.of_crow hc (fun j hj => (h2 j hj).stays hb), hk, hb⟩
set_option maxRecDepth 100000 in
set_option maxHeartbeats 1600000 in
theorem list_any (ao : Option Addr) (l : List V) (c : Nat) (w : World) {ok : Nat → Prop} (hk : ∀ b, w.heap.size ≤ b → ok b) (hr : RRow w ok ao l) (hok : SliceOk ao l.length c) (hbk : V.bulk.go l ≤ 1048576) :
    Calls Try.prog 35 #[.slice ao l.length c] w fun e w' => ∃ h, e = .returned (.agg #[h]) ∧ Rep w' ok h (V.list l) ∧ Below w.heap.size w w' := by
  have hn : l.length ≤ 1048576 := Nat.le_trans (len_le_bulkL l) hbk
  go_enter Try.func35, Try.ntmps35
  go_wp2_with fail
  refine (cloneVs_any ao l c _ (ok := fun b => ok b ∧ b ≠ w.heap.size) (fun b hb => ⟨hk b (by simp at hb; omega), by simp at hb; omega⟩) ((hr.mono (ok' := fun b => ok b ∧ b ≠ w.heap.size) (fun b h1 h2 => ⟨h1, by omega⟩)).below ((Below.refl _ _).alloc (Nat.le_refl _) _)) hok hn).mono ?_
  rintro e w1 ⟨a1, c1, rfl, hr1, hk1, hb1⟩
  have hs1 := hb1.size
  simp only [World.size_alloc] at hs1
  clear hr hok
  go_wp2_with fail
  refine (listOf_any a1 l c1 _ (ok := fun b => ok b ∧ b ≠ w.heap.size) (fun b hb => ⟨hk b (by omega), by omega⟩) hr1 hk1 hbk).mono ?_
  rintro e w2 ⟨h, rfl, hrep, hb2⟩
  have hz := heap_alloc_new w (.cells #[.nilIface] 30)
  have hz2 := (hb2.block w.heap.size (by omega)).trans ((hb1.block w.heap.size (by simp)).trans hz)
  have hB2 : Below w.heap.size w w2 := (((Below.refl _ _).alloc (Nat.le_refl _) _).trans (hb1.mono (by simp))).trans (hb2.mono (by omega))
  have z0 := cell_of_row _ _ 0 _ _ _ hz2
  have z1 := frozen_of_row _ _ 0 _ _ hz2
  have st := store_old h .nilIface hrep.one w2 ⟨w.heap.size, 0, none⟩ z0 z1
  have hfin := (hrep.agree (Agree.setCell (w := w2) (n := w.heap.size) (i := 0) h (fun hh => hh.2 rfl))).mono (ok' := ok) (fun b h1 _ => h1.1)
  have hx : (w2.setCell ⟨w.heap.size, 0, none⟩ h).cell? ⟨w.heap.size, 0, none⟩ = some h := cell_of_row _ _ _ _ _ _ (heap_setCell_same _ _ 0 _ _ h hz2)
  clear hr1 hk1 hb1 hz hrep
  go_wp2_with fail
  exact bodyPost_ret (v := .agg #[h]) (by simp [results, Try.results35, go_sem, hx]) rfl ⟨h, rfl, hfin, hB2.setCell (Nat.le_refl _) _⟩
end Go.Proofs.Ytigdcnoggjcddaa

namespace Go.Proofs.Ytigdcnoggjcddaa
open Go.RowKit Go.Maps Go.WideMaps

set_option maxRecDepth 100000 in
theorem keyedS : Keyed Try.prog 9 := string_keyed Try.underlying9
set_option maxRecDepth 100000 in
theorem zeroI (w : World) : (zeroValue 3).run Try.prog w = .ok (.int .i64 0) w := by kernel_rfl
def litS (s : ByteArray) : Lit := .string s.data.toList
set_option maxRecDepth 100000 in
theorem litS_inj {s t : ByteArray} (h : litS s = litS t) : s = t := by
  unfold litS at h
  injection h with h
  exact ByteArray.ext (Array.toList_inj.1 h)
/-- The places of the first keys. -/
def plD (q : List ByteArray) : Nat → DataW Unit
  | 0 => .map []
  | k + 1 => (plD q k).put (litS (q.getD k ByteArray.empty)) (.lit (.int .i64 k))
set_option maxRecDepth 100000 in
theorem plD_isMap (q : List ByteArray) : ∀ k, IsMap (plD q k)
  | 0 => ⟨[], rfl⟩
  | k + 1 => (plD_isMap q k).put _ _
set_option maxRecDepth 100000 in
theorem litS_key (s : ByteArray) : WideAt.IsKeyLit (litS s) := trivial
set_option maxRecDepth 100000 in
theorem plD_has (q : List ByteArray) (s : ByteArray) : ∀ k, k ≤ q.length → (Maps.has (plD q k) (litS s) = true ↔ s ∈ q.take k)
  | 0, _ => by simp [plD, Maps.has]
  | k + 1, h => by
    have hk : k < q.length := by omega
    have hg : q.getD k ByteArray.empty = q[k] := by simp [hk]
    rw [plD, hg, List.take_succ_eq_append_getElem hk, List.mem_append, List.mem_singleton]
    by_cases e : s = q[k]
    · rw [e, has_put_same (plD_isMap q k) (litS_key _)]
      simp
    · have hne : litS s ≠ litS q[k] := fun h => e (litS_inj h)
      rw [has_put_other hne, plD_has q s k (by omega)]
      exact ⟨Or.inl, fun h => h.elim id (fun h => absurd h e)⟩
set_option maxRecDepth 100000 in
theorem plD_tidy (q : List ByteArray) : ∀ k, Tidy (plD q k)
  | 0 => tidy_empty
  | k + 1 => (plD_tidy q k).put (litS_key _) _
set_option maxRecDepth 100000 in
theorem plD_at (q : List ByteArray) (hn : q.Nodup) : ∀ k, k ≤ q.length → ∀ j (_ : j < k) (hl : j < q.length), (plD q k).atKey (litS q[j]) (.lit (.int .i64 0)) = .lit (.int .i64 j)
  | 0, _, j, hj, _ => by omega
  | k + 1, h, j, hj, hl => by
    have hk : k < q.length := by omega
    have hg : q.getD k ByteArray.empty = q[k] := by simp [hk]
    rw [plD, hg]
    by_cases e : j = k
    · subst e
      exact atKey_put_same (plD_isMap q j) (litS_key _) _ _
    · have hne : litS q[j] ≠ litS q[k] := fun h => List.pairwise_iff_getElem.1 hn j k hl hk (by omega) (litS_inj h)
      rw [atKey_put_other hne]
      exact plD_at q hn k (by omega) j (by omega) hl
set_option maxRecDepth 100000 in
theorem plD_size (q : List ByteArray) : ∀ k, k ≤ q.length → ((q.take k).Nodup → Maps.size (plD q k) = k) ∧ (¬ (q.take k).Nodup → Maps.size (plD q k) < k)
  | 0, _ => ⟨fun _ => rfl, fun h => by simp at h⟩
  | k + 1, h => by
    have hk : k < q.length := by omega
    have hg : q.getD k ByteArray.empty = q[k] := by simp [hk]
    obtain ⟨i1, i2⟩ := plD_size q k (by omega)
    have hs1 : q[k] ∈ q.take k → Maps.size (plD q (k + 1)) = Maps.size (plD q k) := fun hm => by
      rw [plD, hg, size_put (plD_tidy q k), if_pos ((plD_has q q[k] k (by omega)).2 hm)]
    have hs2 : q[k] ∉ q.take k → Maps.size (plD q (k + 1)) = Maps.size (plD q k) + 1 := fun hm => by
      rw [plD, hg, size_put (plD_tidy q k), if_neg (fun h => hm ((plD_has q q[k] k (by omega)).1 h))]
    have hle : Maps.size (plD q k) ≤ k := by
      by_cases hd : (q.take k).Nodup
      · rw [i1 hd]; exact Nat.le_refl _
      · exact Nat.le_of_lt (i2 hd)
    have hnd : (q.take (k + 1)).Nodup ↔ (q.take k).Nodup ∧ q[k] ∉ q.take k := by
      rw [List.take_succ_eq_append_getElem hk, List.nodup_append]
      constructor
      · rintro ⟨a, -, c⟩
        exact ⟨a, fun hm => c _ hm _ (by simp) rfl⟩
      · rintro ⟨a, c⟩
        exact ⟨a, by simp, fun x hx y hy e => c (by simp at hy; rw [← hy, ← e]; exact hx)⟩
    refine ⟨fun hd => ?_, fun hd => ?_⟩
    · obtain ⟨d1, d2⟩ := hnd.1 hd
      rw [hs2 d2, i1 d1]
    · by_cases hm : q[k] ∈ q.take k
      · rw [hs1 hm]; omega
      · rw [hs2 hm]
        have := i2 (fun h1 => hd (hnd.2 ⟨h1, hm⟩))
        omega
set_option maxRecDepth 100000 in
theorem run_makeMapN (n : Int) (w : World) : (Instr.makeMap 98 (some (.int .i64 n))).run Try.prog w = .ok (.map (some w.heap.size)) (w.alloc (.map #[] 0)) := by
  unfold Instr.makeMap
  simp [run_underlying Try.underlying98, go_sem]
set_option maxRecDepth 100000 in
set_option maxHeartbeats 1600000 in
theorem places_any (ao : Option Addr) (q : List ByteArray) (c : Nat) (w : World) {ok : Nat → Prop} (hr : SRow w ok ao q) (hn : q.length ≤ 1048576) :
    Calls Try.prog 59 #[.slice ao q.length c] w fun e w' => e = .returned (.map (some w.heap.size)) ∧ w'.ownsMap Try.prog 9 (plainElem Try.prog 3) w.heap.size q.length (plD q q.length) ∧ Below w.heap.size w w' := by
  have hmm := run_makeMapN
  by_cases hz : q = []
  · subst hz
    clear hr
    go_enter Try.func59, Try.ntmps59
    go_wp2_with fail
    refine wp_loop_rounds 1 ?_
    rw [rounds_succ]
    go_wp2_with fail
    go_ret
    exact ⟨rfl, World.ownsMap_made _ _ _ _, (Below.refl _ _).alloc (Nat.le_refl _) _⟩
  obtain ⟨bl, off, rfl, -, hcc⟩ := hr.2 hz
  have hsz := hr.1
  have hbl : bl < w.heap.size := World.block_lt_of_cell? w ⟨bl, off + 0, none⟩ (hcc 0 (List.length_pos_iff.2 hz))
  clear hr hz
  go_enter Try.func59, Try.ntmps59
  go_wp2_with fail
  go_loopw [11] (fun i wr => ∃ k : Nat, k ≤ q.length ∧ i = .int .i64 k ∧ wr.ownsMap Try.prog 9 (plainElem Try.prog 3) w.heap.size k (plD q k) ∧ Below w.heap.size w wr) (fun i _ => q.length - (intOf i).toNat)
  case atStart => exact ⟨0, Nat.zero_le _, rfl, World.ownsMap_made _ _ _ _, (Below.refl _ _).alloc (Nat.le_refl _) _⟩
  case round =>
    obtain ⟨k, hk, rfl, hown, hnx⟩ := hrel
    by_cases hlt : k < q.length
    · have hcx := (hnx.cell (p := ⟨bl, off + k, none⟩) hbl).trans (hcc k hlt)
      have hkey : keyOf Try.prog 9 (.string q[k]) = some (litS q[k]) := keyOf_string_mk Try.underlying9 (hsz _ (List.getElem_mem hlt))
      have HST : Hid (plD q (k + 1) = (plD q k).put (litS q[k]) (.lit (.int .i64 k))) := by show plD _ _ = _; rw [plD]; simp [hlt]
      clear hcc hsz
      generalize q[k] = s at *
      go_wp2_with (at_mapUpdate; refine wpList_mapUpdate_own _ rfl _ _ _ 98 rfl 9 3 keyedS Try.underlying98 _ w.heap.size k _ rfl hown (by unfold maxLen; omega) _ _ _ rfl rfl hkey _ [] (plainElem_int Try.underlying3 (WalkArith.wf_i64 (by omega))) ?_; intro w1 hown1 hgrow1)
      have R1 : w1.ownsMap Try.prog 9 (plainElem Try.prog 3) w.heap.size (k + 1) (plD q (k + 1)) := by rw [HST.out]; exact hown1
      have R2 := hnx.grown hgrow1 hnx.size (fun j hj => by cases hj; exact Nat.le_refl _)
      clear hown1 hgrow1 hown hcx HST
      go_wp2_with fail
      go_roundw
      case rel => exact ⟨k + 1, by omega, by go_num, R1, R2⟩
      case measure => simp [intOf]; omega
    · have e : k = q.length := by omega
      subst e
      clear hcc hsz
      go_wp2_with fail
      go_ret
      exact ⟨rfl, hown, hnx⟩
set_option maxRecDepth 100000 in
/-- The places of keys of which none stands twice. -/
theorem Places.of_own {w : World} {M : Nat} {q : List ByteArray} (hn : q.Nodup) (h : w.ownsMap Try.prog 9 (plainElem Try.prog 3) M q.length (plD q q.length)) : Places w M q :=
  ⟨_, _, h, fun s => by have := plD_has q s q.length (Nat.le_refl _); rw [List.take_length] at this; exact this, fun j hj => plD_at q hn q.length (Nat.le_refl _) j hj hj⟩
end Go.Proofs.Ytigdcnoggjcddaa

