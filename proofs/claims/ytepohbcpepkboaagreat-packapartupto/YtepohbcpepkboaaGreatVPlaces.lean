/- What placesOf makes of keys: a map of each key to its place, of one that stands twice to the last. Condition: keys in memory, at most 1048576. -/
import Derived.Test.YtepohbcpepkboaaGreatVRep
import Derived.Test.YtepohbcpepkboaaGreatVarA
import Derived.Maps.Ext
namespace Go.Proofs.YtepohbcpepkboaaGreat
open Go.RowKit Go.Maps Go.WideMaps

set_option maxRecDepth 100000 in
theorem keyedS : Keyed Tryz.prog 9 := string_keyed Tryz.underlying9
set_option maxRecDepth 100000 in
theorem zeroI (w : World) : (zeroValue 3).run Tryz.prog w = .ok (.int .i64 0) w := by kernel_rfl
def litS (s : ByteArray) : Lit := .string s.data.toList
set_option maxRecDepth 100000 in
theorem litS_inj {s t : ByteArray} (h : litS s = litS t) : s = t := by
  unfold litS at h
  injection h with h
  exact ByteArray.ext (Array.toList_inj.1 h)
/-- The places of the first keys. -/
def plD (q : List ByteArray) : Nat → DataW Unit
  | 0 => .map []
  | k + 1 => (plD q k).put (litS (q.getD k ByteArray.empty)) (.lit (.int .i64 k))
set_option maxRecDepth 100000 in
theorem plD_isMap (q : List ByteArray) : ∀ k, IsMap (plD q k)
  | 0 => ⟨[], rfl⟩
  | k + 1 => (plD_isMap q k).put _ _
set_option maxRecDepth 100000 in
theorem litS_key (s : ByteArray) : WideAt.IsKeyLit (litS s) := trivial
set_option maxRecDepth 100000 in
theorem plD_has (q : List ByteArray) (s : ByteArray) : ∀ k, k ≤ q.length → (Maps.has (plD q k) (litS s) = true ↔ s ∈ q.take k)
  | 0, _ => by simp [plD, Maps.has]
  | k + 1, h => by
    have hk : k < q.length := by omega
    have hg : q.getD k ByteArray.empty = q[k] := by simp [hk]
    rw [plD, hg, List.take_succ_eq_append_getElem hk, List.mem_append, List.mem_singleton]
    by_cases e : s = q[k]
    · rw [e, has_put_same (plD_isMap q k) (litS_key _)]
      simp
    · have hne : litS s ≠ litS q[k] := fun h => e (litS_inj h)
      rw [has_put_other hne, plD_has q s k (by omega)]
      exact ⟨Or.inl, fun h => h.elim id (fun h => absurd h e)⟩
set_option maxRecDepth 100000 in
theorem plD_tidy (q : List ByteArray) : ∀ k, Tidy (plD q k)
  | 0 => tidy_empty
  | k + 1 => (plD_tidy q k).put (litS_key _) _
set_option maxRecDepth 100000 in
theorem plD_at (q : List ByteArray) (hn : q.Nodup) : ∀ k, k ≤ q.length → ∀ j (_ : j < k) (hl : j < q.length), (plD q k).atKey (litS q[j]) (.lit (.int .i64 0)) = .lit (.int .i64 j)
  | 0, _, j, hj, _ => by omega
  | k + 1, h, j, hj, hl => by
    have hk : k < q.length := by omega
    have hg : q.getD k ByteArray.empty = q[k] := by simp [hk]
    rw [plD, hg]
    by_cases e : j = k
    · subst e
      exact atKey_put_same (plD_isMap q j) (litS_key _) _ _
    · have hne : litS q[j] ≠ litS q[k] := fun h => List.pairwise_iff_getElem.1 hn j k hl hk (by omega) (litS_inj h)
      rw [atKey_put_other hne]
      exact plD_at q hn k (by omega) j (by omega) hl
set_option maxRecDepth 100000 in
theorem plD_size (q : List ByteArray) : ∀ k, k ≤ q.length → ((q.take k).Nodup → Maps.size (plD q k) = k) ∧ (¬ (q.take k).Nodup → Maps.size (plD q k) < k)
  | 0, _ => ⟨fun _ => rfl, fun h => by simp at h⟩
  | k + 1, h => by
    have hk : k < q.length := by omega
    have hg : q.getD k ByteArray.empty = q[k] := by simp [hk]
    obtain ⟨i1, i2⟩ := plD_size q k (by omega)
    have hs1 : q[k] ∈ q.take k → Maps.size (plD q (k + 1)) = Maps.size (plD q k) := fun hm => by
      rw [plD, hg, size_put (plD_tidy q k), if_pos ((plD_has q q[k] k (by omega)).2 hm)]
    have hs2 : q[k] ∉ q.take k → Maps.size (plD q (k + 1)) = Maps.size (plD q k) + 1 := fun hm => by
      rw [plD, hg, size_put (plD_tidy q k), if_neg (fun h => hm ((plD_has q q[k] k (by omega)).1 h))]
    have hle : Maps.size (plD q k) ≤ k := by
      by_cases hd : (q.take k).Nodup
      · rw [i1 hd]; exact Nat.le_refl _
      · exact Nat.le_of_lt (i2 hd)
    have hnd : (q.take (k + 1)).Nodup ↔ (q.take k).Nodup ∧ q[k] ∉ q.take k := by
      rw [List.take_succ_eq_append_getElem hk, List.nodup_append]
      constructor
      · rintro ⟨a, -, c⟩
        exact ⟨a, fun hm => c _ hm _ (by simp) rfl⟩
      · rintro ⟨a, c⟩
        exact ⟨a, by simp, fun x hx y hy e => c (by simp at hy; rw [← hy, ← e]; exact hx)⟩
    refine ⟨fun hd => ?_, fun hd => ?_⟩
    · obtain ⟨d1, d2⟩ := hnd.1 hd
      rw [hs2 d2, i1 d1]
    · by_cases hm : q[k] ∈ q.take k
      · rw [hs1 hm]; omega
      · rw [hs2 hm]
        have := i2 (fun h1 => hd (hnd.2 ⟨h1, hm⟩))
        omega
set_option maxRecDepth 100000 in
theorem run_makeMapN (n : Int) (w : World) : (Instr.makeMap 113 (some (.int .i64 n))).run Tryz.prog w = .ok (.map (some w.heap.size)) (w.alloc (.map #[] 0)) := by
  unfold Instr.makeMap
  simp [run_underlying Tryz.underlying113, go_sem]
set_option maxRecDepth 100000 in
set_option maxHeartbeats 1600000 in
theorem places_any (ao : Option Addr) (q : List ByteArray) (c : Nat) (w : World) {ok : Nat → Prop} (hr : SRow w ok ao q) (hn : q.length ≤ 1048576) :
    Calls Tryz.prog 57 #[.slice ao q.length c] w fun e w' => e = .returned (.map (some w.heap.size)) ∧ w'.ownsMap Tryz.prog 9 (plainElem Tryz.prog 3) w.heap.size q.length (plD q q.length) ∧ Below w.heap.size w w' := by
  have hmm := run_makeMapN
  by_cases hz : q = []
  · subst hz
    clear hr
    go_enter Tryz.func57, Tryz.ntmps57
    go_wp2_with fail
    refine wp_loop_rounds 1 ?_
    rw [rounds_succ]
    go_wp2_with fail
    go_ret
    exact ⟨rfl, World.ownsMap_made _ _ _ _, (Below.refl _ _).alloc (Nat.le_refl _) _⟩
  obtain ⟨bl, off, rfl, -, hcc⟩ := hr.2 hz
  have hsz := hr.1
  have hbl : bl < w.heap.size := World.block_lt_of_cell? w ⟨bl, off + 0, none⟩ (hcc 0 (List.length_pos_iff.2 hz))
  clear hr hz
  go_enter Tryz.func57, Tryz.ntmps57
  go_wp2_with fail
  go_loopw [11] (fun i wr => ∃ k : Nat, k ≤ q.length ∧ i = .int .i64 k ∧ wr.ownsMap Tryz.prog 9 (plainElem Tryz.prog 3) w.heap.size k (plD q k) ∧ Below w.heap.size w wr) (fun i _ => q.length - (intOf i).toNat)
  case atStart => exact ⟨0, Nat.zero_le _, rfl, World.ownsMap_made _ _ _ _, (Below.refl _ _).alloc (Nat.le_refl _) _⟩
  case round =>
    obtain ⟨k, hk, rfl, hown, hnx⟩ := hrel
    by_cases hlt : k < q.length
    · have hcx := (hnx.cell (p := ⟨bl, off + k, none⟩) hbl).trans (hcc k hlt)
      have hkey : keyOf Tryz.prog 9 (.string q[k]) = some (litS q[k]) := keyOf_string_mk Tryz.underlying9 (hsz _ (List.getElem_mem hlt))
      have HST : Hid (plD q (k + 1) = (plD q k).put (litS q[k]) (.lit (.int .i64 k))) := by show plD _ _ = _; rw [plD]; simp [hlt]
      clear hcc hsz
      generalize q[k] = s at *
      go_wp2_with (at_mapUpdate; refine wpList_mapUpdate_own _ rfl _ _ _ 113 rfl 9 3 keyedS Tryz.underlying113 _ w.heap.size k _ rfl hown (by unfold maxLen; omega) _ _ _ rfl rfl hkey _ [] (plainElem_int Tryz.underlying3 (WalkArith.wf_i64 (by omega))) ?_; intro w1 hown1 hgrow1)
      have R1 : w1.ownsMap Tryz.prog 9 (plainElem Tryz.prog 3) w.heap.size (k + 1) (plD q (k + 1)) := by rw [HST.out]; exact hown1
      have R2 := hnx.grown hgrow1 hnx.size (fun j hj => by cases hj; exact Nat.le_refl _)
      clear hown1 hgrow1 hown hcx HST
      go_wp2_with fail
      go_roundw
      case rel => exact ⟨k + 1, by omega, by go_num, R1, R2⟩
      case measure => simp [intOf]; omega
    · have e : k = q.length := by omega
      subst e
      clear hcc hsz
      go_wp2_with fail
      go_ret
      exact ⟨rfl, hown, hnx⟩
set_option maxRecDepth 100000 in
/-- The places of keys of which none stands twice. -/
theorem Places.of_own {w : World} {M : Nat} {q : List ByteArray} (hn : q.Nodup) (h : w.ownsMap Tryz.prog 9 (plainElem Tryz.prog 3) M q.length (plD q q.length)) : Places w M q :=
  ⟨_, _, h, fun s => by have := plD_has q s q.length (Nat.le_refl _); rw [List.take_length] at this; exact this, fun j hj => plD_at q hn q.length (Nat.le_refl _) j hj hj⟩
end Go.Proofs.YtepohbcpepkboaaGreat

