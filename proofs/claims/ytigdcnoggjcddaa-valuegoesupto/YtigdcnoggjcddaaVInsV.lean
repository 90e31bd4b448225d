/- slices.Insert of one value into a row of the call's own. Condition: at most 1048576 of them. -/
import Derived.Test.YtigdcnoggjcddaaVCopy
import Derived.Test.YtigdcnoggjcddaaVPlaces
import Derived.Lib.AppendZerosOnto
import Derived.Lib.Overlaps
import Derived.Laws.Externs
import Derived.Deep.RegionLaw
import Derived.Shelf.RegionOpenPlain
namespace Go.Proofs.Ytigdcnoggjcddaa
open Go.RowKit Go.Maps

set_option maxRecDepth 100000 in
theorem cloneV_own (ao : Option Addr) (us : List Value) (c : Nat) (w : World) {ok : Nat → Prop} (hrow : CRow w ok ao us) (hok : SliceOk ao us.length c) (h1 : ∀ u ∈ us, u.oneCell' = true) (hn : us.length ≤ 1099511627776) :
    Calls Try.prog 66 #[.slice ao us.length c] w fun e w' => ∃ v', e = .returned v' ∧ w'.ownsRow w.heap.size 30 1 v' us.length us ∧ Below w.heap.size w w' := by
  cases ao with
  | none =>
    obtain ⟨h0, rfl⟩ := hok.1 rfl
    have hz : us = [] := List.eq_nil_of_length_eq_zero h0
    subst hz
    clear hrow h1 hn hok
    have q := fun (W : World) (a : Option Addr) (n c n' c' : Nat) => Lib.run_eql_slice_nil (P := Try.prog) W 57 30 a n c n' c' Try.underlying57
    go_enter Try.func66, Try.ntmps66
    go_wp2_with fail
    go_ret
    exact ⟨_, rfl, ⟨rfl, Or.inl ⟨rfl, rfl⟩⟩, Below.refl _ _⟩
  | some ad =>
    have hr1 := hrow.alloc (.cells #[] 30)
    have q := fun (W : World) (a : Option Addr) (n c n' c' : Nat) => Lib.run_eql_slice_nil (P := Try.prog) W 57 30 a n c n' c' Try.underlying57
    go_enter Try.func66, Try.ntmps66
    go_wp2_with (at_builtin; go_must (refine wpList_append_any rfl (.tmp 5) (.tmp 6) 57 30 _ _ Try.underlying57 infoVal rfl (by decide) rfl w.heap.size _ 0 [] rfl (World.ownsRow_lit w #[] 0 (Nat.le_refl _) (by simp [maxLen]) rfl) (some ad) us us.length c rfl rfl hr1 (by intro e; cases e) h1 (by omega) (by simp) ?_; intro v1 w1 hown1 hgrow1))
    simp only [Nat.zero_add, List.nil_append] at hown1
    have hb1 : Below w.heap.size w w1 := below_cown ((Below.refl _ _).alloc (Nat.le_refl _) _) (World.ownsRow_lit w #[] 0 (Nat.le_refl _) (by simp [maxLen]) rfl) (by simp) hgrow1
    clear hgrow1
    go_ret
    exact ⟨_, rfl, hown1, hb1⟩
set_option maxRecDepth 100000 in
theorem cloneS_own (ao : Option Addr) (us : List Value) (c : Nat) (w : World) {ok : Nat → Prop} (hrow : CRow w ok ao us) (hok : SliceOk ao us.length c) (h1 : ∀ u ∈ us, u.oneCell' = true) (hn : us.length ≤ 1099511627776) :
    Calls Try.prog 71 #[.slice ao us.length c] w fun e w' => ∃ v', e = .returned v' ∧ w'.ownsRow w.heap.size 9 1 v' us.length us ∧ Below w.heap.size w w' := by
  cases ao with
  | none =>
    obtain ⟨h0, rfl⟩ := hok.1 rfl
    have hz : us = [] := List.eq_nil_of_length_eq_zero h0
    subst hz
    clear hrow h1 hn hok
    have q := fun (W : World) (a : Option Addr) (n c n' c' : Nat) => Lib.run_eql_slice_nil (P := Try.prog) W 23 9 a n c n' c' Try.underlying23
    go_enter Try.func71, Try.ntmps71
    go_wp2_with fail
    go_ret
    exact ⟨_, rfl, ⟨rfl, Or.inl ⟨rfl, rfl⟩⟩, Below.refl _ _⟩
  | some ad =>
    have hr1 := hrow.alloc (.cells #[] 9)
    have q := fun (W : World) (a : Option Addr) (n c n' c' : Nat) => Lib.run_eql_slice_nil (P := Try.prog) W 23 9 a n c n' c' Try.underlying23
    go_enter Try.func71, Try.ntmps71
    go_wp2_with (at_builtin; go_must (refine wpList_append_any rfl (.tmp 5) (.tmp 6) 23 9 _ _ Try.underlying23 infoStr rfl (by decide) rfl w.heap.size _ 0 [] rfl (World.ownsRow_lit w #[] 0 (Nat.le_refl _) (by simp [maxLen]) rfl) (some ad) us us.length c rfl rfl hr1 (by intro e; cases e) h1 (by omega) (by simp) ?_; intro v1 w1 hown1 hgrow1))
    simp only [Nat.zero_add, List.nil_append] at hown1
    have hb1 : Below w.heap.size w w1 := below_cown ((Below.refl _ _).alloc (Nat.le_refl _) _) (World.ownsRow_lit w #[] 0 (Nat.le_refl _) (by simp [maxLen]) rfl) (by simp) hgrow1
    clear hgrow1
    go_ret
    exact ⟨_, rfl, hown1, hb1⟩
set_option maxRecDepth 100000 in
/-- A row of values out of a row of what they hold. -/
theorem RRow.of_vals {w : World} {ok : Nat → Prop} {a : Option Addr} {us : List Value} {l : List V} (hc : CRow w ok a us) (hl : us.length = l.length) (hin : ∀ j (hj : j < us.length) (hk : j < l.length), Rep w ok us[j] l[j]) : RRow w ok a l := by
  refine ⟨fun j => us[j]?.getD .nilIface, fun h0 => ?_, fun j hj => ?_⟩
  · obtain ⟨b, off, rfl, hb, hcell⟩ := hc (by intro e; subst e; simp at hl; omega)
    refine ⟨b, off, rfl, hb, fun j hj => ?_⟩
    have hju : j < us.length := by omega
    rw [hcell j us[j] (List.getElem?_eq_getElem hju)]
    simp [hju]
  · have hju : j < us.length := by omega
    simpa [hju] using hin j hju hj
set_option maxRecDepth 100000 in
/-- What a row of values is to a reader: what they hold, one by one. -/
theorem RRow.vals {w : World} {ok : Nat → Prop} {a : Option Addr} {l : List V} (h : RRow w ok a l) : ∃ us : List Value, us.length = l.length ∧ CRow w ok a us ∧ (∀ u ∈ us, u.oneCell' = true) ∧ ∀ j (hj : j < us.length) (hk : j < l.length), Rep w ok us[j] l[j] := by
  obtain ⟨H, h1, h2⟩ := h
  refine ⟨(List.range l.length).map H, by simp, h1.crow, one_map h2, fun j hj hk => ?_⟩
  simpa using h2 j hk
set_option maxRecDepth 100000 in
theorem ins_rep {w : World} {ok : Nat → Prop} {us : List Value} {l : List V} (hl : us.length = l.length) (hin : ∀ j (hj : j < us.length) (hk : j < l.length), Rep w ok us[j] l[j]) {u : Value} {x : V} (hu : Rep w ok u x) (i : Nat) (hi : i ≤ l.length) :
    ∀ j (hj : j < (us.take i ++ u :: us.drop i).length) (hk : j < (l.take i ++ x :: l.drop i).length), Rep w ok (us.take i ++ u :: us.drop i)[j] (l.take i ++ x :: l.drop i)[j] := by
  intro j hj hk
  have e1 : (us.take i).length = i := by simp; omega
  have e2 : (l.take i).length = i := by simp; omega
  by_cases h1 : j < i
  · rw [List.getElem_append_left (by omega), List.getElem_append_left (by omega), List.getElem_take, List.getElem_take]
    exact hin j (by omega) (by omega)
  · rw [List.getElem_append_right (by omega), List.getElem_append_right (by omega)]
    simp only [e1, e2]
    by_cases h2 : j = i
    · subst h2
      simpa using hu
    · obtain ⟨k, rfl⟩ : ∃ k, j = i + 1 + k := ⟨j - i - 1, by omega⟩
      have e3 : i + 1 + k - i = k + 1 := by omega
      simp only [e3, List.getElem_cons_succ, List.getElem_drop]
      exact hin _ _ _
end Go.Proofs.Ytigdcnoggjcddaa

namespace Go.Proofs.Ytigdcnoggjcddaa
open Go.RowKit Go.Maps

set_option maxRecDepth 100000 in
theorem info_v : (Try.prog.info? 30).map (fun i => (i.zero, i.size, i.bytes)) = some (some (.agg #[.nilIface]), 1, 16) := by kernel_rfl
set_option maxRecDepth 100000 in
theorem isize_v : (Try.prog.info? 30).map (·.size) = some 1 := by kernel_rfl
set_option maxRecDepth 100000 in
set_option maxHeartbeats 3200000 in
theorem ins_end_v {w : World} {base : Nat} {sv : Value} {us : List Value} (h : w.ownsRow base 30 1 sv us.length us) {vb : Nat} {u : Value} (hu : u.oneCell' = true) (hv : w.heap[vb]? = some (.cells #[u] 30 (0, 0))) (hbase : base ≤ w.heap.size) (hn : us.length ≤ 1048576) :
    Calls Try.prog 92 #[sv, .int .i64 (us.length : Nat), .slice (some ⟨vb, 0, none⟩) 1 1] w fun e w' => ∃ v', e = .returned v' ∧ w'.ownsRow base 30 1 v' (us.length + 1) (us ++ [u]) ∧ w.grownBy w' sv.ownBlock := by
  have hrow : CRow w (fun _ => True) (some ⟨vb, 0, none⟩) [u] := fun _ => ⟨vb, 0, rfl, trivial, fun j x hx => by
    rw [cell_of_row _ _ _ _ _ _ hv]
    rw [Nat.zero_add]
    simpa using hx⟩
  rcases h.2 with ⟨rfl, h0⟩ | ⟨g, cap, cur, rfl, hg, hblk, hc, hm, hcs, hct⟩
  · obtain rfl : us = [] := List.eq_nil_of_length_eq_zero h0
    go_enter Try.func92, Try.ntmps92
    go_wp2_with (at_builtin; refine wpList_append_any rfl _ _ 57 30 _ 16 Try.underlying57 info_v rfl (by omega) rfl base _ 0 [] rfl h _ [u] 1 1 rfl rfl hrow (fun e => by cases e) (by simpa using hu) (by omega) hbase ?_; intro v' w' ho hgr)
    go_ret
    exact ⟨v', rfl, by simpa using ho, hgr⟩
  · obtain ⟨n, hnn⟩ : ∃ n, us.length = n := ⟨_, rfl⟩
    rw [hnn] at h hc hn hct ⊢
    have hnb : n + 1 ≤ 1099511627776 := by omega
    clear hct hcs hblk hnn
    go_enter Try.func92, Try.ntmps92
    go_wp2_with (at_builtin; (refine wpList_append_any rfl _ _ 57 30 _ 16 Try.underlying57 info_v rfl (by omega) rfl base _ n us rfl h _ [u] 1 1 rfl rfl hrow (fun e => by cases e) (by simpa using hu) hnb hbase ?_); intro v' w' ho hgr)
    all_goals
      go_ret
      exact ⟨v', rfl, ho, hgr⟩
set_option maxRecDepth 100000 in
set_option maxHeartbeats 3200000 in
theorem ins_room_v {w : World} {g n cap i : Nat} {C us : List Value} (hblk : w.heap[g]? = some (.cells C.toArray 30 (0, 0))) (hC : C.length = cap) (hct : C.take n = us) (hi : i < n) (hroom : n + 1 ≤ cap) (hone : ∀ x ∈ us, x.oneCell' = true)
    {vb : Nat} {u : Value} (hu : u.oneCell' = true) (hv : w.heap[vb]? = some (.cells #[u] 30 (0, 0))) (hvg : vb ≠ g) (hn : n ≤ 1048576) :
    Calls Try.prog 92 #[.slice (some ⟨g, 0, none⟩) n cap, .int .i64 (i : Nat), .slice (some ⟨vb, 0, none⟩) 1 1] w fun e w' => e = .returned (.slice (some ⟨g, 0, none⟩) (n + 1) cap) ∧ w'.heap[g]? = some (.cells (splice (splice C (i + 1) (us.drop i)) i [u]).toArray 30 (0, 0)) ∧ Below g w w' := by
  have hz2 : ¬ ((i : Int) = (n : Int)) := by omega
  have hz3 : ¬ ((cap : Int) < (n : Int) + 1) := by omega
  have hw1 : IntKind.i64.wrap ((i : Int) + 1) = (i : Int) + 1 := by rw [IntKind.wrap_i64]; omega
  have hw2 : IntKind.i64.wrap ((n : Int) + 1) = (n : Int) + 1 := by rw [IntKind.wrap_i64]; omega
  have hb1 : (0 : Int) ≤ (i : Int) + 1 := by omega
  have htn : ((i : Int) + 1).toNat = i + 1 := by omega
  have hb3 : (i : Int) ≤ (n : Int) + 1 := by omega
  have hin : i ≤ n := by omega
  have mixed : Try.prog.follows Departure.mixedOrders = true := by kernel_rfl
  have hov : ∀ lb cb : Nat, (callFunc 102 #[.slice (some ⟨vb, 0, none⟩) 1 1, .slice (some ⟨g, i + 1, none⟩) lb cb]).run Try.prog w = .ok (.value (.bool false)) w := fun lb cb => by
    rw [run_callFunc_extern Try.func102 (by kernel_rfl) (by kernel_rfl) (by kernel_rfl) (e := Extern.SlicesOverlaps.overlaps #[57, 57] #[4]) (by kernel_rfl),
      Lib.run_overlaps_apart w 57 4 30 Try.underlying57 1 (fun w => by kernel_rfl) ⟨vb, 0, none⟩ ⟨g, i + 1, none⟩ 1 1 lb cb hvg 30 30 1 cap (by simp [World.shape?, hv]) (by simp [World.shape?, hblk, hC]) (by omega) (frozen_of_row _ _ _ _ _ hv) (frozen_of_row _ _ _ _ _ hv)]
    rfl
  have hcne : ¬ (cap = i + 1) := by omega
  have hcne2 : ¬ (cap = i) := by omega
  go_enter Try.func92, Try.ntmps92
  go_wp2_with (simp only [hov])
  have hlen : (us.drop i).length = n - i := by rw [← hct]; simp; omega
  have hsrc : ∀ (j : Nat) (x : Value), (us.drop i)[j]? = some x → w.drew.cell? ((⟨g, i, none⟩ : Addr).add j) = some x := fun j x hj => by
    rw [Addr.add_lit, cell_of_row _ _ _ _ _ _ (show w.drew.heap[g]? = _ from hblk)]
    rw [← hct, List.getElem?_drop, List.getElem?_take] at hj
    split at hj
    · simpa using hj
    · cases hj
  have hfit : i + 1 + (us.drop i).length ≤ C.length := by rw [hlen]; omega
  have hmin : (us.drop i).length = Nat.min (n + 1 - i) (n + 1 - (i + 1)) := by rw [hlen]; simp only [Nat.min_def]; split <;> omega
  have hone1 : ∀ x ∈ us.drop i, x.oneCell' = true := fun x hx => hone x (List.mem_of_mem_drop hx)
  obtain ⟨W4, hr4, hg4, ho4, -, hb4⟩ := copy_run w.drew 57 30 3 Try.underlying57 isize_v g (i + 1) (n + 1 - (i + 1)) (cap - (i + 1)) ⟨g, i, none⟩ (n + 1 - i) (cap - i) C 30 (us.drop i) hblk hmin hsrc hfit hone1
  have hB4 := hb4 g w (Nat.le_refl _) (Below.refl _ _).drew
  have hv4 : W4.heap[vb]? = some (.cells #[u] 30 (0, 0)) := (ho4 vb hvg).trans hv
  have hsl : (splice C (i + 1) (us.drop i)).length = C.length := length_splice _ _ _ hfit
  obtain ⟨W5, hr5, hg5, -, -, hb5⟩ := copy_run W4 57 30 3 Try.underlying57 isize_v g i (n + 1 - i) (cap - i) ⟨vb, 0, none⟩ 1 1 (splice C (i + 1) (us.drop i)) 30 [u] hg4 (by simp only [List.length_cons, List.length_nil, Nat.min_def]; split <;> omega) (fun j x hx => by
    rw [Addr.add_lit, cell_of_row _ _ _ _ _ _ hv4]
    simpa using hx) (by rw [hsl]; simp; omega) (by simpa using hu)
  have hB5 := hb5 g w (Nat.le_refl _) hB4
  have HG5 : Hid (W5.heap[g]? = some (.cells (splice (splice C (i + 1) (us.drop i)) i [u]).toArray 30 (0, 0))) := hg5
  clear hov hg4 ho4 hb4 hg5 hb5 hv4 hsl hsrc hmin hfit hone1 hblk hv hct hlen hone
  go_region_law_o (refine step_copy_any rfl _ _ 57 rfl _ _ (by simp [Act.eval, Act.put]) (by simp [Act.eval, Act.put]) hr4 ?_)
  go_wp2_with (at_builtin; refine wpList_copy_any rfl _ _ 57 rfl _ _ rfl rfl hr5 ?_)
  go_ret
  exact ⟨rfl, HG5.out, hB5⟩
set_option maxRecDepth 100000 in
set_option maxHeartbeats 3200000 in
theorem ins_grow_v {w : World} {g n cap i : Nat} {us : List Value} (hcell : ∀ j x, us[j]? = some x → w.cell? ⟨g, j, none⟩ = some x) (hl : us.length = n) (hi : i < n) (hnc : n ≤ cap) (hroom : cap < n + 1) (hone : ∀ x ∈ us, x.oneCell' = true)
    {vb : Nat} {u : Value} (hu : u.oneCell' = true) (hv : w.heap[vb]? = some (.cells #[u] 30 (0, 0))) (hn : n ≤ 1048576) :
    Calls Try.prog 92 #[.slice (some ⟨g, 0, none⟩) n cap, .int .i64 (i : Nat), .slice (some ⟨vb, 0, none⟩) 1 1] w fun e w' => ∃ (G : Nat) (R : List Value), e = .returned (.slice (some ⟨w.heap.size, 0, none⟩) (n + 1) G) ∧ n + 1 ≤ G ∧ G ≤ maxLen ∧ R.length = G ∧ R.take (n + 1) = us.take i ++ u :: us.drop i ∧ w'.heap[w.heap.size]? = some (.cells R.toArray 30 (0, 0)) ∧ Below w.heap.size w w' := by
  obtain ⟨i0, hi0, hz0, hzs, hzb⟩ := info_parts info_v
  have mixed : Try.prog.follows Departure.mixedOrders = true := by kernel_rfl
  have hgw : g < w.heap.size := World.block_lt_of_cell? _ _ (hcell 0 us[0] (by rw [List.getElem?_eq_getElem]))
  have hvw : vb < w.heap.size := (Array.getElem?_eq_some_iff.1 hv).1
  have hkk : (n : Int) + 1 - (i : Int) = ((n + 1 - i : Nat) : Int) := by omega
  have hik : i + (n + 1 - i) = n + 1 := by omega
  have hold : (Builtin.firstCells i0.size i (.slice (some ⟨g, 0, none⟩) i cap)).run Try.prog w.drew = .ok (us.take i).toArray w.drew := by
    rw [hzs]
    exact run_firstCells_some w.drew 1 i ⟨g, 0, none⟩ i cap (us.take i) (by rw [List.length_take]; omega) (fun j x hj => by
      rw [Addr.add_lit, Nat.zero_add]
      rw [List.getElem?_take] at hj
      split at hj
      · exact hcell j x hj
      · cases hj)
  obtain ⟨G, hG⟩ : ∃ G, G = grownCap w (n + 1) cap 30 := ⟨_, rfl⟩
  have hGn : n + 1 ≤ G := by rw [hG]; exact grownCap_ge w _ _ _
  have hGm : G ≤ maxLen := by rw [hG]; exact grownCap_le_maxLen w (n + 1) cap 30 (by unfold maxLen; omega)
  have hG63 : G ≤ 9223372036854775807 := by unfold maxLen at hGm; omega
  obtain ⟨Z, hZ⟩ : ∃ Z : List Value, Z = (Builtin.zeroCells (.agg #[.nilIface] : Value).cells (n + 1 - i) ++ Builtin.zeroCells (.agg #[.nilIface] : Value).cells (G - (n + 1))).toList := ⟨_, rfl⟩
  have hZl : Z.length = G - i := by
    rw [hZ]
    simp [Builtin.zeroCells, Value.cells]
    omega
  have hrz : ∀ ty, (Builtin.append_ #[57, 3] ty #[.slice (some ⟨g, 0, none⟩) i cap, .int .i64 ((n : Int) + 1 - (i : Int))]).run Try.prog w = .ok (.slice (some ⟨w.heap.size, 0, none⟩) (n + 1) G) (w.drew.alloc (.cells (us.take i ++ Z).toArray 30)) := fun ty => by
    have h := Lib.run_append_grow_zeros w 57 3 ty 30 i0 _ .i64 .i64 Try.underlying57 Try.underlying3 hi0 hz0 (some ⟨g, 0, none⟩) i cap (us.take i) hold (n + 1 - i) (by omega) (by omega) (by omega) (by omega) (by rw [hzb]; omega) (by rw [hzb, hik]; exact growslice_fits hroom (by omega))
    rw [hik, ← hG] at h
    have hA : (us.take i).toArray ++ Builtin.zeroCells (.agg #[.nilIface] : Value).cells (n + 1 - i) ++ Builtin.zeroCells (.agg #[.nilIface] : Value).cells (G - (n + 1)) = (us.take i ++ Z).toArray := by
      rw [hZ]
      apply Array.toList_inj.1
      simp
    rw [hkk, h, hA]
  have hb1 : Below w.heap.size w (w.drew.alloc (.cells (us.take i ++ Z).toArray 30)) := ((Below.refl _ _).drew).alloc (Nat.le_refl _) _
  have hg1 : (w.drew.alloc (.cells (us.take i ++ Z).toArray 30)).heap[w.heap.size]? = some (.cells (us.take i ++ Z).toArray 30 (0, 0)) := heap_alloc_new w.drew _
  generalize w.drew.alloc (.cells (us.take i ++ Z).toArray 30) = W1 at *
  have hT : (us.take i).length = i := by simp; omega
  have hM : (us.drop i).length = n - i := by simp; omega
  have hRl : (us.take i ++ Z).length = G := by rw [List.length_append, hT, hZl]; omega
  have hv1 := (hb1.block vb hvw).trans hv
  obtain ⟨W2, hr2, hg2, -, -, hb2⟩ := copy_run W1 57 30 3 Try.underlying57 isize_v w.heap.size i (n + 1 - i) (G - i) ⟨vb, 0, none⟩ 1 1 (us.take i ++ Z) 30 [u] hg1 (by simp only [List.length_cons, List.length_nil, Nat.min_def]; split <;> omega) (fun j x hx => by
    rw [Addr.add_lit, cell_of_row _ _ _ _ _ _ hv1]
    simpa using hx) (by rw [hRl]; simp; omega) (by simpa using hu)
  have hB2 := hb2 w.heap.size w (Nat.le_refl _) hb1
  have hsl : (splice (us.take i ++ Z) i [u]).length = G := (length_splice _ _ _ (by rw [hRl]; simp; omega)).trans hRl
  obtain ⟨W3, hr3, hg3, -, -, hb3⟩ := copy_run W2.drew 57 30 3 Try.underlying57 isize_v w.heap.size (i + 1) (n + 1 - (i + 1)) (G - (i + 1)) ⟨g, i, none⟩ (n - i) (cap - i) (splice (us.take i ++ Z) i [u]) 30 (us.drop i) hg2 (by rw [hM]; simp only [Nat.min_def]; split <;> omega) (fun j x hx => by
    rw [Addr.add_lit]
    rw [List.getElem?_drop] at hx
    exact (hB2.drew.cell (p := ⟨g, i + j, none⟩) hgw).trans (hcell _ _ hx)) (by rw [hsl, hM]; omega) (fun x hx => hone x (List.mem_of_mem_drop hx))
  have hB3 := hb3 w.heap.size w (Nat.le_refl _) hB2.drew
  obtain ⟨q1, q2⟩ := splice_new (us.take i) Z (us.drop i) i n u hT (by omega) (by omega)
  rw [hRl] at q2
  have HF : Hid ((splice (splice (us.take i ++ Z) i [u]) (i + 1) (us.drop i)).length = G ∧ (splice (splice (us.take i ++ Z) i [u]) (i + 1) (us.drop i)).take (n + 1) = us.take i ++ u :: us.drop i ∧ W3.heap[w.heap.size]? = some (.cells (splice (splice (us.take i ++ Z) i [u]) (i + 1) (us.drop i)).toArray 30 (0, 0))) := ⟨q2, q1, hg3⟩
  have hz2 : ¬ ((i : Int) = (n : Int)) := by omega
  have hz3 : (cap : Int) < (n : Int) + 1 := by omega
  have hw1 : IntKind.i64.wrap ((i : Int) + 1) = (i : Int) + 1 := by rw [IntKind.wrap_i64]; omega
  have hw2 : IntKind.i64.wrap ((n : Int) + 1) = (n : Int) + 1 := by rw [IntKind.wrap_i64]; omega
  have hw3 : IntKind.i64.wrap ((n : Int) + 1 - (i : Int)) = (n : Int) + 1 - (i : Int) := by rw [IntKind.wrap_i64]; omega
  have hb1' : (0 : Int) ≤ (i : Int) + 1 := by omega
  have htn : ((i : Int) + 1).toNat = i + 1 := by omega
  have hb3' : (i : Int) ≤ (n : Int) := by omega
  have hb4' : (i : Int) ≤ (n : Int) + 1 := by omega
  have hin : i ≤ n := by omega
  have hGi : ¬ (G = i) := by omega
  have hGi1 : ¬ (G = i + 1) := by omega
  have hci : ¬ (cap = i) := by omega
  clear hcell hl hone hv hold hkk hik hG hZ hZl hb1 hg1 hT hM hRl hv1 hg2 hb2 hB2 hsl hg3 hb3 q1 q2 hz0 hzs hzb hi0
  go_enter Try.func92, Try.ntmps92
  go_wp2_with (first
    | (at_builtin; refine Lib.wpList_append_run _ rfl _ _ _ _ rfl _ _ rfl rfl _ _ (hrz _) ?_)
    | (at_builtin; refine wpList_copy_any rfl _ _ 57 rfl _ _ rfl rfl hr2 ?_))
  go_region_law_o (refine step_copy_any rfl _ _ 57 rfl _ _ (by simp [Act.eval, Act.put]) (by simp [Act.eval, Act.put]) hr3 ?_)
  go_wp2
  go_ret
  exact ⟨G, _, rfl, hGn, hGm, HF.out.1, HF.out.2.1, HF.out.2.2, hB3⟩
set_option maxRecDepth 100000 in
/-- slices.Insert of one. -/
theorem ins_any_v {w : World} {base : Nat} {sv : Value} {us : List Value} (h : w.ownsRow base 30 1 sv us.length us) (hone : ∀ x ∈ us, x.oneCell' = true) {i : Nat} (hi : i ≤ us.length) {vb : Nat} {u : Value} (hu : u.oneCell' = true) (hv : w.heap[vb]? = some (.cells #[u] 30 (0, 0))) (hvs : sv.ownBlock ≠ some vb) (hbase : base ≤ w.heap.size) (hn : us.length ≤ 1048576) :
    Calls Try.prog 92 #[sv, .int .i64 (i : Nat), .slice (some ⟨vb, 0, none⟩) 1 1] w fun e w' => ∃ v', e = .returned v' ∧ w'.ownsRow base 30 1 v' (us.length + 1) (us.take i ++ u :: us.drop i) ∧ ∀ X, X ≤ w.heap.size → (∀ k, sv.ownBlock = some k → X ≤ k) → Below X w w' := by
  by_cases he : i = us.length
  · subst he
    refine (ins_end_v h hu hv hbase hn).mono ?_
    rintro e w' ⟨v', rfl, ho, hg⟩
    exact ⟨v', rfl, by simpa using ho, fun X hX hk => (Below.refl _ _).grown hg hX hk⟩
  · have hlt : i < us.length := by omega
    rcases h.2 with ⟨rfl, h0⟩ | ⟨g, cap, cur, rfl, hg, hblk, hc, hm, hcs, hct⟩
    · omega
    · rw [Nat.mul_one] at hcs hct
      have hvg : vb ≠ g := fun e => hvs (by rw [e]; rfl)
      by_cases hr : us.length + 1 ≤ cap
      · refine (ins_room_v (C := cur.toList) (us := us) (by simpa using hblk) (by simpa using hcs) hct hlt hr hone hu hv hvg hn).mono ?_
        rintro e w' ⟨rfl, h1, h2⟩
        obtain ⟨q1, q2⟩ := splice_room cur.toList us i us.length u hlt hct (by rw [show cur.toList.length = cap by simpa using hcs]; exact hr)
        refine ⟨_, rfl, ⟨by simp; omega, Or.inr ⟨g, cap, _, rfl, hg, h1, hr, hm, ?_, ?_⟩⟩, fun X hX hk => h2.mono (hk g rfl)⟩
        · rw [Nat.mul_one]
          simp only [List.size_toArray]
          rw [q2]
          simpa using hcs
        · rw [Nat.mul_one]
          exact q1
      · refine (ins_grow_v (g := g) (cap := cap) (us := us) (fun j x hx => ?_) rfl hlt hc (by omega) hone hu hv hn).mono ?_
        · rw [cell_of_row _ _ _ _ _ _ hblk]
          rw [← hct, List.getElem?_take] at hx
          split at hx
          · simpa using hx
          · cases hx
        · rintro e w' ⟨G, R, rfl, h1, h2, h3, h4, h5, h6⟩
          refine ⟨_, rfl, ⟨by simp; omega, Or.inr ⟨w.heap.size, G, _, rfl, hbase, h5, h1, h2, ?_, ?_⟩⟩, fun X hX _ => h6.mono hX⟩
          · rw [Nat.mul_one]
            simpa using h3
          · rw [Nat.mul_one]
            exact h4
end Go.Proofs.Ytigdcnoggjcddaa

