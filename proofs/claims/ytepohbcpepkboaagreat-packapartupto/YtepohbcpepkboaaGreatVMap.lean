/- What Map makes of keys and values. Conditions: they lie in memory, at most 1048576 values and letters. -/
import Derived.Test.YtepohbcpepkboaaGreatVShelf
import Derived.Test.YtepohbcpepkboaaGreatVSort
import Derived.Laws.MakeOwn
import Derived.Maps.OwnOps
namespace Go.Proofs.YtepohbcpepkboaaGreat
open Go.RowKit Go.Maps Go.WideMaps

/-- Where a key stands first. -/
def posK (q : List ByteArray) (k : ByteArray) : Nat := q.findIdx (fun x => decide (x = k))
set_option maxRecDepth 100000 in
theorem posK_lt {q : List ByteArray} {k : ByteArray} (h : k ∈ q) : posK q k < q.length := List.findIdx_lt_length_of_exists ⟨k, h, by simp⟩
set_option maxRecDepth 100000 in
theorem posK_at {q : List ByteArray} {k : ByteArray} (h : k ∈ q) : q[posK q k]'(posK_lt h) = k := by
  exact of_decide_eq_true (List.findIdx_getElem (xs := q) (p := fun x => decide (x = k)) (w := posK_lt h))
set_option maxRecDepth 100000 in
theorem posK_nodup {q : List ByteArray} (hn : q.Nodup) {j : Nat} (hj : j < q.length) : posK q q[j] = j := by
  have h1 := posK_at (List.getElem_mem hj)
  have h2 := posK_lt (List.getElem_mem hj)
  rcases Nat.lt_trichotomy (posK q q[j]) j with h | h | h
  · exact absurd h1 (List.pairwise_iff_getElem.1 hn _ _ h2 hj h)
  · exact h
  · exact absurd h1.symm (List.pairwise_iff_getElem.1 hn _ _ hj h2 h)
/-- The values, in the order of the keys, rising. -/
def pick (q : List ByteArray) (l : List V) : List V := (sortK q).map (fun k => l[posK q k]?.getD V.null)
set_option maxRecDepth 100000 in
theorem bulkL_sum : ∀ l : List V, V.bulk.go l = (l.map V.bulk).sum
  | [] => rfl
  | v :: r => by simp only [V.bulk.go, List.map_cons, List.sum_cons, bulkL_sum r]
set_option maxRecDepth 100000 in
theorem bulkL_perm {a b : List V} (h : a.Perm b) : V.bulk.go a = V.bulk.go b := by rw [bulkL_sum, bulkL_sum]; exact (h.map _).sum_nat
set_option maxRecDepth 100000 in
theorem pick_perm (q : List ByteArray) (l : List V) (hq : q.length = l.length) (hn : q.Nodup) : (pick q l).Perm l := by
  have h1 := (sortK_perm q).map (fun k => l[posK q k]?.getD V.null)
  have h2 : q.map (fun k => l[posK q k]?.getD V.null) = l := by
    apply List.ext_getElem (by simpa using hq)
    intro j h3 h4
    rw [List.getElem_map, posK_nodup hn]
    simp [h4]
  rw [h2] at h1
  exact h1
set_option maxRecDepth 100000 in
theorem run_makeV (n : Nat) (hn : n ≤ 1048577) (w : World) : (Instr.makeSlice 45 (.int .i64 (n : Int)) (.int .i64 (n : Int))).run Tryz.prog w = .ok (.slice (some ⟨w.heap.size, 0, none⟩) n n) (w.alloc (.cells (madeCells #[.nilIface] n) 34)) := by
  obtain ⟨i, hi, hzz⟩ := Option.map_eq_some_iff.1 infoVal
  simp only [Prod.mk.injEq] at hzz
  obtain ⟨hz, hs, hb⟩ := hzz
  have hr := run_make (P := Tryz.prog) w 45 34 i _ Tryz.underlying45 hi hz .i64 .i64 n n (by omega) (Int.le_refl _) (by rw [hb]; omega) (by omega)
  simp only [Int.toNat_natCast, hs, Nat.mul_one] at hr
  exact hr
set_option maxRecDepth 100000 in
theorem mapOwn_agree {w w' : World} {R : Value → Option (DataW Unit × List MemPlace)} {M n : Nat} {D : DataW Unit} (h : w.ownsMap Tryz.prog 9 R M n D) (hg : w'.heap[M]? = w.heap[M]?) : w'.ownsMap Tryz.prog 9 R M n D := by
  obtain ⟨es, clock, hbk, Ft, hs, hD⟩ := h
  exact ⟨es, clock, hg.trans hbk, Ft, hs, hD⟩
set_option maxRecDepth 100000 in
set_option maxHeartbeats 800000 in
theorem map_arg (ka : Option Addr) (q : List ByteArray) (kc : Nat) (ao : Option Addr) (l : List V) (c : Nat) (w : World) (hne : q.length ≠ l.length) :
    Calls Tryz.prog 33 #[.slice ka q.length kc, .slice ao l.length c] w fun e w' => e = .returned (.tuple #[.agg #[.nilIface], .int .i64 1]) ∧ Below w.heap.size w w' := by
  have hne' : ((q.length : Int) == (l.length : Int)) = false := by rw [beq_eq_false_iff_ne]; omega
  go_enter Tryz.func33, Tryz.ntmps33
  go_wp2_with fail
  exact bodyPost_ret (v := .tuple #[.agg #[.nilIface], .int .i64 1]) (by simp [results, Tryz.results33, go_sem]) rfl ⟨rfl, (Below.refl _ _).alloc (Nat.le_refl _) _⟩
set_option maxRecDepth 100000 in
set_option maxHeartbeats 800000 in
theorem map_twice (ka : Option Addr) (q : List ByteArray) (kc : Nat) (ao : Option Addr) (l : List V) (c : Nat) (w : World) {ok : Nat → Prop} (hs : SRow w ok ka q) (heq : q.length = l.length) (h1 : q.length ≤ 1048576) (hnd : ¬ q.Nodup) :
    Calls Tryz.prog 33 #[.slice ka q.length kc, .slice ao l.length c] w fun e w' => e = .returned (.tuple #[.agg #[.nilIface], .int .i64 9]) ∧ Below w.heap.size w w' := by
  have CP : Hid (∀ W, Below w.heap.size w W → Calls Tryz.prog 57 #[.slice ka q.length kc] W fun e w' => ∃ M D, e = .returned (.map (some M)) ∧ w'.ownsMap Tryz.prog 9 (plainElem Tryz.prog 3) M q.length D ∧ (Maps.size D : Int) < (q.length : Int) ∧ Below W.heap.size W w') := fun W hW => by
    refine (places_any ka q kc W (hs.below hW) h1).mono ?_
    rintro e w' ⟨rfl, h2, h3⟩
    refine ⟨_, _, rfl, h2, ?_, h3⟩
    have := (plD_size q q.length (Nat.le_refl _)).2 (by rw [List.take_length]; exact hnd)
    omega
  clear hs hnd
  rw [← heq]
  clear heq
  go_enter Tryz.func33, Tryz.ntmps33
  go_wp2_with fail
  refine (CP.out _ ((Below.refl _ _).alloc (Nat.le_refl _) _)).mono ?_
  rintro e w1 ⟨M, D, rfl, hown, hsz, hb1⟩
  have hz := heap_alloc_new w (.cells #[.nilIface] 34)
  have hz1 := (hb1.block w.heap.size (by simp)).trans hz
  have z0 := cell_of_row _ _ 0 _ _ _ hz1
  have z1 := frozen_of_row _ _ 0 _ _ hz1
  have hB1 : Below w.heap.size w w1 := ((Below.refl _ _).alloc (Nat.le_refl _) _).trans (hb1.mono (by simp))
  have hx : (w1.setCell ⟨w.heap.size, 0, none⟩ .nilIface).cell? ⟨w.heap.size, 0, none⟩ = some .nilIface := cell_of_row _ _ _ _ _ _ (heap_setCell_same _ _ 0 _ _ .nilIface hz1)
  clear CP hz hz1 hb1
  go_wp2_with (at_len; refine wpList_len_own _ rfl _ 113 rfl 9 3 Tryz.underlying113 _ M q.length _ rfl hown ?_)
  exact bodyPost_ret (v := .tuple #[.agg #[.nilIface], .int .i64 9]) (by simp [results, Tryz.results33, go_sem, hx]) rfl ⟨rfl, hB1.setCell (Nat.le_refl _) _⟩
set_option maxRecDepth 100000 in
theorem wpList_look_at {H : Type} {P : Program} (w : World) {ops : Array Oper} {rest : List Oper} {o : Oper} {a : Act} {Q : Exit → Act → World → Prop}
    (hg : o.guard = none) (m x : Operand) (t : TypeId) (hop : o.op = Op.lookup t m x false)
    (k e : TypeId) (q : IntKind) (K : Keyed P k) (ht : P.underlying t = some (.map k e)) (he : P.underlying e = some (.int q)) (hz : (zeroValue e).run P w = .ok (.int q 0) w) (b n : Nat) (D : DataW H)
    (hm : a.eval m = .map (some b)) (hown : w.ownsMap P k (plainElem P e) b n D) (key : Value) (kl : Lit) (hx : a.eval x = key) (hkey : keyOf P k key = some kl) (y : Int) (hat : D.atKey kl (.lit (.int q 0)) = .lit (.int q y))
    (hK : wpList P ops Q rest (a.put o.dst (.int q y)) w) : wpList P ops Q (o :: rest) a w :=
  wpList_lookup_own_int w hg m x t hop k e q K ht he hz b n D hm hown key kl hx hkey (fun c h _ => by
    have : c = y := by rw [hat] at h; injection h with h; injection h with _ h; exact h.symm
    rw [this]; exact hK)
set_option maxRecDepth 100000 in
/-- A block of cells, the first ones written. -/
theorem cells_set {w : World} {B k : Nat} {cs : Array Value} {T : TypeId} {G : Nat → Value} (h : w.heap[B]? = some (.cells cs T (0, 0))) (hk : k < cs.size) (hc : ∀ j, j < k → cs[j]? = some (G j)) :
    ∃ cs' : Array Value, (w.setCell ⟨B, k, none⟩ (G k)).heap[B]? = some (.cells cs' T (0, 0)) ∧ cs'.size = cs.size ∧ ∀ j, j < k + 1 → cs'[j]? = some (G j) := by
  refine ⟨cs.setIfInBounds k (G k), heap_setCell_same _ _ k _ _ _ h, by simp, fun j hj => ?_⟩
  rcases Nat.lt_or_ge j k with h1 | h1
  · rw [Array.getElem?_setIfInBounds_ne (by omega)]; exact hc j h1
  · obtain rfl : j = k := by omega
    rw [Array.getElem?_setIfInBounds_self]; simp [hk]
set_option maxRecDepth 100000 in
set_option maxHeartbeats 3200000 in
theorem map_yes (ka : Option Addr) (q : List ByteArray) (kc : Nat) (ao : Option Addr) (l : List V) (c : Nat) (w : World) {ok ok' : Nat → Prop} (hk : ∀ b, w.heap.size ≤ b → ok b) (hs : SRow w ok' ka q) (hr : RRow w ok ao l) (heq : q.length = l.length) (hbk : V.bulk.go l ≤ 1048576) (hnd : q.Nodup) :
    Calls Tryz.prog 33 #[.slice ka q.length kc, .slice ao l.length c] w fun e w' => ∃ h, e = .returned (.tuple #[.agg #[h], .int .i64 0]) ∧ Rep w' ok h (V.map (pick q l) (sortK q)) ∧ Below w.heap.size w w' := by
  have h1 : q.length ≤ 1048576 := by have := len_le_bulkL l; omega
  have CP : Hid (∀ W, Below w.heap.size w W → Calls Tryz.prog 57 #[.slice ka q.length kc] W fun e w' => ∃ M, e = .returned (.map (some M)) ∧ w'.ownsMap Tryz.prog 9 (plainElem Tryz.prog 3) M q.length (plD q q.length) ∧ (Maps.size (plD q q.length) : Int) = (q.length : Int) ∧ Below W.heap.size W w') := fun W hW => by
    refine (places_any ka q kc W (hs.below hW) h1).mono ?_
    rintro e w' ⟨rfl, h2, h3⟩
    refine ⟨_, rfl, h2, ?_, h3⟩
    have := (plD_size q q.length (Nat.le_refl _)).1 (by rw [List.take_length]; exact hnd)
    omega
  have CS : Hid (∀ (W : World) (M n : Nat), w.heap.size < W.heap.size → W.ownsMap Tryz.prog 9 (plainElem Tryz.prog 3) M n (plD q q.length) → Calls Tryz.prog 58 #[.func (.func 92) #[] #[.pointer (some ⟨W.heap.size, 0, none⟩)]] (W.alloc (.cells #[.map (some M)] 113)) fun e w' =>
      ∃ a c, e = .returned (.slice a q.length c) ∧ SRow w' (fun b => ok b ∧ b ≠ w.heap.size) a (sortK q) ∧ SliceOk a q.length c ∧ Below W.heap.size W w') := fun W M n hW hown => sortedKeys_any hs.1 hnd h1 hown (fun b hb => ⟨hk b (by omega), by omega⟩)
  obtain ⟨H, hr1, hr2⟩ := hr.mono (ok' := fun b => ok b ∧ b ≠ w.heap.size) (fun b h1 h2 => ⟨h1, by omega⟩)
  have CM : Hid (∀ (W : World) (B : Nat) (ka' : Option Addr) (kc' : Nat) (cs : Array Value), Below w.heap.size w W → w.heap.size < W.heap.size → w.heap.size < B → W.heap[B]? = some (.cells cs 34 (0, 0)) → (∀ j, j < q.length → cs[j]? = some (H (posK q ((sortK q)[j]?.getD ByteArray.empty)))) → SRow W (fun b => ok b ∧ b ≠ w.heap.size) ka' (sortK q) → SliceOk ka' q.length kc' →
      Calls Tryz.prog 60 #[.slice ka' q.length kc', .slice (some ⟨B, 0, none⟩) q.length q.length] W fun e w' => ∃ h, e = .returned (.agg #[h]) ∧ Rep w' (fun b => ok b ∧ b ≠ w.heap.size) h (V.map (pick q l) (sortK q)) ∧ Below W.heap.size W w') := fun W B ka' kc' cs hW hlt hB hbk' hcs hks hsl => by
    have hpl : (pick q l).length = q.length := by rw [(pick_perm q l heq hnd).length_eq]; exact heq.symm
    have hsk : (sortK q).length = q.length := (sortK_perm q).length_eq
    have C := mapOf_any (some ⟨B, 0, none⟩) (pick q l) q.length ka' (sortK q) kc' W (ok := fun b => ok b ∧ b ≠ w.heap.size) (fun b hb => ⟨hk b (by omega), by omega⟩) ?_ ⟨(fun h => by cases h), by omega, by unfold maxLen; omega⟩ (by rw [bulkL_perm (pick_perm q l heq hnd)]; exact hbk) hks (by rw [hsk]; exact hsl) (by omega) (sortK_rising q hnd).nodup
    · rw [hpl, hsk] at C
      exact C
    · refine ⟨fun j => H (posK q ((sortK q)[j]?.getD ByteArray.empty)), fun _ => ⟨B, 0, rfl, ⟨hk B (by omega), by omega⟩, fun j hj => ?_⟩, fun j hj => ?_⟩
      · rw [cell_of_row _ _ _ _ _ _ hbk', Nat.zero_add]
        exact hcs j (by omega)
      · have hj' : j < (sortK q).length := by omega
        have hm : (sortK q)[j] ∈ q := (sortK_perm q).mem_iff.1 (List.getElem_mem hj')
        have hp := posK_lt hm
        have := (hr2 (posK q (sortK q)[j]) (by omega)).stays hW
        simp only [pick, List.getElem_map, hj', getElem?_pos, Option.getD_some]
        have hpl2 : posK q (sortK q)[j] < l.length := by omega
        simpa [hpl2] using this
  have HK : Hid (∀ k, k < q.length → ∃ s : ByteArray, (sortK q)[k]?.getD ByteArray.empty = s ∧ s.size ≤ maxLen ∧ posK q s < q.length ∧ (∀ (W : World) (a : Option Addr), SRow W (fun b => ok b ∧ b ≠ w.heap.size) a (sortK q) → ∃ b off, a = some ⟨b, off, none⟩ ∧ W.cell? ⟨b, off + k, none⟩ = some (.string s)) ∧ (plD q q.length).atKey (litS s) (.lit (.int .i64 0)) = .lit (.int .i64 (posK q s))) := fun k hkl => by
    have hj' : k < (sortK q).length := by rw [(sortK_perm q).length_eq]; exact hkl
    have hm : (sortK q)[k] ∈ q := (sortK_perm q).mem_iff.1 (List.getElem_mem hj')
    refine ⟨(sortK q)[k], by simp [hj'], hs.1 _ hm, posK_lt hm, fun W a hW => ?_, ?_⟩
    · obtain ⟨b, off, rfl, -, hc⟩ := hW.2 (by intro e; rw [e] at hj'; simp at hj')
      exact ⟨b, off, rfl, hc k hj'⟩
    · have := plD_at q hnd q.length (Nat.le_refl _) (posK q (sortK q)[k]) (posK_lt hm) (posK_lt hm)
      rw [posK_at hm] at this
      exact this
  have HH : Hid (∀ j, j < q.length → (H j).oneCell' = true) := fun j hj => (hr2 j (by omega)).one
  clear hs hr hnd hk hbk hr2
  rw [← heq] at hr1
  rw [← heq]
  clear heq
  have hmk := run_makeV q.length (by omega)
  go_enter Tryz.func33, Tryz.ntmps33
  go_wp2_with fail
  refine (CP.out _ ((Below.refl _ _).alloc (Nat.le_refl _) _)).mono ?_
  rintro e w1 ⟨M, rfl, hown, hsz, hb1⟩
  have hz := heap_alloc_new w (.cells #[.nilIface] 34)
  have hz1 := (hb1.block w.heap.size (by simp)).trans hz
  have hB1 : Below w.heap.size w w1 := ((Below.refl _ _).alloc (Nat.le_refl _) _).trans (hb1.mono (by simp))
  have hlt1 : w.heap.size < w1.heap.size := (Array.getElem?_eq_some_iff.1 hz1).1
  clear CP hz hb1
  go_wp2_with (at_len; refine wpList_len_own _ rfl _ 113 rfl 9 3 Tryz.underlying113 _ M q.length _ rfl hown ?_)
  refine (mapsKeys_any (some M) _).mono ?_
  rintro e w2 ⟨rfl, rfl⟩
  go_wp2_with fail
  refine (CS.out w1 M _ hlt1 hown).mono ?_
  rintro e w3 ⟨a3, c3, rfl, hks, hsl, hb3⟩
  have hlt3 : w.heap.size < w3.heap.size := Nat.lt_of_lt_of_le hlt1 hb3.size
  have hz3 := (hb3.block w.heap.size hlt1).trans hz1
  have hown3 := mapOwn_agree hown (hb3.block M hown.lt)
  have hB3 : Below w.heap.size w w3 := hB1.trans (hb3.mono (Nat.le_of_lt hlt1))
  clear CS hown hb3 hB1 hz1 hlt1 hsz
  go_wp2_with fail
  go_loopw [33] (fun si wr => ∃ (k : Nat) (cs : Array Value), k ≤ q.length ∧ si = .int .i64 k ∧ Below w3.heap.size w3 wr ∧ wr.heap[w3.heap.size]? = some (.cells cs 34 (0, 0)) ∧ cs.size = q.length ∧ Hid (∀ j, j < k → cs[j]? = some (H (posK q ((sortK q)[j]?.getD ByteArray.empty))))) (fun si _ => q.length - (intOf si).toNat)
  case atStart => exact ⟨0, _, by omega, rfl, (Below.refl _ _).alloc (Nat.le_refl _) _, heap_alloc_new _ _, size_madeCells _ _, fun j hj => by omega⟩
  case round =>
    obtain ⟨k, cs, hkl, rfl, hb, hbx, hcs, hid⟩ := hrel
    by_cases hlt : k < q.length
    · obtain ⟨s, hsk, hsm, hps, hcell, hat⟩ := HK.out k hlt
      obtain ⟨b, off, rfl, hc0⟩ := hcell _ _ (hks.below hb)
      have hkey : keyOf Tryz.prog 9 (.string s) = some (litS s) := keyOf_string_mk Tryz.underlying9 hsm
      have hownr := mapOwn_agree hown3 (hb.block M hown3.lt)
      obtain ⟨lb, lo, hao, -, hlc⟩ := (hr1.below (hB3.trans (hb.mono (Nat.le_of_lt hlt3)))) (by omega)
      have hcx := hlc (posK q s) hps
      have hone := HH.out _ hps
      obtain ⟨cs', n1, n2, n3⟩ := cells_set (G := fun j => H (posK q ((sortK q)[j]?.getD ByteArray.empty))) hbx (by omega) hid.out
      rw [hsk] at n1
      have hn4 : Below w3.heap.size w3 (wr.setCell ⟨w3.heap.size, k, none⟩ (H (posK q s))) := hb.setCell (Nat.le_refl _) _
      have i0 := cell_of_row _ _ k _ _ _ hbx
      have i1 := frozen_of_row _ _ k _ _ hbx
      obtain ⟨c0, i2⟩ : ∃ c0, cs[k]? = some c0 := ⟨cs[k]'(by omega), getElem?_pos cs k (by omega)⟩
      rw [i2] at i0
      have st := store_old (H (posK q s)) c0 hone wr ⟨w3.heap.size, k, none⟩ i0 i1
      have hrel' : ∀ j, j < k + 1 → cs'[j]? = some (H (posK q ((sortK q)[j]?.getD ByteArray.empty))) := n3
      have HN : Hid ((wr.setCell ⟨w3.heap.size, k, none⟩ (H (posK q s))).heap[w3.heap.size]? = some (.cells cs' 34 (0, 0)) ∧ cs'.size = q.length ∧ ∀ j, j < k + 1 → cs'[j]? = some (H (posK q ((sortK q)[j]?.getD ByteArray.empty)))) := ⟨n1, by omega, n3⟩
      subst hao
      clear hrel' n1 n2 n3 hid hlc hcell HK HH CM hks hr1 hbx i2 hone
      generalize posK q s = ps at *
      generalize H ps = h at *
      generalize wr.setCell ⟨w3.heap.size, k, none⟩ h = W5 at *
      have hps' : (ps : Int) < (q.length : Int) := by omega
      have hps0 : (0 : Int) ≤ (ps : Int) := by omega
      go_wp2_with (at_lookup; refine wpList_look_at _ rfl _ _ 113 rfl 9 3 .i64 keyedS Tryz.underlying113 Tryz.underlying3 (zeroI _) M q.length _ rfl hownr _ _ rfl hkey ps hat ?_)
      go_roundw
      case rel => exact ⟨k + 1, cs', by omega, by go_num, hn4, HN.out.1, HN.out.2.1, HN.out.2.2⟩
      case measure => simp [intOf]; omega
    · obtain rfl : k = q.length := by omega
      have C := CM.out wr w3.heap.size a3 c3 cs (hB3.trans (hb.mono (Nat.le_of_lt hlt3))) (Nat.lt_of_lt_of_le hlt3 hb.size) hlt3 hbx hid.out (hks.below hb) hsl
      have hltr := Nat.lt_of_lt_of_le hlt3 hb.size
      have hzr := (hb.block w.heap.size hlt3).trans hz3
      have hBr := hB3.trans (hb.mono (Nat.le_of_lt hlt3))
      clear CM HK HH hks hsl hid hb hbx hown3 hr1 hcs hz3 hB3 hlt3
      go_wp2_with fail
      refine C.mono ?_
      rintro e w5 ⟨h, rfl, hrep, hb5⟩
      have hz5 := (hb5.block w.heap.size hltr).trans hzr
      have hB5 := hBr.trans (hb5.mono (Nat.le_of_lt hltr))
      have z0 := cell_of_row _ _ 0 _ _ _ hz5
      have z1 := frozen_of_row _ _ 0 _ _ hz5
      have st := store_old h .nilIface hrep.one w5 ⟨w.heap.size, 0, none⟩ z0 z1
      have hfin := (hrep.agree (Agree.setCell (w := w5) (n := w.heap.size) (i := 0) h (fun hh => hh.2 rfl))).mono (ok' := ok) (fun b h1 _ => h1.1)
      have hx : (w5.setCell ⟨w.heap.size, 0, none⟩ h).cell? ⟨w.heap.size, 0, none⟩ = some h := cell_of_row _ _ _ _ _ _ (heap_setCell_same _ _ 0 _ _ h hz5)
      clear C hrep hzr hBr
      go_wp2_with fail
      exact bodyPost_ret (v := .tuple #[.agg #[h], .int .i64 0]) (by simp [results, Tryz.results33, go_sem, hx]) rfl ⟨h, rfl, hfin, hB5.setCell (Nat.le_refl _) _⟩
end Go.Proofs.YtepohbcpepkboaaGreat

