/- What List makes of values. Condition: they lie in memory, at most 1048576 values and letters. -/
import Derived.Test.YtepohbcpepkboaaGreatVRep
import Derived.Test.YtepohbcpepkboaaGreatVarA
import Derived.Laws.AppendOwnNone
import Derived.Deep.DeepMust
import Derived.Lib.SliceRun
import Derived.Test.YtepohbcpepkboaaGreatVMeasA
namespace Go.Proofs.YtepohbcpepkboaaGreat
open Go.RowKit Go.Maps

set_option maxRecDepth 100000 in
theorem infoVal : (Tryz.prog.info? 34).map (fun i => (i.zero, i.size, i.bytes)) = some (some (.agg #[.nilIface]), 1, 16) := by kernel_rfl
set_option maxRecDepth 100000 in
theorem infoStr : (Tryz.prog.info? 9).map (fun i => (i.zero, i.size, i.bytes)) = some (some (.string ByteArray.empty), 1, 16) := by kernel_rfl
/-- The cells of a slice of one-cell elements. -/
def CRow (w : World) (ok : Nat → Prop) (a : Option Addr) (us : List Value) : Prop := us ≠ [] → ∃ b off, a = some ⟨b, off, none⟩ ∧ ok b ∧ ∀ j u, us[j]? = some u → w.cell? ⟨b, off + j, none⟩ = some u
set_option maxRecDepth 100000 in
theorem CRow.agree {w w' : World} {ok : Nat → Prop} {a : Option Addr} {us : List Value} (h : CRow w ok a us) (hg : Agree ok w w') : CRow w' ok a us := fun hz => by
  obtain ⟨b, off, rfl, hb, hc⟩ := h hz
  exact ⟨b, off, rfl, hb, fun j u hu => hg.cell hb (hc j u hu)⟩
set_option maxRecDepth 100000 in
theorem CRow.below {w w' : World} {ok : Nat → Prop} {a : Option Addr} {us : List Value} (h : CRow w ok a us) (hb : Below w.heap.size w w') : CRow w' ok a us := h.agree (agreeB hb ok)
set_option maxRecDepth 100000 in
theorem CRow.alloc {w : World} {ok : Nat → Prop} {a : Option Addr} {us : List Value} (h : CRow w ok a us) (o : Obj) : CRow (w.alloc o) ok a us := h.below ((Below.refl _ _).alloc (Nat.le_refl _) o)
set_option maxRecDepth 100000 in
theorem HRow.crow {w : World} {ok : Nat → Prop} {a : Option Addr} {n : Nat} {H : Nat → Value} (h : HRow w ok a n H) : CRow w ok a ((List.range n).map H) := fun hz => by
  have hn : 0 < n := by
    rcases Nat.eq_zero_or_pos n with h | h
    · subst h; simp at hz
    · exact h
  obtain ⟨b, off, rfl, hb, hc⟩ := h hn
  refine ⟨b, off, rfl, hb, fun j u hu => ?_⟩
  obtain ⟨hj, he⟩ := List.getElem?_eq_some_iff.1 hu
  simp at hj he
  rw [hc j hj, he]
set_option maxRecDepth 100000 in
theorem SRow.crow {w : World} {ok : Nat → Prop} {a : Option Addr} {q : List ByteArray} (h : SRow w ok a q) : CRow w ok a (q.map Value.string) := fun hz => by
  obtain ⟨b, off, rfl, hb, hc⟩ := h.2 (by intro e; rw [e] at hz; simp at hz)
  refine ⟨b, off, rfl, hb, fun j u hu => ?_⟩
  obtain ⟨hj, he⟩ := List.getElem?_eq_some_iff.1 hu
  simp at hj he
  rw [hc j hj, he]
set_option maxRecDepth 100000 in
theorem CRow.srow {w : World} {ok : Nat → Prop} {a : Option Addr} {q : List ByteArray} (h : CRow w ok a (q.map Value.string)) (hq : ∀ x ∈ q, x.size ≤ maxLen) : SRow w ok a q := by
  refine ⟨hq, fun hz => ?_⟩
  obtain ⟨b, off, rfl, hb, hc⟩ := h (by intro e; exact hz (List.map_eq_nil_iff.1 e))
  exact ⟨b, off, rfl, hb, fun j hj => hc j _ (by simp [hj])⟩
set_option maxRecDepth 100000 in
theorem wpList_append_any {w : World} {ops : Array Oper} {rest : List Oper} {o : Oper} {a : Act} {Q : Exit → Act → World → Prop} (hgd : o.guard = none) (s x : Operand) (T E : TypeId) (z : Value) (bytes : Nat)
    (hu : Tryz.prog.underlying T = some (.slice E)) (hinfo : (Tryz.prog.info? E).map (fun i => (i.zero, i.size, i.bytes)) = some (some z, 1, bytes)) (hzc : z.cells.size = 1) (hby : bytes ≤ 16)
    (ho : o.op = .call { callee := .builtin .append, args := #[s, x], argTypes := #[T, T] }) (base : Nat) (v : Value) (n : Nat) (xs : List Value) (hs : a.eval s = v) (hown : w.ownsRow base E 1 v n xs)
    (ao : Option Addr) (us : List Value) (m cap : Nat) (hx : a.eval x = .slice ao m cap) (hm : us.length = m) {ok : Nat → Prop} (hrow : CRow w ok ao us) (hnil : ao = none → m = 0 ∧ cap = 0) (h1 : ∀ u ∈ us, u.oneCell' = true)
    (hb : n + m ≤ 1099511627776) (hbase : base ≤ w.heap.size)
    (h : ∀ v' w', w'.ownsRow base E 1 v' (n + m) (xs ++ us) → w.grownBy w' v.ownBlock → wpList Tryz.prog ops Q rest (a.put o.dst v') w') : wpList Tryz.prog ops Q (o :: rest) a w := by
  obtain ⟨i0, hi, hz0, hz1, hz2⟩ := info_parts hinfo
  cases ao with
  | none =>
    obtain ⟨h0, rfl⟩ := hnil rfl
    subst h0
    have hz : us = [] := List.eq_nil_of_length_eq_zero hm
    subst hz
    refine wpList_append_own_none hgd s x T ho base E i0 1 hu hi v n xs hs hown hx (h v w ?_ (World.grownBy.refl _ _))
    simpa using hown
  | some ad =>
    refine wpList_append_own w hgd s x T ho base E i0 z 1 bytes hu hi hz0 hz1 hz2 hzc (by decide) v n xs hs hown ad m cap us hx (by simp [hm]) ?_ h1
      (by unfold maxLen; omega) ?_ hbase (fun v' w' h1 h2 _ => h v' w' h1 h2)
    · intro j u hju
      obtain ⟨b, off, e, -, hc⟩ := hrow (by intro e; rw [e] at hju; simp at hju)
      obtain rfl := Option.some.inj e
      rw [Addr.add_lit]
      exact hc j u hju
    · have : (n + m) * bytes ≤ 1099511627776 * 16 := Nat.mul_le_mul hb hby
      omega
set_option maxRecDepth 100000 in
/-- What a row of the call's own is to a reader. -/
theorem own_crow {w : World} {base n : Nat} {E : TypeId} {v : Value} {us : List Value} (h : w.ownsRow base E 1 v n us) {ok : Nat → Prop} (hk : ∀ b, base ≤ b → ok b) :
    ∃ a cap, v = .slice a n cap ∧ CRow w ok a us ∧ SliceOk a n cap ∧ us.length = n := by
  have hl : us.length = n := by have := h.1; simpa using this
  rcases h.2 with ⟨hv, h0⟩ | ⟨g, cap, cur, hv, hg, _, hc, hm, _⟩
  · subst h0
    have : us = [] := List.eq_nil_of_length_eq_zero hl
    subst this
    exact ⟨none, 0, hv, fun hz => absurd rfl hz, ⟨fun _ => ⟨rfl, rfl⟩, Nat.le_refl _, by simp [maxLen]⟩, rfl⟩
  · subst hv
    refine ⟨some ⟨g, 0, none⟩, cap, rfl, fun _ => ⟨g, 0, rfl, hk g hg, fun j u hu => ?_⟩, ⟨(fun e => by cases e), hc, hm⟩, hl⟩
    have hj := (List.getElem?_eq_some_iff.1 hu).1
    have := h.cellAt j (by omega)
    rw [Nat.zero_add, this, hu]
set_option maxRecDepth 100000 in
theorem cown_below {w w' : World} {base n : Nat} {E : TypeId} {v : Value} {xs : List Value} (h : w.ownsRow base E 1 v n xs) (hb : Below w.heap.size w w') : w'.ownsRow base E 1 v n xs :=
  h.kept (row := none) ⟨hb.os, hb.tape, hb.output, hb.size, fun k hk _ => hb.block k hk⟩ (by cases hv : v.ownBlock with | none => exact Or.inl rfl | some k => exact Or.inr (by simp))
set_option maxRecDepth 100000 in
theorem below_cown {B : Nat} {a w w' : World} {E : TypeId} {v : Value} {n : Nat} {xs : List Value} (hb : Below B a w) (h : w.ownsRow B E 1 v n xs) (hB : B ≤ w.heap.size) (hg : w.grownBy w' v.ownBlock) : Below B a w' :=
  hb.grown hg hB (fun k hk => (h.lt k hk).1)
set_option maxRecDepth 100000 in
theorem cloneV_any (ao : Option Addr) (us : List Value) (c : Nat) (w : World) {ok : Nat → Prop} (hk : ∀ b, w.heap.size ≤ b → ok b) (hrow : CRow w ok ao us) (hok : SliceOk ao us.length c) (h1 : ∀ u ∈ us, u.oneCell' = true) (hn : us.length ≤ 1099511627776) :
    Calls Tryz.prog 56 #[.slice ao us.length c] w fun e w' => ∃ a' c', e = .returned (.slice a' us.length c') ∧ CRow w' ok a' us ∧ SliceOk a' us.length c' ∧ Below w.heap.size w w' := by
  cases ao with
  | none =>
    obtain ⟨h0, rfl⟩ := hok.1 rfl
    have hz : us = [] := List.eq_nil_of_length_eq_zero h0
    subst hz
    clear hrow h1 hn hok
    have q := fun (W : World) (a : Option Addr) (n c n' c' : Nat) => Lib.run_eql_slice_nil (P := Tryz.prog) W 45 34 a n c n' c' Tryz.underlying45
    go_enter Tryz.func56, Tryz.ntmps56
    go_wp2_with fail
    go_ret
    exact ⟨none, 0, rfl, fun hz => absurd rfl hz, ⟨fun _ => ⟨rfl, rfl⟩, Nat.le_refl _, by simp [maxLen]⟩, Below.refl _ _⟩
  | some ad =>
    have hr1 := hrow.alloc (.cells #[] 34)
    have q := fun (W : World) (a : Option Addr) (n c n' c' : Nat) => Lib.run_eql_slice_nil (P := Tryz.prog) W 45 34 a n c n' c' Tryz.underlying45
    go_enter Tryz.func56, Tryz.ntmps56
    go_wp2_with (at_builtin; go_must (refine wpList_append_any rfl (.tmp 5) (.tmp 6) 45 34 _ _ Tryz.underlying45 infoVal rfl (by decide) rfl w.heap.size _ 0 [] rfl (World.ownsRow_lit w #[] 0 (Nat.le_refl _) (by simp [maxLen]) rfl) (some ad) us us.length c rfl rfl hr1 (by intro e; cases e) h1 (by omega) (by simp) ?_; intro v1 w1 hown1 hgrow1))
    simp only [Nat.zero_add, List.nil_append] at hown1
    have hb1 : Below w.heap.size w w1 := below_cown ((Below.refl _ _).alloc (Nat.le_refl _) _) (World.ownsRow_lit w #[] 0 (Nat.le_refl _) (by simp [maxLen]) rfl) (by simp) hgrow1
    obtain ⟨a1, c1, hv1, h2, h3, h4⟩ := own_crow hown1 hk
    subst hv1
    go_ret
    exact ⟨a1, c1, rfl, h2, h3, hb1⟩
set_option maxRecDepth 100000 in
theorem cloneS_any (ao : Option Addr) (us : List Value) (c : Nat) (w : World) {ok : Nat → Prop} (hk : ∀ b, w.heap.size ≤ b → ok b) (hrow : CRow w ok ao us) (hok : SliceOk ao us.length c) (h1 : ∀ u ∈ us, u.oneCell' = true) (hn : us.length ≤ 1099511627776) :
    Calls Tryz.prog 75 #[.slice ao us.length c] w fun e w' => ∃ a' c', e = .returned (.slice a' us.length c') ∧ CRow w' ok a' us ∧ SliceOk a' us.length c' ∧ Below w.heap.size w w' := by
  cases ao with
  | none =>
    obtain ⟨h0, rfl⟩ := hok.1 rfl
    have hz : us = [] := List.eq_nil_of_length_eq_zero h0
    subst hz
    clear hrow h1 hn hok
    have q := fun (W : World) (a : Option Addr) (n c n' c' : Nat) => Lib.run_eql_slice_nil (P := Tryz.prog) W 23 9 a n c n' c' Tryz.underlying23
    go_enter Tryz.func75, Tryz.ntmps75
    go_wp2_with fail
    go_ret
    exact ⟨none, 0, rfl, fun hz => absurd rfl hz, ⟨fun _ => ⟨rfl, rfl⟩, Nat.le_refl _, by simp [maxLen]⟩, Below.refl _ _⟩
  | some ad =>
    have hr1 := hrow.alloc (.cells #[] 9)
    have q := fun (W : World) (a : Option Addr) (n c n' c' : Nat) => Lib.run_eql_slice_nil (P := Tryz.prog) W 23 9 a n c n' c' Tryz.underlying23
    go_enter Tryz.func75, Tryz.ntmps75
    go_wp2_with (at_builtin; go_must (refine wpList_append_any rfl (.tmp 5) (.tmp 6) 23 9 _ _ Tryz.underlying23 infoStr rfl (by decide) rfl w.heap.size _ 0 [] rfl (World.ownsRow_lit w #[] 0 (Nat.le_refl _) (by simp [maxLen]) rfl) (some ad) us us.length c rfl rfl hr1 (by intro e; cases e) h1 (by omega) (by simp) ?_; intro v1 w1 hown1 hgrow1))
    simp only [Nat.zero_add, List.nil_append] at hown1
    have hb1 : Below w.heap.size w w1 := below_cown ((Below.refl _ _).alloc (Nat.le_refl _) _) (World.ownsRow_lit w #[] 0 (Nat.le_refl _) (by simp [maxLen]) rfl) (by simp) hgrow1
    obtain ⟨a1, c1, hv1, h2, h3, h4⟩ := own_crow hown1 hk
    subst hv1
    go_ret
    exact ⟨a1, c1, rfl, h2, h3, hb1⟩
end Go.Proofs.YtepohbcpepkboaaGreat

namespace Go.Proofs.YtepohbcpepkboaaGreat
open Go.RowKit Go.Maps

set_option maxRecDepth 100000 in
/-- A result's cell, written, and a new block behind it. -/
theorem res_block {w w1 : World} {T T' : TypeId} {u0 u : Value} {cs : Array Value} (hz : w1.heap[w.heap.size]? = some (.cells #[u0] T (0, 0))) (hb : Below w.heap.size w w1) :
    Below w.heap.size w ((w1.setCell ⟨w.heap.size, 0, none⟩ u).alloc (.cells cs T')) ∧ ((w1.setCell ⟨w.heap.size, 0, none⟩ u).alloc (.cells cs T')).cell? ⟨w.heap.size, 0, none⟩ = some u ∧
    (∀ i, ((w1.setCell ⟨w.heap.size, 0, none⟩ u).alloc (.cells cs T')).cell? ⟨w1.heap.size, i, none⟩ = cs[i]?) ∧ PlainT ((w1.setCell ⟨w.heap.size, 0, none⟩ u).alloc (.cells cs T')) w1.heap.size T' := by
  have hs : (w1.setCell ⟨w.heap.size, 0, none⟩ u).heap.size = w1.heap.size := by simp [World.setCell]
  have h1 : (w1.setCell ⟨w.heap.size, 0, none⟩ u).heap[w.heap.size]? = some (.cells #[u] T (0, 0)) := heap_setCell_same _ _ 0 _ _ _ hz
  have hlt : w.heap.size < w1.heap.size := (Array.getElem?_eq_some_iff.1 hz).1
  refine ⟨(hb.setCell (Nat.le_refl _) _).alloc (by rw [hs]; omega) _, ?_, fun i => ?_, ?_⟩
  · exact cell_of_row _ _ _ _ _ _ ((Below.heap_alloc _ _ w.heap.size (by rw [hs]; exact hlt)).trans h1)
  · have h2 := heap_alloc_new (w1.setCell ⟨w.heap.size, 0, none⟩ u) (.cells cs T')
    rw [hs] at h2
    exact cell_of_row _ _ _ _ _ _ h2
  · have h2 := heap_alloc_new (w1.setCell ⟨w.heap.size, 0, none⟩ u) (.cells cs T')
    rw [hs] at h2
    exact ⟨_, h2⟩
def V.list (l : List V) : V := .mk 6 false 0 0 ByteArray.empty l []
set_option maxRecDepth 100000 in
theorem list_deep (l : List V) : (V.mk 6 false 0 0 ByteArray.empty l []).deep = V.deep.go l + 1 := by simp only [V.deep]
set_option maxRecDepth 100000 in
theorem list_size (l : List V) : (V.mk 6 false 0 0 ByteArray.empty l []).size = 1 + V.size.go l := by simp only [V.size]
set_option maxRecDepth 100000 in
theorem list_known (l : List V) : (V.mk 6 false 0 0 ByteArray.empty l []).known = V.known.go l := by simp [V.known]
set_option maxRecDepth 100000 in
theorem list_right (l : List V) : (V.mk 6 false 0 0 ByteArray.empty l []).right = ((rightL l && decide (V.deep.go l + 1 ≤ 8)) && decide (l.length ≤ 64)) := by rw [right_of]; simp
set_option maxRecDepth 100000 in
set_option maxHeartbeats 1600000 in
theorem listOf_any (ao : Option Addr) (l : List V) (c : Nat) (w : World) {ok : Nat → Prop} (hk : ∀ b, w.heap.size ≤ b → ok b) (hr : RRow w ok ao l) (hok : SliceOk ao l.length c) (hbk : V.bulk.go l ≤ 1048576) :
    Calls Tryz.prog 55 #[.slice ao l.length c] w fun e w' => ∃ h, e = .returned (.agg #[h]) ∧ Rep w' ok h (V.list l) ∧ Below w.heap.size w w' := by
  have C : Hid (∀ W, Below w.heap.size w W → Calls Tryz.prog 89 #[.slice ao l.length c] W fun e w' => e = .returned (measL l) ∧ Below W.heap.size W w') := fun W hW => measAll_any ao l c W (hr.below hW) hbk
  have HL : Hid (measL l = .agg #[.int .i64 ((V.mk 6 false 0 0 ByteArray.empty l []).deep : Nat), .int .i64 ((V.mk 6 false 0 0 ByteArray.empty l []).size : Nat), .bool (V.mk 6 false 0 0 ByteArray.empty l []).known, .bool (V.mk 6 false 0 0 ByteArray.empty l []).right]) := by
    show measL l = _
    rw [measL, list_deep, list_size, list_known, list_right]
  rw [HL.out] at C
  clear HL
  have HR : Hid (∀ (W : World) (B : Nat), Below w.heap.size w W → w.heap.size ≤ B → PlainT W B 98 → W.cell? ⟨B, 0, none⟩ = some (.int .i64 ((V.mk 6 false 0 0 ByteArray.empty l []).deep : Nat)) → W.cell? ⟨B, 1, none⟩ = some (.int .i64 ((V.mk 6 false 0 0 ByteArray.empty l []).size : Nat)) →
      W.cell? ⟨B, 2, none⟩ = some (.bool (V.mk 6 false 0 0 ByteArray.empty l []).known) → W.cell? ⟨B, 3, none⟩ = some (.bool (V.mk 6 false 0 0 ByteArray.empty l []).right) → W.cell? ⟨B, 4, none⟩ = some (.slice ao l.length c) →
      Rep W ok (.iface 94 (.pointer (some ⟨B, 0, none⟩))) (V.list l)) := fun W B hW hB hPB c0 c1 c2 c3 c4 => by
    obtain ⟨H, h1, h2⟩ := hr.below hW
    exact Rep.list B l ao c H ⟨hk B hB, hPB⟩ hok c0 c1 c2 c3 c4 h1 h2
  clear hr hok hbk hk
  generalize (V.mk 6 false 0 0 ByteArray.empty l []).deep = X0 at *
  generalize (V.mk 6 false 0 0 ByteArray.empty l []).size = X1 at *
  generalize (V.mk 6 false 0 0 ByteArray.empty l []).known = X2 at *
  generalize (V.mk 6 false 0 0 ByteArray.empty l []).right = X3 at *
  go_enter Tryz.func55, Tryz.ntmps55
  go_wp2_with fail
  refine (C.out _ ((Below.refl _ _).alloc (Nat.le_refl _) _)).mono ?_
  rintro e w1 ⟨rfl, hb1⟩
  have hz := heap_alloc_new w (.cells #[.nilIface] 34)
  have hz1 := (hb1.block w.heap.size (by simp)).trans hz
  have hlt : w.heap.size < w1.heap.size := (Array.getElem?_eq_some_iff.1 hz1).1
  have z0 := cell_of_row _ _ 0 _ _ _ hz1
  have z1 := frozen_of_row _ _ 0 _ _ hz1
  have hB1 : Below w.heap.size w w1 := ((Below.refl _ _).alloc (Nat.le_refl _) _).trans (hb1.mono (by simp))
  clear hz C hb1
  go_wp2_with fail
  obtain ⟨g1, g2, g3, g4⟩ := res_block (T' := 98) (u := .iface 94 (.pointer (some ⟨w1.heap.size, 0, none⟩))) (cs := #[.int .i64 X0, .int .i64 X1, .bool X2, .bool X3, .slice ao l.length c]) hz1 hB1
  exact bodyPost_ret (v := .agg #[.iface 94 (.pointer (some ⟨w1.heap.size, 0, none⟩))]) (by simp [results, Tryz.results55, go_sem, g2]) rfl ⟨_, rfl, HR.out _ _ g1 hB1.size g4 (g3 0) (g3 1) (g3 2) (g3 3) (g3 4), g1⟩
set_option maxRecDepth 100000 in
/-- A slice of values, copied. -/
theorem RRow.of_crow {w : World} {ok : Nat → Prop} {a : Option Addr} {l : List V} {H : Nat → Value} (hc : CRow w ok a ((List.range l.length).map H)) (hin : ∀ j (hj : j < l.length), Rep w ok (H j) l[j]) : RRow w ok a l := by
  refine ⟨H, fun hn => ?_, hin⟩
  obtain ⟨b, off, rfl, hb, h⟩ := hc (by intro e; have h := congrArg List.length e; simp only [List.length_map, List.length_range, List.length_nil] at h; omega)
  refine ⟨b, off, rfl, hb, fun j hj => h j (H j) ?_⟩
  simp [hj]
set_option maxRecDepth 100000 in
theorem one_map {w : World} {ok : Nat → Prop} {l : List V} {H : Nat → Value} (hin : ∀ j (hj : j < l.length), Rep w ok (H j) l[j]) : ∀ u ∈ (List.range l.length).map H, u.oneCell' = true := by
  intro u hu
  obtain ⟨j, hj, rfl⟩ := List.mem_map.1 hu
  exact (hin j (List.mem_range.1 hj)).one
set_option maxRecDepth 100000 in
set_option maxHeartbeats 1600000 in
theorem cloneVs_any (ao : Option Addr) (l : List V) (c : Nat) (w : World) {ok : Nat → Prop} (hk : ∀ b, w.heap.size ≤ b → ok b) (hr : RRow w ok ao l) (hok : SliceOk ao l.length c) (hn : l.length ≤ 1048576) :
    Calls Tryz.prog 56 #[.slice ao l.length c] w fun e w' => ∃ a' c', e = .returned (.slice a' l.length c') ∧ RRow w' ok a' l ∧ SliceOk a' l.length c' ∧ Below w.heap.size w w' := by
  obtain ⟨H, h1, h2⟩ := hr
  have hlen : ((List.range l.length).map H).length = l.length := by simp
  have C := cloneV_any ao ((List.range l.length).map H) c w hk h1.crow (by rw [hlen]; exact hok) (one_map h2) (by rw [hlen]; omega)
  rw [hlen] at C
  refine C.mono ?_
  rintro e w' ⟨a', c', rfl, hc, hk, hb⟩
  exact ⟨a', c', rfl, RRow.of_crow hc (fun j hj => (h2 j hj).stays hb), hk, hb⟩
set_option maxRecDepth 100000 in
set_option maxHeartbeats 1600000 in
theorem list_any (ao : Option Addr) (l : List V) (c : Nat) (w : World) {ok : Nat → Prop} (hk : ∀ b, w.heap.size ≤ b → ok b) (hr : RRow w ok ao l) (hok : SliceOk ao l.length c) (hbk : V.bulk.go l ≤ 1048576) :
    Calls Tryz.prog 32 #[.slice ao l.length c] w fun e w' => ∃ h, e = .returned (.agg #[h]) ∧ Rep w' ok h (V.list l) ∧ Below w.heap.size w w' := by
  have hn : l.length ≤ 1048576 := Nat.le_trans (len_le_bulkL l) hbk
  go_enter Tryz.func32, Tryz.ntmps32
  go_wp2_with fail
  refine (cloneVs_any ao l c _ (ok := fun b => ok b ∧ b ≠ w.heap.size) (fun b hb => ⟨hk b (by simp at hb; omega), by simp at hb; omega⟩) ((hr.mono (ok' := fun b => ok b ∧ b ≠ w.heap.size) (fun b h1 h2 => ⟨h1, by omega⟩)).below ((Below.refl _ _).alloc (Nat.le_refl _) _)) hok hn).mono ?_
  rintro e w1 ⟨a1, c1, rfl, hr1, hk1, hb1⟩
  have hs1 := hb1.size
  simp only [World.size_alloc] at hs1
  clear hr hok
  go_wp2_with fail
  refine (listOf_any a1 l c1 _ (ok := fun b => ok b ∧ b ≠ w.heap.size) (fun b hb => ⟨hk b (by omega), by omega⟩) hr1 hk1 hbk).mono ?_
  rintro e w2 ⟨h, rfl, hrep, hb2⟩
  have hz := heap_alloc_new w (.cells #[.nilIface] 34)
  have hz2 := (hb2.block w.heap.size (by omega)).trans ((hb1.block w.heap.size (by simp)).trans hz)
  have hB2 : Below w.heap.size w w2 := (((Below.refl _ _).alloc (Nat.le_refl _) _).trans (hb1.mono (by simp))).trans (hb2.mono (by omega))
  have z0 := cell_of_row _ _ 0 _ _ _ hz2
  have z1 := frozen_of_row _ _ 0 _ _ hz2
  have st := store_old h .nilIface hrep.one w2 ⟨w.heap.size, 0, none⟩ z0 z1
  have hfin := (hrep.agree (Agree.setCell (w := w2) (n := w.heap.size) (i := 0) h (fun hh => hh.2 rfl))).mono (ok' := ok) (fun b h1 _ => h1.1)
  have hx : (w2.setCell ⟨w.heap.size, 0, none⟩ h).cell? ⟨w.heap.size, 0, none⟩ = some h := cell_of_row _ _ _ _ _ _ (heap_setCell_same _ _ 0 _ _ h hz2)
  clear hr1 hk1 hb1 hz hrep
  go_wp2_with fail
  exact bodyPost_ret (v := .agg #[h]) (by simp [results, Tryz.results32, go_sem, hx]) rfl ⟨h, rfl, hfin, hB2.setCell (Nat.le_refl _) _⟩
end Go.Proofs.YtepohbcpepkboaaGreat

