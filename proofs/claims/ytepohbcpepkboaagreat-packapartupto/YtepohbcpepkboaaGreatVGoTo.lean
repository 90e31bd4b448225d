/- Where steps lead, one after the other: Go. Conditions: values and steps in memory, at most 1048576 steps. -/
import Derived.Test.YtepohbcpepkboaaGreatVMap
import Derived.BigRegion
import Derived.Defers
import Derived.Recover
namespace Go.Proofs.YtepohbcpepkboaaGreat
open Go.RowKit Go.Maps Go.WideMaps

/-- Where the items of a value lie. -/
def InG (w : World) (ok : Nat → Prop) (p : Option Addr) (v : V) : Prop :=
  (p = none ∧ v.l = []) ∨ ∃ B a c, p = some ⟨B, 0, none⟩ ∧ w.cell? ⟨B, 4, none⟩ = some (.slice a v.l.length c) ∧ SliceOk a v.l.length c ∧ RRow w ok a v.l
set_option maxRecDepth 100000 in
set_option maxHeartbeats 1600000 in
theorem inside_any {w : World} {ok : Nat → Prop} {h : Value} {v : V} (hr : Rep w ok h v) : Calls Tryz.prog 74 #[h] w fun e w' => ∃ p ka kc, e = .returned (.tuple #[.pointer p, .slice ka v.keys.length kc]) ∧ InG w ok p v ∧ SRow w ok ka v.keys ∧ SliceOk ka v.keys.length kc ∧ Below w.heap.size w w' := by
  have hso : SliceOk none 0 0 := ⟨fun _ => ⟨rfl, rfl⟩, Nat.le_refl _, by simp [maxLen]⟩
  have aG := as_group
  have aT := as_table
  have nG := an_group
  have nT := an_table
  induction hr using Rep.ind
  case list B l a c H hB ha c0 c1 c2 c3 c4 hrow hin _ =>
    have F : Hid (InG w ok (some ⟨B, 0, none⟩) (.mk 6 false 0 0 ByteArray.empty l [])) := Or.inr ⟨B, a, c, rfl, c4, ha, H, hrow, hin⟩
    clear hrow hin
    go_enter Tryz.func74, Tryz.ntmps74
    go_wp2_with fail
    go_ret2
    exact ⟨some ⟨B, 0, none⟩, none, 0, rfl, F.out, SRow.nil _ _ _, hso, Below.refl _ _⟩
  case map B M l q a c ka kc H hB hMo ha hka hq c0 c1 c2 c3 c4 c5 c6 hk hM hrow hin _ =>
    have F : Hid (InG w ok (some ⟨B, 0, none⟩) (.mk 7 false 0 0 ByteArray.empty l q)) := Or.inr ⟨B, a, c, rfl, c4, ha, H, hrow, hin⟩
    have F2 : Hid (SRow w ok ka q) := hk
    have F3 : Hid (SliceOk ka q.length kc) := hka
    clear hrow hin hk hka hM hq
    go_enter Tryz.func74, Tryz.ntmps74
    go_wp2_with fail
    go_region
    go_wp2_with fail
    go_ret2
    exact ⟨some ⟨B, 0, none⟩, ka, kc, rfl, F.out, F2.out, F3.out, by repeat (first | exact Below.refl _ _ | apply Below.drew)⟩
  all_goals
    go_enter Tryz.func74, Tryz.ntmps74
    go_wp2_with fail
    go_ret2
    exact ⟨none, none, 0, rfl, Or.inl ⟨rfl, rfl⟩, SRow.nil _ _ _, hso, Below.refl _ _⟩
set_option maxRecDepth 100000 in
set_option maxHeartbeats 1600000 in
theorem items_any {w : World} {ok : Nat → Prop} {h : Value} {v : V} (hk : ∀ b, w.heap.size ≤ b → ok b) (hr : Rep w ok h v) (hn : v.l.length ≤ 1048576) :
    Calls Tryz.prog 43 #[.agg #[h]] w fun e w' => ∃ a c, e = .returned (.slice a v.l.length c) ∧ RRow w' ok a v.l ∧ SliceOk a v.l.length c ∧ Below w.heap.size w w' := by
  go_enter Tryz.func43, Tryz.ntmps43
  go_wp2_with fail
  refine (inside_any (hr.stays ((Below.refl _ _).alloc (Nat.le_refl _) _))).mono ?_
  rintro e w1 ⟨p, ka, kc, rfl, hg, -, -, hb1⟩
  have hb0 := hb1
  have hs1 := hb1.size
  simp only [World.size_alloc] at hs1
  have hB1 : Below w.heap.size w w1 := ((Below.refl _ _).alloc (Nat.le_refl _) _).trans (hb1.mono (by simp))
  rcases hg with ⟨rfl, hl⟩ | ⟨B, a, c, rfl, c4, ha, hrow⟩
  · clear hr hb1
    go_wp2_with fail
    go_ret
    exact ⟨none, 0, by rw [hl]; rfl, by rw [hl]; exact ⟨fun _ => .nilIface, fun h => by simp at h, fun j hj => by simp at hj⟩, by rw [hl]; exact ⟨fun _ => ⟨rfl, rfl⟩, Nat.le_refl _, by simp [maxLen]⟩, hB1⟩
  · have d4 := (hb1.cell (p := ⟨B, 4, none⟩) (World.block_lt_of_cell? _ ⟨B, 4, none⟩ c4)).trans c4
    have C := cloneVs_any a v.l c w1 (ok := ok) (fun b hb => hk b (by omega)) (hrow.below hb1) ha hn
    clear hr hb1 hrow c4 hb0
    go_wp2_with fail
    refine C.mono ?_
    rintro e w2 ⟨a2, c2, rfl, hr2, hk2, hb2⟩
    go_wp2_with fail
    go_ret
    exact ⟨a2, c2, rfl, hr2, hk2, hB1.trans (hb2.mono (by omega))⟩
set_option maxRecDepth 100000 in
set_option maxHeartbeats 1600000 in
theorem vkeys_any {w : World} {ok : Nat → Prop} {h : Value} {v : V} (hk : ∀ b, w.heap.size ≤ b → ok b) (hr : Rep w ok h v) (hn : v.keys.length ≤ 1048576) :
    Calls Tryz.prog 44 #[.agg #[h]] w fun e w' => ∃ a c, e = .returned (.slice a v.keys.length c) ∧ SRow w' ok a v.keys ∧ SliceOk a v.keys.length c ∧ Below w.heap.size w w' := by
  go_enter Tryz.func44, Tryz.ntmps44
  go_wp2_with fail
  refine (inside_any (hr.stays ((Below.refl _ _).alloc (Nat.le_refl _) _))).mono ?_
  rintro e w1 ⟨p, ka, kc, rfl, -, hs, ho, hb1⟩
  have hs1 := hb1.size
  simp only [World.size_alloc] at hs1
  have hB1 : Below w.heap.size w w1 := ((Below.refl _ _).alloc (Nat.le_refl _) _).trans (hb1.mono (by simp))
  have C := cloneS_any ka (v.keys.map Value.string) kc w1 (ok := ok) (fun b hb => hk b (by omega)) ((hs.below hb1).crow) (by simpa using ho) (by intro u hu; obtain ⟨x, -, rfl⟩ := List.mem_map.1 hu; rfl) (by simp; omega)
  rw [List.length_map] at C
  have hq := hs.1
  clear hr hb1 hs
  go_wp2_with fail
  refine C.mono ?_
  rintro e w2 ⟨a2, c2, rfl, hr2, hk2, hb2⟩
  go_wp2_with fail
  go_ret
  exact ⟨a2, c2, rfl, hr2.srow hq, hk2, hB1.trans (hb2.mono (by omega))⟩
/-- A key's value; of none Null. -/
def V.under (v : V) (key : ByteArray) : V := if posK v.keys key < v.keys.length then v.l[posK v.keys key]?.getD V.null else V.null
def V.hasK (v : V) (key : ByteArray) : Bool := decide (posK v.keys key < v.keys.length)
set_option maxRecDepth 100000 in
theorem hasK_mem (v : V) (key : ByteArray) : v.hasK key = true ↔ key ∈ v.keys := by
  unfold V.hasK
  rw [decide_eq_true_iff]
  refine ⟨fun h => ?_, posK_lt⟩
  have := of_decide_eq_true (List.findIdx_getElem (xs := v.keys) (p := fun x => decide (x = key)) (w := h))
  rw [← this]; exact List.getElem_mem h
set_option maxRecDepth 100000 in
theorem wpList_look2 {H : Type} {P : Program} (w : World) {ops : Array Oper} {rest : List Oper} {o : Oper} {a : Act} {Q : Exit → Act → World → Prop}
    (hg : o.guard = none) (m x : Operand) (t : TypeId) (hop : o.op = Op.lookup t m x true)
    (k e : TypeId) (q : IntKind) (K : Keyed P k) (ht : P.underlying t = some (.map k e)) (he : P.underlying e = some (.int q)) (hz : (zeroValue e).run P w = .ok (.int q 0) w) (b n : Nat) (D : DataW H)
    (hm : a.eval m = .map (some b)) (hown : w.ownsMap P k (plainElem P e) b n D) (key : Value) (kl : Lit) (hx : a.eval x = key) (hkey : keyOf P k key = some kl) (y : Int) (z : Bool) (hat : z = true → D.atKey kl (.lit (.int q 0)) = .lit (.int q y)) (hh : Maps.has D kl = z)
    (hK : ∀ c : Int, (z = true → c = y) → wpList P ops Q rest (a.put o.dst (.tuple #[.int q c, .bool z])) w) : wpList P ops Q (o :: rest) a w := by
  refine wpList_lookup_own_ok_int w hg m x t hop k e q K ht he hz b n D hm hown key kl hx hkey (fun c h _ => ?_)
  rw [hh]
  refine hK c (fun hz => ?_)
  rw [hat hz] at h; injection h with h; injection h with _ h; exact h.symm
set_option maxRecDepth 100000 in
theorem under_no {v : V} {key : ByteArray} (h : v.hasK key = false) : v.under key = V.null := by
  unfold V.under; rw [if_neg]; exact of_decide_eq_false h
set_option maxRecDepth 100000 in
theorem under_yes {v : V} {key : ByteArray} (h : v.hasK key = true) : v.under key = v.l[posK v.keys key]?.getD V.null := by
  unfold V.under; rw [if_pos]; exact of_decide_eq_true h
set_option maxRecDepth 100000 in
set_option maxHeartbeats 1600000 in
theorem underKey_any {w : World} {ok : Nat → Prop} {h : Value} {v : V} (hr : Rep w ok h v) (key : ByteArray) (hkm : key.size ≤ maxLen) :
    Calls Tryz.prog 76 #[h, .string key] w fun e w' => ∃ u, e = .returned (.tuple #[.agg #[u], .bool (v.hasK key)]) ∧ Rep w ok u (v.under key) ∧ Below w.heap.size w w' := by
  have aT := as_table
  have nT := an_table
  induction hr using Rep.ind
  case map B M l q a c ka kc H hB hMo ha hka hq c0 c1 c2 c3 c4 c5 c6 hk hM hrow hin _ =>
    obtain ⟨n, D, hown, hh, hat⟩ := hM
    have hkey : keyOf Tryz.prog 9 (.string key) = some (litS key) := keyOf_string_mk Tryz.underlying9 hkm
    have hhz : Maps.has D (litS key) = (V.mk 7 false 0 0 ByteArray.empty l q).hasK key := by rw [Bool.eq_iff_iff, hasK_mem]; exact hh key
    have hatz : (V.mk 7 false 0 0 ByteArray.empty l q).hasK key = true → D.atKey (litS key) (.lit (.int .i64 0)) = .lit (.int .i64 (posK q key)) := fun hz => by
      have hm := (hasK_mem _ _).1 hz
      have := hat (posK q key) (posK_lt hm)
      rw [posK_at hm] at this
      exact this
    have hlt := World.block_lt_of_cell? _ _ c6
    have d4 := (((Below.refl _ _).alloc (Nat.le_refl _) (.cells #[.nilIface] 34)).cell (p := ⟨B, 4, none⟩) hlt).trans c4
    have d6 := (((Below.refl _ _).alloc (Nat.le_refl _) (.cells #[.nilIface] 34)).cell (p := ⟨B, 6, none⟩) hlt).trans c6
    have hown' := mapOwn_agree hown (Below.heap_alloc w (.cells #[.nilIface] 34) M hown.lt)
    have FU : Hid ((V.mk 7 false 0 0 ByteArray.empty l q).hasK key = true → ∃ b off, a = some ⟨b, off, none⟩ ∧ posK q key < l.length ∧ (w.alloc (.cells #[.nilIface] 34)).cell? ⟨b, off + posK q key, none⟩ = some (H (posK q key)) ∧ Rep w ok (H (posK q key)) ((V.mk 7 false 0 0 ByteArray.empty l q).under key)) := fun hz => by
      have hm := (hasK_mem _ _).1 hz
      have hp : posK q key < l.length := by have := posK_lt hm; simp only at this; omega
      obtain ⟨b, off, rfl, -, hc⟩ := hrow (by omega)
      refine ⟨b, off, rfl, hp, ?_, ?_⟩
      · have := hc _ hp
        exact (((Below.refl _ _).alloc (Nat.le_refl _) (.cells #[.nilIface] 34)).cell (p := ⟨b, off + posK q key, none⟩) (World.block_lt_of_cell? _ _ this)).trans this
      · rw [under_yes hz]
        have := hin (posK q key) hp
        simpa [hp] using this
    have FN : Hid ((V.mk 7 false 0 0 ByteArray.empty l q).hasK key = false → Rep w ok .nilIface ((V.mk 7 false 0 0 ByteArray.empty l q).under key)) := fun hz => by rw [under_no hz]; exact Rep.null
    clear hown hh hat hrow hin hk hq hka ha c0 c1 c2 c3 c4 c5 c6 hkm
    generalize (V.mk 7 false 0 0 ByteArray.empty l q).hasK key = z at *
    generalize (V.mk 7 false 0 0 ByteArray.empty l q).under key = U at *
    cases z
    · have FN' := FN.out rfl
      clear FU FN
      go_enter Tryz.func76, Tryz.ntmps76
      go_wp2_with (at_lookup; refine wpList_look2 _ rfl _ _ 113 rfl 9 3 .i64 keyedS Tryz.underlying113 Tryz.underlying3 (zeroI _) M n _ rfl hown' _ _ rfl hkey (posK q key) false hatz hhz ?_; intro cc hcc)
      exact bodyPost_ret (v := .tuple #[.agg #[.nilIface], .bool false]) (by simp [results, Tryz.results76, go_sem]) rfl ⟨_, rfl, FN', (Below.refl _ _).alloc (Nat.le_refl _) _⟩
    · obtain ⟨b, off, rfl, hp, hc, hrep⟩ := FU.out rfl
      clear FU FN
      have st := store_new 34 (H (posK q key)) .nilIface hrep.one w
      generalize posK q key = ps at *
      generalize H ps = u at *
      have hp' : (ps : Int) < (l.length : Int) := by omega
      have hatz' := hatz rfl
      clear hatz hp
      go_enter Tryz.func76, Tryz.ntmps76
      go_wp2_with (at_lookup; refine wpList_look2 _ rfl _ _ 113 rfl 9 3 .i64 keyedS Tryz.underlying113 Tryz.underlying3 (zeroI _) M n _ rfl hown' _ _ rfl hkey ps true (fun _ => hatz') hhz ?_; intro cc hcc; rw [hcc rfl])
      exact bodyPost_ret (v := .tuple #[.agg #[u], .bool true]) (by simp [results, Tryz.results76, go_sem]) rfl ⟨_, rfl, hrep, (Below.refl _ _).alloc (Nat.le_refl _) _⟩
  all_goals
    go_enter Tryz.func76, Tryz.ntmps76
    go_wp2_with fail
    exact bodyPost_ret (v := .tuple #[.agg #[.nilIface], .bool false]) (by simp [results, Tryz.results76, go_sem]) rfl ⟨_, rfl, Rep.null, (Below.refl _ _).alloc (Nat.le_refl _) _⟩
set_option maxRecDepth 100000 in
set_option maxHeartbeats 1600000 in
theorem at_any {w : World} {ok : Nat → Prop} {h : Value} {v : V} (hr : Rep w ok h v) (key : ByteArray) (hkm : key.size ≤ maxLen) :
    Calls Tryz.prog 45 #[.agg #[h], .string key] w fun e w' => ∃ u, e = .returned (.tuple #[.agg #[u], .bool (v.hasK key)]) ∧ Rep w ok u (v.under key) ∧ Below w.heap.size w w' := by
  have hr2 := hr.mono (ok' := fun b => ok b ∧ b < w.heap.size) (fun b h1 h2 => ⟨h1, h2⟩)
  have hone := hr.one
  have C : Hid (∀ W, Below w.heap.size w W → Calls Tryz.prog 76 #[h, .string key] W fun e w' => ∃ u, e = .returned (.tuple #[.agg #[u], .bool (v.hasK key)]) ∧ u.oneCell' = true ∧ Rep W (fun b => ok b ∧ b < w.heap.size) u (v.under key) ∧ Below W.heap.size W w') := fun W hW => by
    refine (underKey_any (hr2.stays hW) key hkm).mono ?_
    rintro e w' ⟨u, rfl, h1, h2⟩
    exact ⟨u, rfl, h1.one, h1, h2⟩
  clear hr hr2
  go_enter Tryz.func45, Tryz.ntmps45
  go_wp2_with fail
  refine (C.out _ (by exact ((Below.refl _ _).alloc (Nat.le_refl _) _).alloc (by simp) _)).mono ?_
  rintro e w1 ⟨u, rfl, hu, hrep, hb1⟩
  have hz := heap_alloc_new (w.alloc (.cells #[h] 34)) (.cells #[.nilIface] 34)
  simp only [World.size_alloc] at hz
  have hz1 := (hb1.block (w.heap.size + 1) (by simp)).trans hz
  have z0 := cell_of_row _ _ 0 _ _ _ hz1
  have z1 := frozen_of_row _ _ 0 _ _ hz1
  have st := store_old u .nilIface hu w1 ⟨w.heap.size + 1, 0, none⟩ z0 z1
  have hB1 : Below w.heap.size w w1 := (((Below.refl _ _).alloc (Nat.le_refl _) _).alloc (by simp) _).trans (hb1.mono (by simp; omega))
  have hfin : Rep w ok u (v.under key) := by
    refine (hrep.agree (w' := w) ?_).mono (fun b h1 _ => h1.1)
    intro b hb _
    exact ((((Below.refl _ w).alloc (Nat.le_refl _) _).alloc (by simp) _).block b hb.2).symm
  have hx : (w1.setCell ⟨w.heap.size + 1, 0, none⟩ u).cell? ⟨w.heap.size + 1, 0, none⟩ = some u := cell_of_row _ _ _ _ _ _ (heap_setCell_same _ _ 0 _ _ u hz1)
  clear C hrep hz hz1 hb1
  go_wp2_with fail
  exact bodyPost_ret (v := .tuple #[.agg #[u], .bool (v.hasK key)]) (by simp [results, Tryz.results45, go_sem, hx]) rfl ⟨u, rfl, hfin, hB1.setCell (by simp) _⟩
set_option maxRecDepth 100000 in
theorem fld0 (a b c d : Value) (w : World) : (Instr.field 88 (.agg #[a, b, c, d]) 0).run Tryz.prog w = .ok a w := by kernel_rfl
set_option maxRecDepth 100000 in
theorem fld1 (a b c d : Value) (w : World) : (Instr.field 88 (.agg #[a, b, c, d]) 1).run Tryz.prog w = .ok b w := by kernel_rfl
set_option maxRecDepth 100000 in
theorem fld2 (a b c d : Value) (w : World) : (Instr.field 88 (.agg #[a, b, c, d]) 2).run Tryz.prog w = .ok c w := by kernel_rfl
set_option maxRecDepth 100000 in
theorem fld3 (a b c d : Value) (w : World) : (Instr.field 88 (.agg #[a, b, c, d]) 3).run Tryz.prog w = .ok d w := by kernel_rfl
set_option maxRecDepth 100000 in
theorem meas_cells {w w' : World} {ok : Nat → Prop} {h : Value} {v : V} (hr : Rep w ok h v) (hb : Below w.heap.size w w') : Calls Tryz.prog 47 #[h] w' fun e w2 => e = .returned (.agg #[.int .i64 (v.deep : Nat), .int .i64 (v.size : Nat), .bool v.known, .bool v.right]) ∧ Below w'.heap.size w' w2 := measOf_any hr w' hb
set_option maxRecDepth 100000 in
set_option maxHeartbeats 800000 in
theorem gsize_any {w : World} {ok : Nat → Prop} {h : Value} {v : V} (hr : Rep w ok h v) : Calls Tryz.prog 50 #[.agg #[h]] w fun e w' => e = .returned (.int .i64 (v.size : Nat)) ∧ Below w.heap.size w w' := by
  have f0 := fld0
  have f1 := fld1
  have f2 := fld2
  have f3 := fld3
  have C := meas_cells hr ((Below.refl _ w).alloc (Nat.le_refl _) (.cells #[h] 34))
  clear hr
  go_enter Tryz.func50, Tryz.ntmps50
  go_wp2_with fail
  refine C.mono ?_
  rintro e w1 ⟨rfl, hb1⟩
  go_wp2_with fail
  go_ret
  exact ⟨rfl, ((Below.refl _ _).alloc (Nat.le_refl _) _).trans (hb1.mono (by simp))⟩
set_option maxRecDepth 100000 in
set_option maxHeartbeats 800000 in
theorem gright_any {w : World} {ok : Nat → Prop} {h : Value} {v : V} (hr : Rep w ok h v) : Calls Tryz.prog 17 #[.agg #[h]] w fun e w' => e = .returned (.bool v.right) ∧ Below w.heap.size w w' := by
  have f0 := fld0
  have f1 := fld1
  have f2 := fld2
  have f3 := fld3
  have C := meas_cells hr ((Below.refl _ w).alloc (Nat.le_refl _) (.cells #[h] 34))
  clear hr
  go_enter Tryz.func17, Tryz.ntmps17
  go_wp2_with fail
  refine C.mono ?_
  rintro e w1 ⟨rfl, hb1⟩
  go_wp2_with fail
  go_ret
  exact ⟨rfl, ((Below.refl _ _).alloc (Nat.le_refl _) _).trans (hb1.mono (by simp))⟩
end Go.Proofs.YtepohbcpepkboaaGreat

namespace Go.Proofs.YtepohbcpepkboaaGreat
open Go.RowKit Go.Maps Go.WideMaps

set_option maxRecDepth 100000 in
theorem assert_fails (A : TypeId) (d : TypeDesc) (hu : Tryz.prog.underlying A = some d) (hd : ∀ m, d ≠ .interface m) (x t : TypeId) (v : Value) (hne : t ≠ A) (w : World) :
    ∃ u cs E, (Instr.typeAssert (.iface t v) x A false).run Tryz.prog w = .halt (.panic (.iface u (.pointer (some ⟨w.heap.size, 0, none⟩)))) (w.alloc (.cells cs E)) := by
  unfold Instr.typeAssert
  cases d <;> first | (exact absurd rfl (hd _)) | (simp [hne, run_underlying hu, runtimePanic, elemOf, newVar, newRow]; exact ⟨_, _, rfl⟩)
set_option maxRecDepth 100000 in
theorem assert_fails_nil (A : TypeId) (d : TypeDesc) (hu : Tryz.prog.underlying A = some d) (hd : ∀ m, d ≠ .interface m) (x : TypeId) (w : World) :
    ∃ u cs E, (Instr.typeAssert .nilIface x A false).run Tryz.prog w = .halt (.panic (.iface u (.pointer (some ⟨w.heap.size, 0, none⟩)))) (w.alloc (.cells cs E)) := by
  unfold Instr.typeAssert
  cases d <;> first | (exact absurd rfl (hd _)) | (simp [run_underlying hu, runtimePanic, elemOf, newVar, newRow]; exact ⟨_, _, rfl⟩)
set_option maxRecDepth 100000 in
theorem assert_holds (A : TypeId) (d : TypeDesc) (hu : Tryz.prog.underlying A = some d) (hd : ∀ m, d ≠ .interface m) (x : TypeId) (v : Value) (w : World) :
    (Instr.typeAssert (.iface A v) x A false).run Tryz.prog w = .ok v w := by
  unfold Instr.typeAssert
  cases d <;> first | (exact absurd rfl (hd _)) | (simp [run_underlying hu])
set_option maxRecDepth 100000 in
theorem mmap_world (w : World) (cs : Array Value) (E : TypeId) : Below w.heap.size w (((((w.alloc (.cells #[.pointer none] 141)).alloc (.cells #[.int .i64 0] 30)).alloc (.cells cs E)).setCell ⟨w.heap.size, 0, none⟩ (.pointer none)).setCell ⟨w.heap.size + 1, 0, none⟩ (.int .i64 6)) ∧
    (((w.alloc (.cells #[.pointer none] 141)).alloc (.cells #[.int .i64 0] 30)).alloc (.cells cs E)).heap[w.heap.size]? = some (.cells #[.pointer none] 141 (0, 0)) ∧
    (((w.alloc (.cells #[.pointer none] 141)).alloc (.cells #[.int .i64 0] 30)).alloc (.cells cs E)).heap[w.heap.size + 1]? = some (.cells #[.int .i64 0] 30 (0, 0)) := by
  refine ⟨?_, ?_, ?_⟩
  · exact ((((((Below.refl _ _).alloc (Nat.le_refl _) _).alloc (by simp) _).alloc (by simp; omega) _).setCell (by simp) _).setCell (by simp) _)
  · rw [Below.heap_alloc _ _ _ (by simp; omega), Below.heap_alloc _ _ _ (by simp)]; exact heap_alloc_new _ _
  · rw [Below.heap_alloc _ _ _ (by simp)]
    have := heap_alloc_new (w.alloc (.cells #[.pointer none] 141)) (.cells #[.int .i64 0] 30)
    simpa using this
set_option maxRecDepth 100000 in
theorem mlist_world (w : World) (cs : Array Value) (E : TypeId) : Below w.heap.size w (((((w.alloc (.cells #[.pointer none] 94)).alloc (.cells #[.int .i64 0] 30)).alloc (.cells cs E)).setCell ⟨w.heap.size, 0, none⟩ (.pointer none)).setCell ⟨w.heap.size + 1, 0, none⟩ (.int .i64 6)) ∧
    (((w.alloc (.cells #[.pointer none] 94)).alloc (.cells #[.int .i64 0] 30)).alloc (.cells cs E)).heap[w.heap.size]? = some (.cells #[.pointer none] 94 (0, 0)) ∧
    (((w.alloc (.cells #[.pointer none] 94)).alloc (.cells #[.int .i64 0] 30)).alloc (.cells cs E)).heap[w.heap.size + 1]? = some (.cells #[.int .i64 0] 30 (0, 0)) := by
  refine ⟨?_, ?_, ?_⟩
  · exact ((((((Below.refl _ _).alloc (Nat.le_refl _) _).alloc (by simp) _).alloc (by simp; omega) _).setCell (by simp) _).setCell (by simp) _)
  · rw [Below.heap_alloc _ _ _ (by simp; omega), Below.heap_alloc _ _ _ (by simp)]; exact heap_alloc_new _ _
  · rw [Below.heap_alloc _ _ _ (by simp)]
    have := heap_alloc_new (w.alloc (.cells #[.pointer none] 94)) (.cells #[.int .i64 0] 30)
    simpa using this
end Go.Proofs.YtepohbcpepkboaaGreat

namespace Go.Proofs.YtepohbcpepkboaaGreat
open Go.RowKit Go.Maps Go.WideMaps

/-- A step. -/
structure St where
  key : ByteArray
  at_ : Int
def St.val (s : St) : Value := .agg #[.string s.key, .int .i64 s.at_]
def St.ok (s : St) : Prop := s.key.size ≤ maxLen ∧ I64 s.at_
def St.byKey (s : St) : Bool := !s.key.toList.isEmpty || decide (s.at_ < 0)
def V.item (v : V) (i : Int) : V := v.l[i.toNat]?.getD V.null
/-- Where a step leads; the error's number. -/
def V.follow (v : V) (s : St) : V × Int :=
  if s.byKey = true then (if v.k = 7 then (if v.hasK s.key = true then (v.under s.key, 0) else (V.null, 8)) else (V.null, 6))
  else if v.k = 6 then (if s.at_ < v.l.length then (v.item s.at_, 0) else (V.null, 2)) else (V.null, 6)
set_option maxRecDepth 100000 in
/-- Where one step leads. -/
theorem follow_k7 (l : List V) (q : List ByteArray) (s : St) (hb : s.byKey = true) : (V.mk 7 false 0 0 ByteArray.empty l q).follow s = ((V.mk 7 false 0 0 ByteArray.empty l q).under s.key, if (V.mk 7 false 0 0 ByteArray.empty l q).hasK s.key = true then 0 else 8) := by
  unfold V.follow
  rw [if_pos hb]
  by_cases h : (V.mk 7 false 0 0 ByteArray.empty l q).hasK s.key = true
  · simp [h]
  · simp [h, under_no (by simpa using h)]
set_option maxRecDepth 100000 in
theorem follow_k6 (l : List V) (s : St) (hb : s.byKey = false) : (V.mk 6 false 0 0 ByteArray.empty l []).follow s = (if s.at_ < l.length then (V.mk 6 false 0 0 ByteArray.empty l []).item s.at_ else V.null, if s.at_ < l.length then 0 else 2) := by
  unfold V.follow
  rw [hb]
  by_cases h : s.at_ < l.length <;> simp [h]
set_option maxRecDepth 100000 in
theorem follow_no (v : V) (s : St) (h : (s.byKey = true → v.k ≠ 7) ∧ (s.byKey = false → v.k ≠ 6)) : v.follow s = (V.null, 6) := by
  unfold V.follow
  cases hb : s.byKey
  · simp [h.2 hb]
  · simp [h.1 hb]
set_option maxRecDepth 100000 in
theorem byKey_at {s : St} (h : s.byKey = false) : 0 ≤ s.at_ := by
  unfold St.byKey at h
  simp at h; omega
end Go.Proofs.YtepohbcpepkboaaGreat

namespace Go.Proofs.YtepohbcpepkboaaGreat
open Go.RowKit Go.Maps Go.WideMaps

set_option maxRecDepth 100000 in
theorem Rep.back {w W : World} {ok : Nat → Prop} {u : Value} {x : V} (hx : Rep W (fun b => ok b ∧ b < w.heap.size) u x) (h : Below w.heap.size w W) : Rep w (fun b => ok b ∧ b < w.heap.size) u x := hx.agree (fun b hb _ => (h.block b hb.2).symm)
set_option maxRecDepth 100000 in
theorem Rep.low {w : World} {ok : Nat → Prop} {u : Value} {x : V} (hx : Rep w ok u x) : Rep w (fun b => ok b ∧ b < w.heap.size) u x := hx.mono (fun _ h1 h2 => ⟨h1, h2⟩)
set_option maxRecDepth 100000 in
theorem Rep.high {w : World} {ok : Nat → Prop} {u : Value} {x : V} (hx : Rep w (fun b => ok b ∧ b < w.heap.size) u x) : Rep w ok u x := hx.mono (fun _ h1 _ => h1.1)
/-- Steps in memory. -/
def StRow (w : World) (a : Option Addr) (l : List St) : Prop := (∀ s ∈ l, s.ok) ∧ (l ≠ [] → ∃ b off, a = some ⟨b, off, none⟩ ∧ ∀ j (hj : j < l.length), w.cell? ⟨b, off + j * 2, none⟩ = some (.string l[j].key) ∧ w.cell? ⟨b, off + j * 2 + 1, none⟩ = some (.int .i64 l[j].at_))
/-- Where steps lead; the error's number. -/
def V.goTo (v : V) : List St → V × Int
  | [] => (v, 0)
  | s :: r => if (v.follow s).2 = 0 then (v.follow s).1.goTo r else (V.null, (v.follow s).2)
set_option maxRecDepth 100000 in
theorem follow_err {v : V} {s : St} (h : (v.follow s).2 ≠ 0) : (v.follow s).1 = V.null := by
  unfold V.follow at *
  split at h <;> rename_i h1
  · rw [if_pos h1]
    split at h <;> rename_i h2
    · rw [if_pos h2]
      split at h <;> rename_i h3
      · exact absurd rfl h
      · rw [if_neg h3]
    · rw [if_neg h2]
  · rw [if_neg h1]
    split at h <;> rename_i h2
    · rw [if_pos h2]
      split at h <;> rename_i h3
      · exact absurd rfl h
      · rw [if_neg h3]
    · rw [if_neg h2]
end Go.Proofs.YtepohbcpepkboaaGreat

