/- Where steps lead, in a value. Conditions: values and steps in memory. -/
import Derived.Test.YtigdcnoggjcddaaVMust
namespace Go.Proofs.Ytigdcnoggjcddaa
open Go.RowKit Go.Maps Go.WideMaps

/-- A step. -/
structure St where
  key : ByteArray
  at_ : Int
def St.val (s : St) : Value := .agg #[.string s.key, .int .i64 s.at_]
def St.ok (s : St) : Prop := s.key.size ≤ maxLen ∧ I64 s.at_
def St.byKey (s : St) : Bool := !s.key.toList.isEmpty || decide (s.at_ < 0)
def V.item (v : V) (i : Int) : V := v.l[i.toNat]?.getD V.null
/-- Where a step leads; the error's number. -/
def V.follow (v : V) (s : St) : V × Int :=
  if s.byKey = true then (if v.k = 7 then (if v.hasK s.key = true then (v.under s.key, 0) else (V.null, 8)) else (V.null, 6))
  else if v.k = 6 then (if s.at_ < v.l.length then (v.item s.at_, 0) else (V.null, 2)) else (V.null, 6)
set_option maxRecDepth 100000 in
theorem byKey_any (s : St) (w : World) : Calls Try.prog 73 #[s.val] w fun e w' => e = .returned (.bool s.byKey) ∧ Below w.heap.size w w' := by
  obtain ⟨key, i⟩ := s
  unfold St.val
  dsimp only
  cases h : key.toList.isEmpty
  · have E : Hid (true = St.byKey ⟨key, i⟩) := by show _ = _; simp [St.byKey, h]
    go_enter Try.func73, Try.ntmps73
    go_wp2_with fail
    go_ret
    exact ⟨ret_bool E.out, (Below.refl _ _).alloc (Nat.le_refl _) _⟩
  · have E : Hid (decide (i < 0) = St.byKey ⟨key, i⟩) := by show _ = _; simp [St.byKey, h]
    go_enter Try.func73, Try.ntmps73
    go_wp2_with fail
    go_ret
    exact ⟨ret_bool E.out, (Below.refl _ _).alloc (Nat.le_refl _) _⟩
set_option maxRecDepth 100000 in
set_option maxHeartbeats 1600000 in
theorem under_any {w : World} {ok : Nat → Prop} (B M : Nat) (l : List V) (q : List ByteArray) (a : Option Addr) (c : Nat) (H : Nat → Value) (hq : q.length = l.length) (c4 : w.cell? ⟨B, 4, none⟩ = some (.slice a l.length c)) (c6 : w.cell? ⟨B, 6, none⟩ = some (.map (some M))) (hM : Places w M q) (hrow : HRow w ok a l.length H) (hin : ∀ j (hj : j < l.length), Rep w ok (H j) l[j])
    (key : ByteArray) (hkm : key.size ≤ maxLen) : Calls Try.prog 75 #[.pointer (some ⟨B, 0, none⟩), .string key] w fun e w' => ∃ u, e = .returned (.tuple #[.agg #[u], .int .i64 (if (V.mk 7 false 0 0 ByteArray.empty l q).hasK key = true then 0 else 8)]) ∧ Rep w ok u ((V.mk 7 false 0 0 ByteArray.empty l q).under key) ∧ Below w.heap.size w w' := by
  obtain ⟨n, D, hown, hh, hat⟩ := hM
  have hkey : keyOf Try.prog 9 (.string key) = some (litS key) := keyOf_string_mk Try.underlying9 hkm
  have hhz : Maps.has D (litS key) = (V.mk 7 false 0 0 ByteArray.empty l q).hasK key := by rw [Bool.eq_iff_iff, hasK_mem]; exact hh key
  have hatz : (V.mk 7 false 0 0 ByteArray.empty l q).hasK key = true → D.atKey (litS key) (.lit (.int .i64 0)) = .lit (.int .i64 (posK q key)) := fun hz => by
    have hm := (hasK_mem _ _).1 hz
    have := hat (posK q key) (posK_lt hm)
    rw [posK_at hm] at this
    exact this
  have hlt := World.block_lt_of_cell? _ _ c6
  have d4 := (((Below.refl _ _).alloc (Nat.le_refl _) (.cells #[.nilIface] 30)).cell (p := ⟨B, 4, none⟩) hlt).trans c4
  have d6 := (((Below.refl _ _).alloc (Nat.le_refl _) (.cells #[.nilIface] 30)).cell (p := ⟨B, 6, none⟩) hlt).trans c6
  have hown' := mapOwn_agree hown (Below.heap_alloc w (.cells #[.nilIface] 30) M hown.lt)
  have FU : Hid ((V.mk 7 false 0 0 ByteArray.empty l q).hasK key = true → ∃ b off, a = some ⟨b, off, none⟩ ∧ posK q key < l.length ∧ (w.alloc (.cells #[.nilIface] 30)).cell? ⟨b, off + posK q key, none⟩ = some (H (posK q key)) ∧ Rep w ok (H (posK q key)) ((V.mk 7 false 0 0 ByteArray.empty l q).under key)) := fun hz => by
    have hm := (hasK_mem _ _).1 hz
    have hp : posK q key < l.length := by have := posK_lt hm; simp only at this; omega
    obtain ⟨b, off, rfl, -, hc⟩ := hrow (by omega)
    refine ⟨b, off, rfl, hp, ?_, ?_⟩
    · have := hc _ hp
      exact (((Below.refl _ _).alloc (Nat.le_refl _) (.cells #[.nilIface] 30)).cell (p := ⟨b, off + posK q key, none⟩) (World.block_lt_of_cell? _ _ this)).trans this
    · rw [under_yes hz]
      have := hin (posK q key) hp
      simpa [hp] using this
  have FN : Hid ((V.mk 7 false 0 0 ByteArray.empty l q).hasK key = false → Rep w ok .nilIface ((V.mk 7 false 0 0 ByteArray.empty l q).under key)) := fun hz => by rw [under_no hz]; exact Rep.null
  clear hown hh hat hrow hin hq c4 c6 hkm
  generalize (V.mk 7 false 0 0 ByteArray.empty l q).hasK key = z at *
  generalize (V.mk 7 false 0 0 ByteArray.empty l q).under key = U at *
  cases z
  · have FN' := FN.out rfl
    clear FU FN
    go_enter Try.func75, Try.ntmps75
    go_wp2_with (at_lookup; refine wpList_look2 _ rfl _ _ 98 rfl 9 3 .i64 keyedS Try.underlying98 Try.underlying3 (zeroI _) M n _ rfl hown' _ _ rfl hkey (posK q key) false hatz hhz ?_; intro cc hcc)
    exact bodyPost_ret (v := .tuple #[.agg #[.nilIface], .int .i64 8]) (by simp [results, Try.results75, go_sem]) rfl ⟨_, rfl, FN', (Below.refl _ _).alloc (Nat.le_refl _) _⟩
  · obtain ⟨b, off, rfl, hp, hc, hrep⟩ := FU.out rfl
    clear FU FN
    have st := store_new 30 (H (posK q key)) .nilIface hrep.one w
    generalize posK q key = ps at *
    generalize H ps = u at *
    have hp' : (ps : Int) < (l.length : Int) := by omega
    have hatz' := hatz rfl
    clear hatz hp
    go_enter Try.func75, Try.ntmps75
    go_wp2_with (at_lookup; refine wpList_look2 _ rfl _ _ 98 rfl 9 3 .i64 keyedS Try.underlying98 Try.underlying3 (zeroI _) M n _ rfl hown' _ _ rfl hkey ps true (fun _ => hatz') hhz ?_; intro cc hcc; rw [hcc rfl])
    exact bodyPost_ret (v := .tuple #[.agg #[u], .int .i64 0]) (by simp [results, Try.results75, go_sem]) rfl ⟨_, rfl, hrep, (Below.refl _ _).alloc (Nat.le_refl _) _⟩
set_option maxRecDepth 100000 in
set_option maxHeartbeats 1600000 in
theorem item_any {w : World} {ok : Nat → Prop} (B : Nat) (l : List V) (a : Option Addr) (c : Nat) (H : Nat → Value) (c4 : w.cell? ⟨B, 4, none⟩ = some (.slice a l.length c)) (hrow : HRow w ok a l.length H) (hin : ∀ j (hj : j < l.length), Rep w ok (H j) l[j])
    (i : Int) (hi : 0 ≤ i) : Calls Try.prog 77 #[.pointer (some ⟨B, 0, none⟩), .int .i64 i] w fun e w' => ∃ u, e = .returned (.tuple #[.agg #[u], .int .i64 (if i < l.length then 0 else 2)]) ∧ Rep w ok u (if i < l.length then (V.mk 6 false 0 0 ByteArray.empty l []).item i else V.null) ∧ Below w.heap.size w w' := by
  have hlt := World.block_lt_of_cell? _ _ c4
  have d4 := (((Below.refl _ _).alloc (Nat.le_refl _) (.cells #[.nilIface] 30)).cell (p := ⟨B, 4, none⟩) hlt).trans c4
  by_cases h : i < l.length
  · obtain ⟨k, rfl⟩ : ∃ k : Nat, i = k := ⟨i.toNat, by omega⟩
    have hk : k < l.length := by omega
    obtain ⟨b, off, rfl, -, hc⟩ := hrow (by omega)
    have e1 := (((Below.refl _ _).alloc (Nat.le_refl _) (.cells #[.nilIface] 30)).cell (p := ⟨b, off + k, none⟩) (World.block_lt_of_cell? _ _ (hc k hk))).trans (hc k hk)
    have hrep : Rep w ok (H k) ((V.mk 6 false 0 0 ByteArray.empty l []).item k) := by simpa [V.item, hk] using hin k hk
    have st := store_new 30 (H k) .nilIface hrep.one w
    rw [if_pos h, if_pos h]
    clear hc hrow hin c4
    generalize H k = u at *
    go_enter Try.func77, Try.ntmps77
    go_wp2_with fail
    exact bodyPost_ret (v := .tuple #[.agg #[u], .int .i64 0]) (by simp [results, Try.results77, go_sem]) rfl ⟨_, rfl, hrep, (Below.refl _ _).alloc (Nat.le_refl _) _⟩
  · rw [if_neg h, if_neg h]
    clear hrow hin c4
    go_enter Try.func77, Try.ntmps77
    go_wp2_with fail
    exact bodyPost_ret (v := .tuple #[.agg #[.nilIface], .int .i64 2]) (by simp [results, Try.results77, go_sem]) rfl ⟨_, rfl, Rep.null, (Below.refl _ _).alloc (Nat.le_refl _) _⟩
set_option maxRecDepth 100000 in
/-- Where one step leads. -/
theorem follow_k7 (l : List V) (q : List ByteArray) (s : St) (hb : s.byKey = true) : (V.mk 7 false 0 0 ByteArray.empty l q).follow s = ((V.mk 7 false 0 0 ByteArray.empty l q).under s.key, if (V.mk 7 false 0 0 ByteArray.empty l q).hasK s.key = true then 0 else 8) := by
  unfold V.follow
  rw [if_pos hb]
  by_cases h : (V.mk 7 false 0 0 ByteArray.empty l q).hasK s.key = true
  · simp [h]
  · simp [h, under_no (by simpa using h)]
set_option maxRecDepth 100000 in
theorem follow_k6 (l : List V) (s : St) (hb : s.byKey = false) : (V.mk 6 false 0 0 ByteArray.empty l []).follow s = (if s.at_ < l.length then (V.mk 6 false 0 0 ByteArray.empty l []).item s.at_ else V.null, if s.at_ < l.length then 0 else 2) := by
  unfold V.follow
  rw [hb]
  by_cases h : s.at_ < l.length <;> simp [h]
set_option maxRecDepth 100000 in
theorem follow_no (v : V) (s : St) (h : (s.byKey = true → v.k ≠ 7) ∧ (s.byKey = false → v.k ≠ 6)) : v.follow s = (V.null, 6) := by
  unfold V.follow
  cases hb : s.byKey
  · simp [h.2 hb]
  · simp [h.1 hb]
set_option maxRecDepth 100000 in
theorem byKey_at {s : St} (h : s.byKey = false) : 0 ≤ s.at_ := by
  unfold St.byKey at h
  simp at h; omega
/-- The blocks of follow's own: the value, the step, the answer. -/
def B3 (w W : World) (h : Value) (key : ByteArray) (i : Int) : Prop :=
  W.heap[w.heap.size]? = some (.cells #[h] 30 (0, 0)) ∧ W.heap[w.heap.size + 1]? = some (.cells #[.string key, .int .i64 i] 42 (0, 0)) ∧ W.heap[w.heap.size + 2]? = some (.cells #[.nilIface] 30 (0, 0)) ∧ Below w.heap.size w W
set_option maxRecDepth 100000 in
theorem B3.start (w : World) (h : Value) (key : ByteArray) (i : Int) : B3 w (((w.alloc (.cells #[h] 30)).alloc (.cells #[.string key, .int .i64 i] 42)).alloc (.cells #[.nilIface] 30)) h key i := by
  refine ⟨?_, ?_, ?_, (((Below.refl _ _).alloc (Nat.le_refl _) _).alloc (by simp) _).alloc (by simp; omega) _⟩
  · rw [Below.heap_alloc _ _ _ (by simp; omega), Below.heap_alloc _ _ _ (by simp)]; exact heap_alloc_new _ _
  · rw [Below.heap_alloc _ _ _ (by simp)]
    simpa using heap_alloc_new (w.alloc (.cells #[h] 30)) (.cells #[.string key, .int .i64 i] 42)
  · simpa using heap_alloc_new ((w.alloc (.cells #[h] 30)).alloc (.cells #[.string key, .int .i64 i] 42)) (.cells #[.nilIface] 30)
set_option maxRecDepth 100000 in
theorem B3.below {w W W' : World} {h : Value} {key : ByteArray} {i : Int} (hB : B3 w W h key i) (hb : Below W.heap.size W W') : B3 w W' h key i := by
  obtain ⟨a, b, c, d⟩ := hB
  have l1 := (Array.getElem?_eq_some_iff.1 a).1
  have l2 := (Array.getElem?_eq_some_iff.1 b).1
  have l3 := (Array.getElem?_eq_some_iff.1 c).1
  exact ⟨(hb.block _ l1).trans a, (hb.block _ l2).trans b, (hb.block _ l3).trans c, d.trans (hb.mono (Nat.le_of_lt l1))⟩
set_option maxRecDepth 100000 in
theorem B3.cells {w W : World} {h : Value} {key : ByteArray} {i : Int} (hB : B3 w W h key i) : W.cell? ⟨w.heap.size, 0, none⟩ = some h ∧ W.cell? ⟨w.heap.size + 1, 0, none⟩ = some (.string key) ∧ W.cell? ⟨w.heap.size + 1, 1, none⟩ = some (.int .i64 i) ∧ W.cell? ⟨w.heap.size + 2, 0, none⟩ = some .nilIface ∧ W.frozen? ⟨w.heap.size + 2, 0, none⟩ = false := by
  obtain ⟨a, b, c, d⟩ := hB
  exact ⟨cell_of_row _ _ _ _ _ _ a, cell_of_row _ _ _ _ _ _ b, cell_of_row _ _ _ _ _ _ b, cell_of_row _ _ _ _ _ _ c, frozen_of_row _ _ _ _ _ c⟩
set_option maxRecDepth 100000 in
theorem B3.done {w W : World} {h : Value} {key : ByteArray} {i : Int} (hB : B3 w W h key i) (u : Value) : (W.setCell ⟨w.heap.size + 2, 0, none⟩ u).cell? ⟨w.heap.size + 2, 0, none⟩ = some u ∧ Below w.heap.size w (W.setCell ⟨w.heap.size + 2, 0, none⟩ u) := by
  obtain ⟨a, b, c, d⟩ := hB
  exact ⟨cell_of_row _ _ _ _ _ _ (heap_setCell_same _ _ 0 _ _ u c), d.setCell (by simp) _⟩
set_option maxRecDepth 100000 in
set_option maxHeartbeats 3200000 in
theorem follow_any {w : World} {ok : Nat → Prop} {h : Value} {v : V} (hr : Rep w ok h v) (s : St) (hs : s.ok) :
    Calls Try.prog 49 #[.agg #[h], s.val] w fun e w' => ∃ u, e = .returned (.tuple #[.agg #[u], .int .i64 (v.follow s).2]) ∧ Rep w ok u (v.follow s).1 ∧ Below w.heap.size w w' := by
  have CB : Hid (∀ W, Calls Try.prog 73 #[s.val] W fun e w' => e = .returned (.bool s.byKey) ∧ Below W.heap.size W w') := fun W => byKey_any s W
  have HB : Hid (s.byKey = false → 0 ≤ s.at_) := byKey_at
  obtain ⟨hs1, hs2⟩ := hs
  have KEY : Hid (∀ (W : World) (bk : Bool), s.byKey = bk → Below w.heap.size w W → (bk = true ∧ v.k = 7 → ∃ A, h = .iface 114 (.pointer (some A)) ∧ ∀ W2, Below W.heap.size W W2 → Calls Try.prog 75 #[.pointer (some A), .string s.key] W2 fun e w' => ∃ u, e = .returned (.tuple #[.agg #[u], .int .i64 (v.follow s).2]) ∧ u.oneCell' = true ∧ Rep w ok u (v.follow s).1 ∧ Below W2.heap.size W2 w') ∧
      (bk = false ∧ v.k = 6 → ∃ A, h = .iface 91 (.pointer (some A)) ∧ ∀ W2, Below W.heap.size W W2 → Calls Try.prog 77 #[.pointer (some A), .int .i64 s.at_] W2 fun e w' => ∃ u, e = .returned (.tuple #[.agg #[u], .int .i64 (v.follow s).2]) ∧ u.oneCell' = true ∧ Rep w ok u (v.follow s).1 ∧ Below W2.heap.size W2 w') ∧
      ((bk = true → v.k ≠ 7) → bk = true → v.follow s = (V.null, 6)) ∧ ((bk = false → v.k ≠ 6) → bk = false → v.follow s = (V.null, 6))) := by
    intro W bk hbk hW
    have back : ∀ {W2 : World} {u : Value} {x : V}, Below w.heap.size w W2 → Rep W2 (fun b => ok b ∧ b < w.heap.size) u x → Rep w ok u x := fun {W2 u x} h2 hx => by
      refine (hx.agree (w' := w) ?_).mono (fun b h1 _ => h1.1)
      intro b hb _
      exact (h2.block b hb.2).symm
    refine ⟨?_, ?_, ?_, ?_⟩
    · rintro ⟨rfl, hk7⟩
      have hr2 := hr.mono (ok' := fun b => ok b ∧ b < w.heap.size) (fun b h1 h2 => ⟨h1, h2⟩)
      clear hr
      induction hr2 using Rep.ind
      case map B M l q a c ka kc H hB hMo ha hka hq c0 c1 c2 c3 c4 c5 c6 hk hM hrow hin _ =>
        refine ⟨_, rfl, fun W2 hW2 => ?_⟩
        have hb2 := hW.trans (hW2.mono hW.size)
        have C := under_any (ok := fun b => ok b ∧ b < w.heap.size) B M l q a c H hq ((hb2.cell (p := ⟨B, 4, none⟩) (World.block_lt_of_cell? _ _ c4)).trans c4) ((hb2.cell (p := ⟨B, 6, none⟩) (World.block_lt_of_cell? _ _ c6)).trans c6) (hM.agree (hb2.block M hM.lt)) (hrow.below hb2) (fun j hj => (hin j hj).stays hb2) s.key hs1
        rw [follow_k7 l q s hbk]
        refine C.mono ?_
        rintro e w' ⟨u, rfl, h1, h2⟩
        exact ⟨u, rfl, h1.one, back hb2 h1, h2⟩
      all_goals exact absurd hk7 (by simp [V.null])
    · rintro ⟨rfl, hk6⟩
      have hr2 := hr.mono (ok' := fun b => ok b ∧ b < w.heap.size) (fun b h1 h2 => ⟨h1, h2⟩)
      clear hr
      induction hr2 using Rep.ind
      case list B l a c H hB ha c0 c1 c2 c3 c4 hrow hin _ =>
        refine ⟨_, rfl, fun W2 hW2 => ?_⟩
        have hb2 := hW.trans (hW2.mono hW.size)
        have C := item_any (ok := fun b => ok b ∧ b < w.heap.size) B l a c H ((hb2.cell (p := ⟨B, 4, none⟩) (World.block_lt_of_cell? _ _ c4)).trans c4) (hrow.below hb2) (fun j hj => (hin j hj).stays hb2) s.at_ (byKey_at hbk)
        rw [follow_k6 l s hbk]
        refine C.mono ?_
        rintro e w' ⟨u, rfl, h1, h2⟩
        exact ⟨u, rfl, h1.one, back hb2 h1, h2⟩
      all_goals exact absurd hk6 (by simp [V.null])
    · intro h1 h2
      exact follow_no v s ⟨fun _ => h1 h2, fun h => by rw [hbk, h2] at h; cases h⟩
    · intro h1 h2
      exact follow_no v s ⟨(fun h => by rw [hbk, h2] at h; cases h), fun _ => h1 h2⟩
  have hone := hr.one
  have KN : Hid (∀ W, (v.k ≠ 7 → Calls Try.prog 74 #[h] W fun e w' => e = .returned (.tuple #[.pointer none, .int .i64 6]) ∧ Below W.heap.size W w') ∧ (v.k ≠ 6 → Calls Try.prog 76 #[h] W fun e w' => e = .returned (.tuple #[.pointer none, .int .i64 6]) ∧ Below W.heap.size W w')) := fun W => ⟨fun hk => mmap_no hr hk W, fun hk => mlist_no hr hk W⟩
  clear hr
  obtain ⟨key, i⟩ := s
  unfold St.val at CB
  unfold St.val
  dsimp only at *
  generalize v.follow ⟨key, i⟩ = R at *
  go_enter Try.func49, Try.ntmps49
  go_wp2_with fail
  have hB0 := B3.start w h key i
  refine (CB.out _).mono ?_
  rintro e w1 ⟨rfl, hb1⟩
  have hB1 := hB0.below hb1
  obtain ⟨x0, x1, x2, x3, x4⟩ := hB1.cells
  clear hB0 hb1 CB
  obtain ⟨K1, K2, K3, K4⟩ := KEY.out w1 _ rfl hB1.2.2.2
  clear KEY
  cases hbk : St.byKey ⟨key, i⟩
  · rw [hbk] at K2 K4
    clear K1 K3
    by_cases hk6 : v.k = 6
    · obtain ⟨A, rfl, C⟩ := K2 ⟨rfl, hk6⟩
      have HC : Hid (∀ W2, Below w1.heap.size w1 W2 → Calls Try.prog 77 #[.pointer (some A), .int .i64 i] W2 fun e w' => ∃ u, e = .returned (.tuple #[.agg #[u], .int .i64 R.2]) ∧ u.oneCell' = true ∧ Rep w ok u R.1 ∧ Below W2.heap.size W2 w') := C
      clear C K2 K4 KN HB hone
      go_wp2_with fail
      refine (mlist_yes _ _).mono ?_
      rintro e w2 ⟨rfl, hb2⟩
      have hB2 := hB1.below hb2
      obtain ⟨y0, y1, y2, y3, y4⟩ := hB2.cells
      clear x0 x1 x2 x3 x4
      go_wp2_with fail
      refine (HC.out _ hb2).mono ?_
      rintro e w3 ⟨u, rfl, hu, hrep, hb3⟩
      have hB3 := hB2.below hb3
      obtain ⟨z0, z1, z2, z3, z4⟩ := hB3.cells
      have st := store_old u .nilIface hu w3 _ z3 z4
      obtain ⟨g1, g2⟩ := hB3.done u
      clear y0 y1 y2 y3 y4 HC
      go_wp2_with fail
      exact bodyPost_ret (v := .tuple #[.agg #[u], .int .i64 R.2]) (by simp [results, Try.results49, go_sem, g1]) rfl ⟨u, rfl, hrep, g2⟩
    · have hR : Hid (R = (V.null, 6)) := K4 (fun _ => hk6) rfl
      have C := (KN.out w1).2 hk6
      clear K2 K4 KN HB hone
      go_wp2_with fail
      refine C.mono ?_
      rintro e w2 ⟨rfl, hb2⟩
      have hB2 := hB1.below hb2
      obtain ⟨y0, y1, y2, y3, y4⟩ := hB2.cells
      obtain ⟨g1, g2⟩ := hB2.done .nilIface
      clear x0 x1 x2 x3 x4 C
      go_wp2_with fail
      exact bodyPost_ret (v := .tuple #[.agg #[.nilIface], .int .i64 6]) (by simp [results, Try.results49, go_sem, g1]) rfl ⟨_, by rw [hR.out], by rw [hR.out]; exact Rep.null, g2⟩
  · rw [hbk] at K1 K3
    clear K2 K4
    by_cases hk7 : v.k = 7
    · obtain ⟨A, rfl, C⟩ := K1 ⟨rfl, hk7⟩
      have HC : Hid (∀ W2, Below w1.heap.size w1 W2 → Calls Try.prog 75 #[.pointer (some A), .string key] W2 fun e w' => ∃ u, e = .returned (.tuple #[.agg #[u], .int .i64 R.2]) ∧ u.oneCell' = true ∧ Rep w ok u R.1 ∧ Below W2.heap.size W2 w') := C
      clear C K1 K3 KN HB hone
      go_wp2_with fail
      refine (mmap_yes _ _).mono ?_
      rintro e w2 ⟨rfl, hb2⟩
      have hB2 := hB1.below hb2
      obtain ⟨y0, y1, y2, y3, y4⟩ := hB2.cells
      clear x0 x1 x2 x3 x4
      go_wp2_with fail
      refine (HC.out _ hb2).mono ?_
      rintro e w3 ⟨u, rfl, hu, hrep, hb3⟩
      have hB3 := hB2.below hb3
      obtain ⟨z0, z1, z2, z3, z4⟩ := hB3.cells
      have st := store_old u .nilIface hu w3 _ z3 z4
      obtain ⟨g1, g2⟩ := hB3.done u
      clear y0 y1 y2 y3 y4 HC
      go_wp2_with fail
      exact bodyPost_ret (v := .tuple #[.agg #[u], .int .i64 R.2]) (by simp [results, Try.results49, go_sem, g1]) rfl ⟨u, rfl, hrep, g2⟩
    · have hR : Hid (R = (V.null, 6)) := K3 (fun _ => hk7) rfl
      have C := (KN.out w1).1 hk7
      clear K1 K3 KN HB hone
      go_wp2_with fail
      refine C.mono ?_
      rintro e w2 ⟨rfl, hb2⟩
      have hB2 := hB1.below hb2
      obtain ⟨y0, y1, y2, y3, y4⟩ := hB2.cells
      obtain ⟨g1, g2⟩ := hB2.done .nilIface
      clear x0 x1 x2 x3 x4 C
      go_wp2_with fail
      exact bodyPost_ret (v := .tuple #[.agg #[.nilIface], .int .i64 6]) (by simp [results, Try.results49, go_sem, g1]) rfl ⟨_, by rw [hR.out], by rw [hR.out]; exact Rep.null, g2⟩
end Go.Proofs.Ytigdcnoggjcddaa

