/- The sum of two values, as the document says it, in plain mathematics; what the program's Sum answers. Condition: texts of at most 1048576 letters. -/
import Derived.Test.YtindmbedolokaaaVGetB
import Derived.Test.YtindmbedolokaaaVCleanR
import Derived.Deep.RegionHeld
namespace Go.Proofs.Ytindmbedolokaaa
open Go.RowKit Go.Maps

set_option maxRecDepth 100000 in
theorem pt_no (n m : Int) (w : World) (h : partB n = false ∨ (partB n = true ∧ partB m = false)) :
    Calls Try.prog 33 #[.int .i64 n, .int .i64 m] w fun e w' => e = .returned (.tuple #[.agg #[.nilIface], .int .i64 2]) ∧ Below w.heap.size w w' := by
  rcases h with e1 | ⟨e1, e2⟩
  · go_enter Try.func33, Try.ntmps33
    go_wp2_with fail
    refine (maybe_any _ _).mono ?_
    rintro e w1 ⟨rfl, rfl⟩
    go_wp2_with fail
    exact bodyPost_ret (v := .tuple #[.agg #[.nilIface], .int .i64 2]) (by simp [results, Try.results33, go_sem]) rfl ⟨rfl, (Below.refl _ _).alloc (Nat.le_refl _) _⟩
  · go_enter Try.func33, Try.ntmps33
    go_wp2_with fail
    refine (maybe_any _ _).mono ?_
    rintro e w1 ⟨rfl, rfl⟩
    go_wp2_with fail
    refine (maybe_any _ _).mono ?_
    rintro e w2 ⟨rfl, rfl⟩
    go_wp2_with fail
    exact bodyPost_ret (v := .tuple #[.agg #[.nilIface], .int .i64 2]) (by simp [results, Try.results33, go_sem]) rfl ⟨rfl, (Below.refl _ _).alloc (Nat.le_refl _) _⟩
/-- Is it an int that can be? -/
def inI (n : Int) : Bool := decide (-9223372036854775808 ≤ n) && decide (n ≤ 9223372036854775807)
def isNum (k : Int) : Bool := decide (k = 3) || decide (k = 4)
def V.point (n m : Int) : V := .mk 4 false n m ByteArray.empty [] []
def V.int (n : Int) : V := .mk 3 false n 0 ByteArray.empty [] []
def V.text (s : ByteArray) : V := .mk 5 false 0 0 s [] []
/-- May two points, or numbers, be added? -/
def sumB (a b : V) : Bool := partB a.n && partB b.n && partB (a.n + b.n) && partB (a.m + b.m)
/-- The sum, and the error's number. -/
def V.sum (a b : V) : V × Int :=
  if a.k = 0 ∧ b.k = 0 then (V.null, 0) else
  if a.k = 5 ∧ b.k = 5 then (V.text (a.s ++ b.s), 0) else
  if a.k = 3 ∧ b.k = 3 then (if inI (a.n + b.n) = true then (V.int (a.n + b.n), 0) else (V.null, 2)) else
  if isNum a.k = true ∧ isNum b.k = true then (if sumB a b = true then (V.point (a.n + b.n) (a.m + b.m), 0) else (V.null, 2)) else (V.null, 6)
set_option maxRecDepth 100000 in
theorem sum_sym (a b : V) : (a.sum b).2 = (b.sum a).2 ∧ (a.k ≠ 5 → a.sum b = b.sum a) := by
  have c1 := Int.add_comm a.n b.n
  have c2 := Int.add_comm a.m b.m
  have c3 : sumB a b = sumB b a := by unfold sumB; rw [c1, c2]; cases partB a.n <;> cases partB b.n <;> rfl
  unfold V.sum
  rw [c1, c2, c3]
  by_cases h0 : a.k = 0 ∧ b.k = 0
  · rw [if_pos h0, if_pos (show b.k = 0 ∧ a.k = 0 from ⟨h0.2, h0.1⟩)]; exact ⟨rfl, fun _ => rfl⟩
  rw [if_neg h0, if_neg (show ¬ (b.k = 0 ∧ a.k = 0) from fun h => h0 ⟨h.2, h.1⟩)]
  by_cases h5 : a.k = 5 ∧ b.k = 5
  · rw [if_pos h5, if_pos (show b.k = 5 ∧ a.k = 5 from ⟨h5.2, h5.1⟩)]; exact ⟨rfl, fun h => absurd h5.1 h⟩
  rw [if_neg h5, if_neg (show ¬ (b.k = 5 ∧ a.k = 5) from fun h => h5 ⟨h.2, h.1⟩)]
  by_cases h3 : a.k = 3 ∧ b.k = 3
  · rw [if_pos h3, if_pos (show b.k = 3 ∧ a.k = 3 from ⟨h3.2, h3.1⟩)]; exact ⟨rfl, fun _ => rfl⟩
  rw [if_neg h3, if_neg (show ¬ (b.k = 3 ∧ a.k = 3) from fun h => h3 ⟨h.2, h.1⟩)]
  by_cases h4 : isNum a.k = true ∧ isNum b.k = true
  · rw [if_pos h4, if_pos (show isNum b.k = true ∧ isNum a.k = true from ⟨h4.2, h4.1⟩)]; exact ⟨rfl, fun _ => rfl⟩
  · rw [if_neg h4, if_neg (show ¬ (isNum b.k = true ∧ isNum a.k = true) from fun h => h4 ⟨h.2, h.1⟩)]; exact ⟨rfl, fun _ => rfl⟩
set_option maxRecDepth 100000 in
theorem isnum_any (k : Int) (w : World) : Calls Try.prog 57 #[.int .i64 k] w fun e w' => e = .returned (.bool (isNum k)) ∧ w = w' := by
  have E : Hid ((k == 3 || k == 4) = isNum k) := by show _ = _; unfold isNum; by_cases h3 : k = 3 <;> by_cases h4 : k = 4 <;> simp [h3, h4]
  by_cases h3 : k = 3
  · subst h3
    go_enter Try.func57, Try.ntmps57
    go_wp2_with fail
    go_ret
    exact ⟨rfl, rfl⟩
  · go_enter Try.func57, Try.ntmps57
    go_wp2_with fail
    go_ret
    exact ⟨ret_bool E.out, rfl⟩
set_option maxRecDepth 100000 in
theorem Rep.isInt {w : World} {ok : Nat → Prop} {h : Value} {v : V} (hr : Rep w ok h v) (hk : v.k = 3) : h = .iface 3 (.int .i64 v.n) ∧ v = V.int v.n ∧ I64 v.n := by
  induction hr using Rep.ind <;> first | exact ⟨rfl, rfl, by assumption⟩ | (exact absurd hk (by simp [V.null]))
set_option maxRecDepth 100000 in
theorem Rep.isPoint {w : World} {ok : Nat → Prop} {h : Value} {v : V} (hr : Rep w ok h v) (hk : v.k = 4) : v = V.point v.n v.m ∧ (-9007199254740992 ≤ v.n ∧ v.n ≤ 9007199254740992) ∧ (-9007199254740992 ≤ v.m ∧ v.m ≤ 9007199254740992) := by
  induction hr using Rep.ind <;> first | exact ⟨rfl, by assumption, by assumption⟩ | (exact absurd hk (by simp [V.null]))
set_option maxRecDepth 100000 in
theorem Rep.isText {w : World} {ok : Nat → Prop} {h : Value} {v : V} (hr : Rep w ok h v) (hk : v.k = 5) : h = .iface 9 (.string v.s) ∧ v = V.text v.s ∧ v.s.size ≤ maxLen := by
  induction hr using Rep.ind <;> first | exact ⟨rfl, rfl, by assumption⟩ | (exact absurd hk (by simp [V.null]))
set_option maxRecDepth 100000 in
theorem partB_iff (n : Int) : partB n = true ↔ (-9007199254740992 ≤ n ∧ n ≤ 9007199254740992) := by simp [partB]
/-- The blocks of a function of one value, and of two, and its answer's. -/
def S2 (w W : World) (a : Value) : Prop := W.heap[w.heap.size]? = some (.cells #[a] 30 (0, 0)) ∧ W.heap[w.heap.size + 1]? = some (.cells #[.nilIface] 30 (0, 0)) ∧ Below w.heap.size w W
set_option maxRecDepth 100000 in
theorem S2.start (w : World) (a : Value) : S2 w ((w.alloc (.cells #[a] 30)).alloc (.cells #[.nilIface] 30)) a := by
  refine ⟨?_, ?_, ((Below.refl _ _).alloc (Nat.le_refl _) _).alloc (by simp) _⟩
  · rw [Below.heap_alloc _ _ _ (by simp)]; exact heap_alloc_new _ _
  · simpa using heap_alloc_new (w.alloc (.cells #[a] 30)) (.cells #[.nilIface] 30)
set_option maxRecDepth 100000 in
theorem S2.below {w W W' : World} {a : Value} (hB : S2 w W a) (hb : Below W.heap.size W W') : S2 w W' a := by
  obtain ⟨x, y, d⟩ := hB
  have l1 := (Array.getElem?_eq_some_iff.1 x).1
  exact ⟨(hb.block _ l1).trans x, (hb.block _ (Array.getElem?_eq_some_iff.1 y).1).trans y, d.trans (hb.mono (Nat.le_of_lt l1))⟩
set_option maxRecDepth 100000 in
theorem S2.cells {w W : World} {a : Value} (hB : S2 w W a) : W.cell? ⟨w.heap.size, 0, none⟩ = some a ∧ W.cell? ⟨w.heap.size + 1, 0, none⟩ = some .nilIface ∧ W.frozen? ⟨w.heap.size + 1, 0, none⟩ = false := by
  obtain ⟨x, y, d⟩ := hB
  exact ⟨cell_of_row _ _ _ _ _ _ x, cell_of_row _ _ _ _ _ _ y, frozen_of_row _ _ _ _ _ y⟩
set_option maxRecDepth 100000 in
theorem S2.done {w W : World} {a : Value} (hB : S2 w W a) (u : Value) : (W.setCell ⟨w.heap.size + 1, 0, none⟩ u).cell? ⟨w.heap.size + 1, 0, none⟩ = some u ∧ Below w.heap.size w (W.setCell ⟨w.heap.size + 1, 0, none⟩ u) := by
  obtain ⟨x, y, d⟩ := hB
  exact ⟨cell_of_row _ _ _ _ _ _ (heap_setCell_same _ _ 0 _ _ u y), d.setCell (by simp) _⟩
def S3 (w W : World) (a b : Value) : Prop := W.heap[w.heap.size]? = some (.cells #[a] 30 (0, 0)) ∧ W.heap[w.heap.size + 1]? = some (.cells #[b] 30 (0, 0)) ∧ W.heap[w.heap.size + 2]? = some (.cells #[.nilIface] 30 (0, 0)) ∧ Below w.heap.size w W
set_option maxRecDepth 100000 in
theorem S3.start (w : World) (a b : Value) : S3 w (((w.alloc (.cells #[a] 30)).alloc (.cells #[b] 30)).alloc (.cells #[.nilIface] 30)) a b := by
  refine ⟨?_, ?_, ?_, (((Below.refl _ _).alloc (Nat.le_refl _) _).alloc (by simp) _).alloc (by simp; omega) _⟩
  · rw [Below.heap_alloc _ _ _ (by simp; omega), Below.heap_alloc _ _ _ (by simp)]; exact heap_alloc_new _ _
  · rw [Below.heap_alloc _ _ _ (by simp)]
    simpa using heap_alloc_new (w.alloc (.cells #[a] 30)) (.cells #[b] 30)
  · simpa using heap_alloc_new ((w.alloc (.cells #[a] 30)).alloc (.cells #[b] 30)) (.cells #[.nilIface] 30)
set_option maxRecDepth 100000 in
theorem S3.below {w W W' : World} {a b : Value} (hB : S3 w W a b) (hb : Below W.heap.size W W') : S3 w W' a b := by
  obtain ⟨x, y, z, d⟩ := hB
  have l1 := (Array.getElem?_eq_some_iff.1 x).1
  exact ⟨(hb.block _ l1).trans x, (hb.block _ (Array.getElem?_eq_some_iff.1 y).1).trans y, (hb.block _ (Array.getElem?_eq_some_iff.1 z).1).trans z, d.trans (hb.mono (Nat.le_of_lt l1))⟩
set_option maxRecDepth 100000 in
theorem S3.drew {w W : World} {a b : Value} (hB : S3 w W a b) : S3 w W.drew a b := ⟨hB.1, hB.2.1, hB.2.2.1, hB.2.2.2.drew⟩
set_option maxRecDepth 100000 in
theorem S3.cells {w W : World} {a b : Value} (hB : S3 w W a b) : W.cell? ⟨w.heap.size, 0, none⟩ = some a ∧ W.cell? ⟨w.heap.size + 1, 0, none⟩ = some b ∧ W.cell? ⟨w.heap.size + 2, 0, none⟩ = some .nilIface ∧ W.frozen? ⟨w.heap.size + 2, 0, none⟩ = false := by
  obtain ⟨x, y, z, d⟩ := hB
  exact ⟨cell_of_row _ _ _ _ _ _ x, cell_of_row _ _ _ _ _ _ y, cell_of_row _ _ _ _ _ _ z, frozen_of_row _ _ _ _ _ z⟩
set_option maxRecDepth 100000 in
theorem S3.done {w W : World} {a b : Value} (hB : S3 w W a b) (u : Value) : (W.setCell ⟨w.heap.size + 2, 0, none⟩ u).cell? ⟨w.heap.size + 2, 0, none⟩ = some u ∧ Below w.heap.size w (W.setCell ⟨w.heap.size + 2, 0, none⟩ u) := by
  obtain ⟨x, y, z, d⟩ := hB
  exact ⟨cell_of_row _ _ _ _ _ _ (heap_setCell_same _ _ 0 _ _ u z), d.setCell (by simp) _⟩
set_option maxRecDepth 100000 in
/-- An int, or a point, as a point. -/
theorem top_any {w0 : World} {ok : Nat → Prop} {h : Value} {v : V} (hr : Rep w0 ok h v) (hk : isNum v.k = true) (w : World) :
    Calls Try.prog 81 #[.agg #[h]] w fun e w' => ∃ h' pe x, e = .returned (.tuple #[.agg #[h'], .int .i64 pe]) ∧ h'.oneCell' = true ∧ Rep w0 ok h' x ∧ (partB v.n = true ∧ pe = 0 ∧ x = V.point v.n v.m ∨ partB v.n = false ∧ pe = 2 ∧ x = V.null) ∧ Below w.heap.size w w' := by
  have hone := hr.one
  by_cases h3 : v.k = 3
  · obtain ⟨rfl, e2, -⟩ := hr.isInt h3
    have em : v.m = 0 := by rw [e2]; rfl
    have hgn : v.gn = v.n := by unfold V.gn; rw [if_pos h3]
    have h3b : v.isK 3 = true := by simp [V.isK, h3]
    have hz : -9007199254740992 ≤ (0 : Int) ∧ (0 : Int) ≤ 9007199254740992 := by omega
    have CI : Hid (∀ W, Calls Try.prog 37 #[.agg #[.iface 3 (.int .i64 v.n)]] W fun e w' => e = .returned (.tuple #[.int .i64 v.n, .bool true]) ∧ Below W.heap.size W w') := fun W => by
      have := gint_any hr W
      rw [hgn, h3b] at this
      exact this
    have CP : Hid (∀ W, Calls Try.prog 33 #[.int .i64 v.n, .int .i64 0] W fun e w' => ∃ h' pe x, e = .returned (.tuple #[.agg #[h'], .int .i64 pe]) ∧ h'.oneCell' = true ∧ Rep w0 ok h' x ∧ (partB v.n = true ∧ pe = 0 ∧ x = V.point v.n v.m ∨ partB v.n = false ∧ pe = 2 ∧ x = V.null) ∧ Below W.heap.size W w') := fun W => by
      cases hp : partB v.n
      · refine (pt_no v.n 0 W (Or.inl hp)).mono ?_
        rintro e w' ⟨rfl, h⟩
        have hR := Rep.null (w := w0) (ok := ok)
        exact ⟨_, 2, _, rfl, hR.one, hR, Or.inr ⟨rfl, rfl, rfl⟩, h⟩
      · have hb := (partB_iff _).1 hp
        refine (point_yes v.n 0 W hb hz).mono ?_
        rintro e w' ⟨rfl, h⟩
        rw [em]
        have hR := Rep.point (w := w0) (ok := ok) v.n 0 hb hz
        exact ⟨_, 0, _, rfl, hR.one, hR, Or.inl ⟨rfl, rfl, rfl⟩, h⟩
    generalize V.point v.n v.m = R at *
    generalize partB v.n = pb at *
    generalize v.n = N at *
    clear hz e2 em hgn h3b h3 hk hr
    have hB0 := S2.start w (.iface 3 (.int .i64 N))
    go_enter Try.func81, Try.ntmps81
    go_wp2_with fail
    refine (CI.out _).mono ?_
    rintro e w1 ⟨rfl, hb1⟩
    have hB1 := hB0.below hb1
    obtain ⟨x0, x1, x2⟩ := hB1.cells
    clear hB0 hb1 CI
    go_wp2_with fail
    refine (CP.out _).mono ?_
    rintro e w2 ⟨h', pe, x, rfl, ho, hR, hor, hb2⟩
    have hB2 := hB1.below hb2
    clear x0 x1 x2
    obtain ⟨x0, x1, x2⟩ := hB2.cells
    have st := store_old h' .nilIface ho w2 _ x1 x2
    obtain ⟨g1, g2⟩ := hB2.done h'
    clear CP
    have HOR : Hid (pb = true ∧ pe = 0 ∧ x = R ∨ pb = false ∧ pe = 2 ∧ x = V.null) := hor
    clear hor
    go_wp2_with fail
    exact bodyPost_ret (v := .tuple #[.agg #[h'], .int .i64 pe]) (by simp [results, Try.results81, go_sem, g1]) rfl ⟨h', pe, x, rfl, ho, hR, HOR.out, g2⟩
  · have h4 : v.k = 4 := by simp [isNum] at hk; omega
    obtain ⟨e2, b1, b2⟩ := hr.isPoint h4
    have hp : partB v.n = true := (partB_iff _).2 b1
    have h3b : v.isK 3 = false := by simp [V.isK, h3]
    have CI : Hid (∀ W, Calls Try.prog 37 #[.agg #[h]] W fun e w' => e = .returned (.tuple #[.int .i64 v.gn, .bool false]) ∧ Below W.heap.size W w') := fun W => by
      have := gint_any hr W
      rw [h3b] at this
      exact this
    rw [e2] at hr
    clear b1 b2 hk h3 h4 h3b e2
    generalize v.gn = G at *
    have hB0 := S2.start w h
    go_enter Try.func81, Try.ntmps81
    go_wp2_with fail
    refine (CI.out _).mono ?_
    rintro e w1 ⟨rfl, hb1⟩
    have hB1 := hB0.below hb1
    obtain ⟨x0, x1, x2⟩ := hB1.cells
    have st := store_old h .nilIface hone w1 _ x1 x2
    obtain ⟨g1, g2⟩ := hB1.done h
    clear hB0 hb1 CI
    go_wp2_with fail
    exact bodyPost_ret (v := .tuple #[.agg #[h], .int .i64 0]) (by simp [results, Try.results81, go_sem, g1]) rfl ⟨h, 0, _, rfl, hone, hr, Or.inl ⟨hp, rfl, rfl⟩, g2⟩
/-- An answer that is a value, or ErrRange. -/
def PtR (b : Bool) (pe : Int) (x P : V) : Prop := b = true ∧ pe = 0 ∧ x = P ∨ b = false ∧ pe = 2 ∧ x = V.null
def SumP (b : Bool) (P : V) (w : World) (e : Ending) (w' : World) : Prop := ∃ h pe x, e = .returned (.tuple #[.agg #[h], .int .i64 pe]) ∧ h.oneCell' = true ∧ (∀ W ok', Rep W ok' h x) ∧ PtR b pe x P ∧ Below w.heap.size w w'
set_option maxRecDepth 100000 in
theorem wrap_over (s : Int) (h1 : 9223372036854775807 < s) (h2 : s ≤ 18446744073709551614) : IntKind.i64.wrap s = s - 18446744073709551616 := by
  rw [IntKind.wrap_i64]; omega
set_option maxRecDepth 100000 in
theorem wrap_under (s : Int) (h1 : s < -9223372036854775808) (h2 : -18446744073709551616 ≤ s) : IntKind.i64.wrap s = s + 18446744073709551616 := by
  rw [IntKind.wrap_i64]; omega
set_option maxRecDepth 100000 in
set_option maxHeartbeats 1600000 in
theorem sumi_any {w0 : World} {ok : Nat → Prop} {a b : Value} {v u : V} (ra : Rep w0 ok a v) (rb : Rep w0 ok b u) (h1 : v.k = 3) (h2 : u.k = 3) (w : World) :
    Calls Try.prog 55 #[.agg #[a], .agg #[b]] w fun e w' => SumP (inI (v.n + u.n)) (V.int (v.n + u.n)) w e w' := by
  obtain ⟨rfl, -, i1⟩ := ra.isInt h1
  obtain ⟨rfl, -, i2⟩ := rb.isInt h2
  have CA : Hid (∀ W, Calls Try.prog 37 #[.agg #[.iface 3 (.int .i64 v.n)]] W fun e w' => e = .returned (.tuple #[.int .i64 v.n, .bool true]) ∧ Below W.heap.size W w') := fun W => by
    have := gint_any ra W
    rw [show v.gn = v.n by unfold V.gn; rw [if_pos h1], show v.isK 3 = true by simp [V.isK, h1]] at this
    exact this
  have CB : Hid (∀ W, Calls Try.prog 37 #[.agg #[.iface 3 (.int .i64 u.n)]] W fun e w' => e = .returned (.tuple #[.int .i64 u.n, .bool true]) ∧ Below W.heap.size W w') := fun W => by
    have := gint_any rb W
    rw [show u.gn = u.n by unfold V.gn; rw [if_pos h2], show u.isK 3 = true by simp [V.isK, h2]] at this
    exact this
  clear ra rb h1 h2
  generalize v.n = m at *
  generalize u.n = n at *
  unfold I64 at i1 i2
  have hB0 := S3.start w (.iface 3 (.int .i64 m)) (.iface 3 (.int .i64 n))
  have HIN : Hid (inI (m + n) = true ↔ (-9223372036854775808 ≤ m + n ∧ m + n ≤ 9223372036854775807)) := by show _ ↔ _; simp [inI]
  obtain ⟨S, hS⟩ : ∃ S, S = IntKind.i64.wrap (m + n) := ⟨_, rfl⟩
  have hS' := hS.symm
  have HS : Hid ((inI (m + n) = true ∧ S = m + n) ∨ (inI (m + n) = false ∧ (0 < n ∧ S < m ∨ n < 0 ∧ m < S))) := by
    show _ ∨ _
    by_cases hi : inI (m + n) = true
    · have := HIN.out.1 hi
      exact Or.inl ⟨hi, by rw [hS]; exact IntWalk.i64_in _ this⟩
    · refine Or.inr ⟨by simpa using hi, ?_⟩
      have hni : ¬ (-9223372036854775808 ≤ m + n ∧ m + n ≤ 9223372036854775807) := fun h => hi (HIN.out.2 h)
      rcases (by omega : 9223372036854775807 < m + n ∨ m + n < -9223372036854775808) with h | h
      · rw [wrap_over _ h (by omega)] at hS; left; omega
      · rw [wrap_under _ h (by omega)] at hS; right; omega
  clear hS
  go_enter Try.func55, Try.ntmps55
  go_wp2_with fail
  refine (CA.out _).mono ?_
  rintro e w1 ⟨rfl, hb1⟩
  have hB1 := hB0.below hb1
  obtain ⟨x0, x1, x2, x3⟩ := hB1.cells
  clear hB0 hb1 CA
  go_wp2_with fail
  refine (CB.out _).mono ?_
  rintro e w2 ⟨rfl, hb2⟩
  have hB2 := hB1.below hb2
  clear x0 x1 x2 x3
  obtain ⟨x0, x1, x2, x3⟩ := hB2.cells
  clear hB1 hb2 CB
  rcases HS.out with ⟨hin, hSe⟩ | ⟨hin, ho | ho⟩
  · have CI : Hid (∀ W, Calls Try.prog 36 #[.int .i64 S] W fun e w' => e = .returned (.agg #[.iface 3 (.int .i64 S)]) ∧ Below W.heap.size W w') := int_any S
    have hRep : ∀ W ok', Rep W ok' (.iface 3 (.int .i64 S)) (V.int (m + n)) := fun W ok' => by
      rw [hSe]
      have := HIN.out.1 hin
      exact Rep.int _ (by unfold I64; omega)
    have HP : Hid (PtR (inI (m + n)) 0 (V.int (m + n)) (V.int (m + n))) := Or.inl ⟨hin, rfl, rfl⟩
    have HRep : Hid (∀ W ok', Rep W ok' (.iface 3 (.int .i64 S)) (V.int (m + n))) := hRep
    have hg : (0 < n ∧ ¬ S < m) ∨ (n < 0 ∧ ¬ m < S ∧ ¬ 0 < n) ∨ (¬ 0 < n ∧ ¬ n < 0) := by omega
    clear HIN HS hin i1 i2 hRep
    clear hSe
    rcases hg with ⟨g1, g2⟩ | ⟨g1, g2, g3⟩ | ⟨g1, g2⟩
    all_goals
      go_wp2_with fail
      refine (CI.out _).mono ?_
      rintro e w3 ⟨rfl, hb3⟩
      have hB3 := hB2.below hb3
      clear x0 x1 x2 x3
      obtain ⟨x0, x1, x2, x3⟩ := hB3.cells
      have st := store_old (.iface 3 (.int .i64 S)) .nilIface rfl w3 _ x2 x3
      obtain ⟨g1, g2⟩ := hB3.done (.iface 3 (.int .i64 S))
      go_wp2_with fail
      exact bodyPost_ret (v := .tuple #[.agg #[.iface 3 (.int .i64 S)], .int .i64 0]) (by simp [results, Try.results55, go_sem, g1]) rfl ⟨_, 0, _, rfl, rfl, HRep.out, HP.out, g2⟩
  · have HP : Hid (PtR (inI (m + n)) 2 V.null (V.int (m + n))) := Or.inr ⟨hin, rfl, rfl⟩
    clear HIN HS hin i1 i2
    obtain ⟨g1, g2⟩ := ho
    have st := store_old .nilIface .nilIface rfl w2 _ x2 x3
    obtain ⟨y1, y2⟩ := hB2.done .nilIface
    go_wp2_with fail
    exact bodyPost_ret (v := .tuple #[.agg #[.nilIface], .int .i64 2]) (by simp [results, Try.results55, go_sem, y1]) rfl ⟨_, 2, _, rfl, rfl, fun _ _ => Rep.null, HP.out, y2⟩
  · have HP : Hid (PtR (inI (m + n)) 2 V.null (V.int (m + n))) := Or.inr ⟨hin, rfl, rfl⟩
    clear HIN HS hin i1 i2
    obtain ⟨g1, g2⟩ := ho
    have g3 : ¬ 0 < n := by omega
    have st := store_old .nilIface .nilIface rfl w2 _ x2 x3
    obtain ⟨y1, y2⟩ := hB2.done .nilIface
    go_wp2_with fail
    exact bodyPost_ret (v := .tuple #[.agg #[.nilIface], .int .i64 2]) (by simp [results, Try.results55, go_sem, y1]) rfl ⟨_, 2, _, rfl, rfl, fun _ _ => Rep.null, HP.out, y2⟩
set_option maxRecDepth 100000 in
set_option maxHeartbeats 1600000 in
theorem sumt_any {w0 : World} {ok : Nat → Prop} {a b : Value} {v u : V} (ra : Rep w0 ok a v) (rb : Rep w0 ok b u) (h1 : v.k = 5) (h2 : u.k = 5) (hl : v.s.size + u.s.size ≤ 1048576) (w : World) :
    Calls Try.prog 56 #[.agg #[a], .agg #[b]] w fun e w' => ∃ h, e = .returned (.agg #[h]) ∧ h.oneCell' = true ∧ (∀ W ok', Rep W ok' h (V.text (v.s ++ u.s))) ∧ Below w.heap.size w w' := by
  obtain ⟨rfl, -, i1⟩ := ra.isText h1
  obtain ⟨rfl, -, i2⟩ := rb.isText h2
  have CA : Hid (∀ W, Calls Try.prog 44 #[.agg #[.iface 9 (.string v.s)]] W fun e w' => e = .returned (.tuple #[.string v.s, .bool true]) ∧ Below W.heap.size W w') := fun W => by
    have := gtext_any ra W
    rw [show v.gs = v.s by unfold V.gs; rw [if_pos h1], show v.isK 5 = true by simp [V.isK, h1]] at this
    exact this
  have CB : Hid (∀ W, Calls Try.prog 44 #[.agg #[.iface 9 (.string u.s)]] W fun e w' => e = .returned (.tuple #[.string u.s, .bool true]) ∧ Below W.heap.size W w') := fun W => by
    have := gtext_any rb W
    rw [show u.gs = u.s by unfold V.gs; rw [if_pos h2], show u.isK 5 = true by simp [V.isK, h2]] at this
    exact this
  clear ra rb h1 h2
  have HRep : Hid (∀ W ok', Rep W ok' (.iface 9 (.string (v.s ++ u.s))) (V.text (v.s ++ u.s))) := fun W ok' => Rep.text _ (by rw [ByteArray.size_append]; simp only [maxLen]; omega)
  generalize v.s = s at *
  generalize u.s = t at *
  have hB0 := S3.start w (.iface 9 (.string s)) (.iface 9 (.string t))
  have CT : Hid (∀ W, Calls Try.prog 40 #[.string (s ++ t)] W fun e w' => e = .returned (.agg #[.iface 9 (.string (s ++ t))]) ∧ Below W.heap.size W w') := text_any (s ++ t)
  go_enter Try.func56, Try.ntmps56
  go_wp2_with fail
  refine (CA.out _).mono ?_
  rintro e w1 ⟨rfl, hb1⟩
  have hB1 := hB0.below hb1
  obtain ⟨x0, x1, x2, x3⟩ := hB1.cells
  clear hB0 hb1 CA
  go_wp2_with fail
  refine (CB.out _).mono ?_
  rintro e w2 ⟨rfl, hb2⟩
  have hB2 := hB1.below hb2
  clear x0 x1 x2 x3
  obtain ⟨x0, x1, x2, x3⟩ := hB2.cells
  clear hB1 hb2 CB
  go_wp2_with fail
  refine (CT.out _).mono ?_
  rintro e w3 ⟨rfl, hb3⟩
  have hB3 := hB2.below hb3
  clear x0 x1 x2 x3
  obtain ⟨x0, x1, x2, x3⟩ := hB3.cells
  have sto := store_old (.iface 9 (.string (s ++ t))) .nilIface rfl w3 _ x2 x3
  obtain ⟨g1, g2⟩ := hB3.done (.iface 9 (.string (s ++ t)))
  go_wp2_with fail
  exact bodyPost_ret (v := .agg #[.iface 9 (.string (s ++ t))]) (by simp [results, Try.results56, go_sem, g1]) rfl ⟨_, rfl, rfl, HRep.out, g2⟩
set_option maxRecDepth 100000 in
theorem Rep.num {w : World} {ok : Nat → Prop} {h : Value} {v : V} (hr : Rep w ok h v) (hk : isNum v.k = true) : -9007199254740992 ≤ v.m ∧ v.m ≤ 9007199254740992 := by
  by_cases h3 : v.k = 3
  · obtain ⟨-, e2, -⟩ := hr.isInt h3
    have : v.m = 0 := by rw [e2]; rfl
    omega
  · exact (hr.isPoint (by simp [isNum] at hk; omega)).2.2
set_option maxRecDepth 100000 in
set_option maxHeartbeats 3200000 in
theorem sump_any {w0 : World} {ok : Nat → Prop} {a b : Value} {v u : V} (ra : Rep w0 ok a v) (rb : Rep w0 ok b u) (h1 : isNum v.k = true) (h2 : isNum u.k = true) (w : World) :
    Calls Try.prog 58 #[.agg #[a], .agg #[b]] w fun e w' => SumP (sumB v u) (V.point (v.n + u.n) (v.m + u.m)) w e w' := by
  have CA : Hid (∀ W, Calls Try.prog 81 #[.agg #[a]] W fun e w' => ∃ h' pe x, e = .returned (.tuple #[.agg #[h'], .int .i64 pe]) ∧ h'.oneCell' = true ∧ Rep w0 ok h' x ∧ (partB v.n = true ∧ pe = 0 ∧ x = V.point v.n v.m ∨ partB v.n = false ∧ pe = 2 ∧ x = V.null) ∧ Below W.heap.size W w') := fun W => top_any ra h1 W
  have CB : Hid (∀ W, Calls Try.prog 81 #[.agg #[b]] W fun e w' => ∃ h' pe x, e = .returned (.tuple #[.agg #[h'], .int .i64 pe]) ∧ h'.oneCell' = true ∧ Rep w0 ok h' x ∧ (partB u.n = true ∧ pe = 0 ∧ x = V.point u.n u.m ∨ partB u.n = false ∧ pe = 2 ∧ x = V.null) ∧ Below W.heap.size W w') := fun W => top_any rb h2 W
  have n1 := ra.num h1
  have n2 := rb.num h2
  have o1 := ra.one
  have o2 := rb.one
  have hB0 := S3.start w a b
  have HSB : Hid (sumB v u = (partB v.n && partB u.n && partB (v.n + u.n) && partB (v.m + u.m))) := rfl
  clear ra rb h1 h2
  generalize sumB v u = SB at *
  generalize v.n = vn at *
  generalize v.m = vm at *
  generalize u.n = un at *
  generalize u.m = um at *
  go_enter Try.func58, Try.ntmps58
  go_wp2_with fail
  refine (CA.out _).mono ?_
  rintro e w1 ⟨p, pe, xp, rfl, op, hrp, hor, hb1⟩
  have hB1 := hB0.below hb1
  obtain ⟨x0, x1, x2, x3⟩ := hB1.cells
  clear hB0 hb1 CA o1 o2
  have stp := store_new 30 p .nilIface op w1
  have hal : Below w1.heap.size w1 (w1.alloc (.cells #[p] 30)) := (Below.refl _ _).alloc (Nat.le_refl _) _
  have hP := heap_alloc_new w1 (.cells #[p] 30)
  rcases hor with ⟨hp, rfl, rfl⟩ | ⟨hp, rfl, rfl⟩
  · have hB2 := hB1.below hal
    clear x0 x1 x2 x3
    obtain ⟨x0, x1, x2, x3⟩ := hB2.cells
    have HS1 : Hid (SB = (partB un && partB (vn + un) && partB (vm + um))) := by show _ = _; rw [HSB.out, hp]; simp
    have hvn := (partB_iff _).1 hp
    have HV : Hid ((-9007199254740992 ≤ vn ∧ vn ≤ 9007199254740992) ∧ (-9007199254740992 ≤ vm ∧ vm ≤ 9007199254740992) ∧ (-9007199254740992 ≤ um ∧ um ≤ 9007199254740992)) := ⟨hvn, n1, n2⟩
    clear HSB hp hvn n1 n2 hB1
    go_wp2_with fail
    refine (CB.out _).mono ?_
    rintro e w2 ⟨q, qe, xq, rfl, oq, hrq, hor, hb2⟩
    have hB3 := hB2.below hb2
    have hP2 := (hb2.block _ (by simp)).trans hP
    clear x0 x1 x2 x3 CB hP hal stp hB2 hb2
    have stq := store_new 30 q .nilIface oq w2
    have hal2 : Below w2.heap.size w2 (w2.alloc (.cells #[q] 30)) := (Below.refl _ _).alloc (Nat.le_refl _) _
    have hQ := heap_alloc_new w2 (.cells #[q] 30)
    have hlp := (Array.getElem?_eq_some_iff.1 hP2).1
    have hP3 := (hal2.block _ hlp).trans hP2
    have hB4 := hB3.below hal2
    obtain ⟨x0, x1, x2, x3⟩ := hB4.cells
    have cp := cell_of_row _ _ 0 _ _ _ hP3
    simp only [List.getElem?_cons_zero, List.getElem?_toArray] at cp
    rcases hor with ⟨hq, rfl, rfl⟩ | ⟨hq, rfl, rfl⟩
    · have HS2 : Hid (SB = (partB (vn + un) && partB (vm + um))) := by show _ = _; rw [HS1.out, hq]; simp
      have hun := (partB_iff _).1 hq
      have hwn : IntKind.i64.wrap (vn + un) = vn + un := IntWalk.i64_in _ (by have := HV.out; omega)
      have hwm : IntKind.i64.wrap (vm + um) = vm + um := IntWalk.i64_in _ (by have := HV.out; omega)
      have CGP : Hid (∀ W, Calls Try.prog 34 #[.agg #[p]] W fun e w' => e = .returned (.tuple #[.int .i64 vn, .int .i64 vm, .bool true]) ∧ Below W.heap.size W w') := fun W => gpoint_any hrp W
      have CGQ : Hid (∀ W, Calls Try.prog 34 #[.agg #[q]] W fun e w' => e = .returned (.tuple #[.int .i64 un, .int .i64 um, .bool true]) ∧ Below W.heap.size W w') := fun W => gpoint_any hrq W
      have CP : Hid (∀ W, Calls Try.prog 33 #[.int .i64 (vn + un), .int .i64 (vm + um)] W fun e w' => SumP SB (V.point (vn + un) (vm + um)) W e w') := fun W => by
        rw [HS2.out]
        cases p1 : partB (vn + un)
        · refine (pt_no _ _ W (Or.inl p1)).mono ?_
          rintro e w' ⟨rfl, h⟩
          exact ⟨_, 2, _, rfl, rfl, fun _ _ => Rep.null, Or.inr ⟨rfl, rfl, rfl⟩, h⟩
        · cases p2 : partB (vm + um)
          · refine (pt_no _ _ W (Or.inr ⟨p1, p2⟩)).mono ?_
            rintro e w' ⟨rfl, h⟩
            exact ⟨_, 2, _, rfl, rfl, fun _ _ => Rep.null, Or.inr ⟨rfl, rfl, rfl⟩, h⟩
          · have b1 := (partB_iff _).1 p1
            have b2 := (partB_iff _).1 p2
            refine (point_yes _ _ W b1 b2).mono ?_
            rintro e w' ⟨rfl, h⟩
            exact ⟨_, 0, _, rfl, rfl, fun _ _ => Rep.point _ _ b1 b2, Or.inl ⟨rfl, rfl, rfl⟩, h⟩
      clear HS1 HS2 hq hun HV hrp hrq op oq hP2 hB3
      go_wp2_with fail
      refine (CGP.out _).mono ?_
      rintro e w3 ⟨rfl, hb3⟩
      have hB5 := hB4.below hb3
      have hQ3 := (hb3.block _ (by simp)).trans hQ
      have cq := cell_of_row _ _ 0 _ _ _ hQ3
      simp only [List.getElem?_cons_zero, List.getElem?_toArray] at cq
      clear x0 x1 x2 x3 CGP hB4 hb3 cp hQ hQ3 hP3
      go_wp2_with fail
      refine (CGQ.out _).mono ?_
      rintro e w4 ⟨rfl, hb4⟩
      have hB6 := hB5.below hb4
      clear CGQ hB5 hb4 cq
      go_wp2_with fail
      refine (CP.out _).mono ?_
      rintro e w5 ⟨h', pe, x, rfl, ho, hR, hpt, hb5⟩
      have hB7 := hB6.below hb5
      obtain ⟨x0, x1, x2, x3⟩ := hB7.cells
      have st := store_old h' .nilIface ho w5 _ x2 x3
      obtain ⟨g1, g2⟩ := hB7.done h'
      clear CP hB6 hb5
      go_wp2_with fail
      exact bodyPost_ret (v := .tuple #[.agg #[h'], .int .i64 pe]) (by simp [results, Try.results58, go_sem, g1]) rfl ⟨h', pe, x, rfl, ho, hR, hpt, g2⟩
    · have st := store_old .nilIface .nilIface rfl (w2.alloc (.cells #[q] 30)) _ x2 x3
      obtain ⟨g1, g2⟩ := hB4.done .nilIface
      have HP : Hid (PtR SB 2 V.null (V.point (vn + un) (vm + um))) := Or.inr ⟨by rw [HS1.out, hq]; rfl, rfl, rfl⟩
      clear HS1 HV hP2 hP3 hQ hlp hB3 cp
      go_wp2_with fail
      exact bodyPost_ret (v := .tuple #[.agg #[.nilIface], .int .i64 2]) (by simp [results, Try.results58, go_sem, g1]) rfl ⟨_, 2, _, rfl, rfl, fun _ _ => Rep.null, HP.out, g2⟩
  · have hB2 := hB1.below hal
    clear x0 x1 x2 x3
    obtain ⟨x0, x1, x2, x3⟩ := hB2.cells
    have st := store_old .nilIface .nilIface rfl (w1.alloc (.cells #[p] 30)) _ x2 x3
    obtain ⟨g1, g2⟩ := hB2.done .nilIface
    have HP : Hid (PtR SB 2 V.null (V.point (vn + un) (vm + um))) := Or.inr ⟨by rw [HSB.out, hp]; simp, rfl, rfl⟩
    clear HSB n1 n2 hB1 CB hP
    go_wp2_with fail
    exact bodyPost_ret (v := .tuple #[.agg #[.nilIface], .int .i64 2]) (by simp [results, Try.results58, go_sem, g1]) rfl ⟨_, 2, _, rfl, rfl, fun _ _ => Rep.null, HP.out, g2⟩
set_option maxRecDepth 100000 in
set_option maxHeartbeats 3200000 in
theorem sum_any {w0 : World} {ok : Nat → Prop} {a b : Value} {v u : V} (ra : Rep w0 ok a v) (rb : Rep w0 ok b u) (hl : v.s.size + u.s.size ≤ 1048576) (w : World) :
    Calls Try.prog 29 #[.agg #[a], .agg #[b]] w fun e w' => ∃ h, e = .returned (.tuple #[.agg #[h], .int .i64 (v.sum u).2]) ∧ h.oneCell' = true ∧ (∀ W ok', Rep W ok' h (v.sum u).1) ∧ Below w.heap.size w w' := by
  have KA : Hid (∀ W, Calls Try.prog 27 #[.agg #[a]] W fun e w' => e = .returned (.int .i64 v.k) ∧ Below W.heap.size W w') := kind_any ra
  have KB : Hid (∀ W, Calls Try.prog 27 #[.agg #[b]] W fun e w' => e = .returned (.int .i64 u.k) ∧ Below W.heap.size W w') := kind_any rb
  have NA : Hid (∀ W, Calls Try.prog 57 #[.int .i64 v.k] W fun e w' => e = .returned (.bool (isNum v.k)) ∧ W = w') := isnum_any v.k
  have NB : Hid (∀ W, Calls Try.prog 57 #[.int .i64 u.k] W fun e w' => e = .returned (.bool (isNum u.k)) ∧ W = w') := isnum_any u.k
  have SI : Hid (v.k = 3 → u.k = 3 → ∀ W, Calls Try.prog 55 #[.agg #[a], .agg #[b]] W fun e w' => ∃ h, e = .returned (.tuple #[.agg #[h], .int .i64 (v.sum u).2]) ∧ h.oneCell' = true ∧ (∀ W ok', Rep W ok' h (v.sum u).1) ∧ Below W.heap.size W w') := fun h1 h2 W => (sumi_any ra rb h1 h2 W).mono (by
    rintro e w' ⟨h, pe, x, rfl, ho, hR, hp, hb⟩
    have e0 : v.sum u = (if inI (v.n + u.n) = true then (V.int (v.n + u.n), 0) else (V.null, 2)) := by simp [V.sum, h1, h2]
    rcases hp with ⟨hi, rfl, rfl⟩ | ⟨hi, rfl, rfl⟩
    · rw [if_pos hi] at e0; rw [e0]; exact ⟨h, rfl, ho, hR, hb⟩
    · rw [if_neg (by simp [hi])] at e0; rw [e0]; exact ⟨h, rfl, ho, hR, hb⟩)
  have SP : Hid (isNum v.k = true → isNum u.k = true → ¬ (v.k = 3 ∧ u.k = 3) → ∀ W, Calls Try.prog 58 #[.agg #[a], .agg #[b]] W fun e w' => ∃ h, e = .returned (.tuple #[.agg #[h], .int .i64 (v.sum u).2]) ∧ h.oneCell' = true ∧ (∀ W ok', Rep W ok' h (v.sum u).1) ∧ Below W.heap.size W w') := fun h1 h2 h3 W => (sump_any ra rb h1 h2 W).mono (by
    rintro e w' ⟨h, pe, x, rfl, ho, hR, hp, hb⟩
    have e0 : v.sum u = (if sumB v u = true then (V.point (v.n + u.n) (v.m + u.m), 0) else (V.null, 2)) := by
      have g1 : ¬ (v.k = 0 ∧ u.k = 0) := fun h => by rw [h.1] at h1; simp [isNum] at h1
      have g2 : ¬ (v.k = 5 ∧ u.k = 5) := fun h => by rw [h.1] at h1; simp [isNum] at h1
      unfold V.sum
      rw [if_neg g1, if_neg g2, if_neg h3, if_pos ⟨h1, h2⟩]
    rcases hp with ⟨hi, rfl, rfl⟩ | ⟨hi, rfl, rfl⟩
    · rw [if_pos hi] at e0; rw [e0]; exact ⟨h, rfl, ho, hR, hb⟩
    · rw [if_neg (by simp [hi])] at e0; rw [e0]; exact ⟨h, rfl, ho, hR, hb⟩)
  have ST : Hid (v.k = 5 → u.k = 5 → (v.sum u).2 = 0 ∧ ∀ W, Calls Try.prog 56 #[.agg #[a], .agg #[b]] W fun e w' => ∃ h, e = .returned (.agg #[h]) ∧ h.oneCell' = true ∧ (∀ W ok', Rep W ok' h (v.sum u).1) ∧ Below W.heap.size W w') := fun h1 h2 => by
    have e0 : v.sum u = (V.text (v.s ++ u.s), 0) := by simp [V.sum, h1, h2]
    rw [e0]
    exact ⟨rfl, sumt_any ra rb h1 h2 hl⟩
  have SZ : Hid (v.k = 0 → u.k = 0 → v.sum u = (V.null, 0)) := fun h1 h2 => by simp [V.sum, h1, h2]
  have SE : Hid (¬ (v.k = 0 ∧ u.k = 0) → ¬ (v.k = 3 ∧ u.k = 3) → ¬ (v.k = 5 ∧ u.k = 5) → ¬ (isNum v.k = true ∧ isNum u.k = true) → v.sum u = (V.null, 6)) := fun h1 h2 h3 h4 => by
    unfold V.sum
    rw [if_neg h1, if_neg h3, if_neg h2, if_neg h4]
  have o1 := ra.one
  have o2 := rb.one
  have hB0 := S3.start w a b
  have HN : Hid (∀ k, isNum k = true ↔ k = 3 ∨ k = 4) := fun k => by simp [isNum]
  clear ra rb hl
  generalize v.sum u = R at *
  generalize v.k = x at *
  generalize u.k = y at *
  go_enter Try.func29, Try.ntmps29
  go_wp2_with fail
  refine wp_region_held_drew (S := fun w' => S3 w w' a b) (by kernel_rfl) hB0.drew (fun hSS => ?_)
  refine wpAnyH_take (i := 0) (v := ?_) rfl (by kernel_rfl) (by kernel_rfl) (by kernel_rfl) (fun _ _ _ h => h) (Or.inl ⟨by rfl, ?_⟩) hSS ?_
  rotate_left
  · intro wz hSz
    obtain ⟨x0, x1, x2, x3⟩ := hSz.cells
    go_simp
    try with_reducible rfl
  simp only [List.getElem_toArray, List.getElem_cons_zero, Act.put, List.setIfInBounds_toArray, List.set_cons_zero, List.set_cons_succ]
  refine wpAnyH_take (i := 2) (v := ?_) rfl (by kernel_rfl) (by kernel_rfl) (by kernel_rfl) (fun _ _ _ h => h) (Or.inl ⟨by rfl, ?_⟩) hSS ?_
  rotate_left
  · intro wz hSz
    obtain ⟨x0, x1, x2, x3⟩ := hSz.cells
    go_simp
    try with_reducible rfl
  simp only [List.getElem_toArray, List.getElem_cons_zero, List.getElem_cons_succ, Act.put, List.setIfInBounds_toArray, List.set_cons_zero, List.set_cons_succ]
  refine wpAnyH_ready (rs := [1]) (by kernel_rfl) (by simp) (AllReadyH.cons rfl (fun K1 hK1 => ?_) AllReadyH.nil)
  refine step_plain (by rfl) ?_
  simp only [List.getElem_toArray, List.getElem_cons_zero, List.getElem_cons_succ]
  go_simp
  go_at_call 27
  refine (KA.out _).mono ?_
  rintro e w1 ⟨rfl, hbk⟩
  go_simp
  refine hK1.out _ _ (hSS.below hbk) (fun hSS => ?_)
  clear hbk hK1
  refine wpAnyH_ready (rs := [3]) (by kernel_rfl) (by simp) (AllReadyH.cons rfl (fun K2 hK2 => ?_) AllReadyH.nil)
  refine step_plain (by rfl) ?_
  simp only [List.getElem_toArray, List.getElem_cons_zero, List.getElem_cons_succ]
  go_simp
  go_at_call 27
  refine (KB.out _).mono ?_
  rintro e w2 ⟨rfl, hbk⟩
  go_simp
  refine hK2.out _ _ (hSS.below hbk) (fun hSS => ?_)
  clear hbk hK2
  refine wpAnyH_take (i := 4) (v := ?_) rfl (by kernel_rfl) (by kernel_rfl) (by kernel_rfl) (fun _ _ _ h => h) (Or.inl ⟨by rfl, ?_⟩) hSS ?_
  rotate_left
  · intro wz hSz
    go_simp
    try with_reducible rfl
  simp only [List.getElem_toArray, List.getElem_cons_zero, List.getElem_cons_succ, Act.put, List.setIfInBounds_toArray, List.set_cons_zero, List.set_cons_succ]
  refine wpAnyH_take (i := 5) (v := ?_) rfl (by kernel_rfl) (by kernel_rfl) (by kernel_rfl) (fun _ _ _ h => h) (Or.inl ⟨by rfl, ?_⟩) hSS ?_
  rotate_left
  · intro wz hSz
    go_simp
    try with_reducible rfl
  simp only [List.getElem_toArray, List.getElem_cons_zero, List.getElem_cons_succ, Act.put, List.setIfInBounds_toArray, List.set_cons_zero, List.set_cons_succ]
  refine wpAnyH_done (by kernel_rfl) ?_ _
  obtain ⟨x0, x1, x2, x3⟩ := hSS.cells
  clear KA KB hB0
  have n0 : isNum 0 = false := rfl
  have n3 : isNum 3 = true := rfl
  have n5 : isNum 5 = false := rfl
  by_cases h0 : x = 0
  · subst h0
    by_cases y0 : y = 0
    · subst y0
      have hR := SZ.out rfl rfl
      subst hR
      clear SI SP ST SZ SE
      go_wp2_with fail
      refine (unset_any _).mono ?_
      rintro e w3 ⟨rfl, hb3⟩
      have hB3 := hSS.below hb3
      clear x0 x1 x2 x3
      obtain ⟨x0, x1, x2, x3⟩ := hB3.cells
      have st := store_old .nilIface .nilIface rfl w3 _ x2 x3
      obtain ⟨g1, g2⟩ := hB3.done .nilIface
      go_wp2_with fail
      exact bodyPost_ret (v := .tuple #[.agg #[.nilIface], .int .i64 0]) (by simp [results, Try.results29, go_sem, g1]) rfl ⟨_, rfl, rfl, fun _ _ => Rep.null, g2⟩
    · have hR := SE.out (fun h => y0 h.2) (by omega) (by omega) (by simp [n0])
      subst hR
      clear SI SP ST SZ SE
      have st := store_old .nilIface .nilIface rfl w2 _ x2 x3
      obtain ⟨g1, g2⟩ := hSS.done .nilIface
      go_wp2_with fail
      refine (NA.out _).mono ?_
      rintro e wn ⟨rfl, rfl⟩
      go_wp2_with fail
      exact bodyPost_ret (v := .tuple #[.agg #[.nilIface], .int .i64 6]) (by simp [results, Try.results29, go_sem, g1]) rfl ⟨_, rfl, rfl, fun _ _ => Rep.null, g2⟩
  by_cases h3 : x = 3
  · subst h3
    by_cases y3 : y = 3
    · subst y3
      have HC := SI.out rfl rfl
      have HC2 : Hid (∀ W, Calls Try.prog 55 #[.agg #[a], .agg #[b]] W fun e w' => ∃ h, e = .returned (.tuple #[.agg #[h], .int .i64 R.2]) ∧ h.oneCell' = true ∧ (∀ W ok', Rep W ok' h R.1) ∧ Below W.heap.size W w') := HC
      clear HC SI SP ST SZ SE
      obtain ⟨R1, R2⟩ := R
      dsimp only at *
      go_wp2_with fail
      refine (HC2.out _).mono ?_
      rintro e w3 ⟨h, rfl, ho, hRep, hb3⟩
      have hB3 := hSS.below hb3
      clear x0 x1 x2 x3
      obtain ⟨x0, x1, x2, x3⟩ := hB3.cells
      have st := store_old h .nilIface ho w3 _ x2 x3
      obtain ⟨g1, g2⟩ := hB3.done h
      go_wp2_with fail
      exact bodyPost_ret (v := .tuple #[.agg #[h], .int .i64 R2]) (by simp [results, Try.results29, go_sem, g1]) rfl ⟨h, rfl, ho, hRep, g2⟩
    · by_cases ny : isNum y = true
      · have HC := SP.out rfl ny (fun h => y3 h.2)
        have HC2 : Hid (∀ W, Calls Try.prog 58 #[.agg #[a], .agg #[b]] W fun e w' => ∃ h, e = .returned (.tuple #[.agg #[h], .int .i64 R.2]) ∧ h.oneCell' = true ∧ (∀ W ok', Rep W ok' h R.1) ∧ Below W.heap.size W w') := HC
        clear HC SI SP ST SZ SE
        obtain ⟨R1, R2⟩ := R
        dsimp only at *
        go_wp2_with fail
        refine (NA.out _).mono ?_
        rintro e wn ⟨rfl, rfl⟩
        go_wp2_with fail
        refine (NB.out _).mono ?_
        rintro e wn ⟨rfl, rfl⟩
        go_wp2_with fail
        refine (HC2.out _).mono ?_
        rintro e w3 ⟨h, rfl, ho, hRep, hb3⟩
        have hB3 := hSS.below hb3
        clear x0 x1 x2 x3
        obtain ⟨x0, x1, x2, x3⟩ := hB3.cells
        have st := store_old h .nilIface ho w3 _ x2 x3
        obtain ⟨g1, g2⟩ := hB3.done h
        go_wp2_with fail
        exact bodyPost_ret (v := .tuple #[.agg #[h], .int .i64 R2]) (by simp [results, Try.results29, go_sem, g1]) rfl ⟨h, rfl, ho, hRep, g2⟩
      · replace ny : isNum y = false := by simpa using ny
        have hR := SE.out (by omega) (fun h => y3 h.2) (by omega) (by rw [ny]; simp)
        subst hR
        clear SI SP ST SZ SE
        have st := store_old .nilIface .nilIface rfl w2 _ x2 x3
        obtain ⟨g1, g2⟩ := hSS.done .nilIface
        go_wp2_with fail
        refine (NA.out _).mono ?_
        rintro e wn ⟨rfl, rfl⟩
        go_wp2_with fail
        refine (NB.out _).mono ?_
        rintro e wn ⟨rfl, rfl⟩
        go_wp2_with fail
        exact bodyPost_ret (v := .tuple #[.agg #[.nilIface], .int .i64 6]) (by simp [results, Try.results29, go_sem, g1]) rfl ⟨_, rfl, rfl, fun _ _ => Rep.null, g2⟩
  by_cases h5 : x = 5
  · subst h5
    by_cases y5 : y = 5
    · subst y5
      have HC := ST.out rfl rfl
      obtain ⟨hz, HC⟩ := HC
      have HC2 : Hid (∀ W, Calls Try.prog 56 #[.agg #[a], .agg #[b]] W fun e w' => ∃ h, e = .returned (.agg #[h]) ∧ h.oneCell' = true ∧ (∀ W ok', Rep W ok' h R.1) ∧ Below W.heap.size W w') := HC
      clear HC SI SP ST SZ SE
      obtain ⟨R1, R2⟩ := R
      dsimp only at *
      subst hz
      go_wp2_with fail
      refine (HC2.out _).mono ?_
      rintro e w3 ⟨h, rfl, ho, hRep, hb3⟩
      have hB3 := hSS.below hb3
      clear x0 x1 x2 x3
      obtain ⟨x0, x1, x2, x3⟩ := hB3.cells
      have st := store_old h .nilIface ho w3 _ x2 x3
      obtain ⟨g1, g2⟩ := hB3.done h
      go_wp2_with fail
      exact bodyPost_ret (v := .tuple #[.agg #[h], .int .i64 0]) (by simp [results, Try.results29, go_sem, g1]) rfl ⟨h, rfl, ho, hRep, g2⟩
    · have hR := SE.out (by omega) (by omega) (fun h => y5 h.2) (by simp [n5])
      subst hR
      clear SI SP ST SZ SE
      have st := store_old .nilIface .nilIface rfl w2 _ x2 x3
      obtain ⟨g1, g2⟩ := hSS.done .nilIface
      go_wp2_with fail
      refine (NA.out _).mono ?_
      rintro e wn ⟨rfl, rfl⟩
      go_wp2_with fail
      exact bodyPost_ret (v := .tuple #[.agg #[.nilIface], .int .i64 6]) (by simp [results, Try.results29, go_sem, g1]) rfl ⟨_, rfl, rfl, fun _ _ => Rep.null, g2⟩
  by_cases nx : isNum x = true
  · by_cases ny : isNum y = true
    · have HC := SP.out nx ny (fun h => h3 h.1)
      have HC2 : Hid (∀ W, Calls Try.prog 58 #[.agg #[a], .agg #[b]] W fun e w' => ∃ h, e = .returned (.tuple #[.agg #[h], .int .i64 R.2]) ∧ h.oneCell' = true ∧ (∀ W ok', Rep W ok' h R.1) ∧ Below W.heap.size W w') := HC
      clear HC SI SP ST SZ SE
      obtain ⟨R1, R2⟩ := R
      dsimp only at *
      go_wp2_with fail
      refine (NA.out _).mono ?_
      rintro e wn ⟨rfl, rfl⟩
      go_wp2_with fail
      refine (NB.out _).mono ?_
      rintro e wn ⟨rfl, rfl⟩
      go_wp2_with fail
      refine (HC2.out _).mono ?_
      rintro e w3 ⟨h, rfl, ho, hRep, hb3⟩
      have hB3 := hSS.below hb3
      clear x0 x1 x2 x3
      obtain ⟨x0, x1, x2, x3⟩ := hB3.cells
      have st := store_old h .nilIface ho w3 _ x2 x3
      obtain ⟨g1, g2⟩ := hB3.done h
      go_wp2_with fail
      exact bodyPost_ret (v := .tuple #[.agg #[h], .int .i64 R2]) (by simp [results, Try.results29, go_sem, g1]) rfl ⟨h, rfl, ho, hRep, g2⟩
    · replace ny : isNum y = false := by simpa using ny
      have hR := SE.out (fun h => h0 h.1) (fun h => h3 h.1) (fun h => h5 h.1) (by rw [ny]; simp)
      subst hR
      clear SI SP ST SZ SE
      have st := store_old .nilIface .nilIface rfl w2 _ x2 x3
      obtain ⟨g1, g2⟩ := hSS.done .nilIface
      go_wp2_with fail
      refine (NA.out _).mono ?_
      rintro e wn ⟨rfl, rfl⟩
      go_wp2_with fail
      refine (NB.out _).mono ?_
      rintro e wn ⟨rfl, rfl⟩
      go_wp2_with fail
      exact bodyPost_ret (v := .tuple #[.agg #[.nilIface], .int .i64 6]) (by simp [results, Try.results29, go_sem, g1]) rfl ⟨_, rfl, rfl, fun _ _ => Rep.null, g2⟩
  · replace nx : isNum x = false := by simpa using nx
    have hR := SE.out (fun h => h0 h.1) (fun h => h3 h.1) (fun h => h5 h.1) (by rw [nx]; simp)
    subst hR
    clear SI SP ST SZ SE
    have st := store_old .nilIface .nilIface rfl w2 _ x2 x3
    obtain ⟨g1, g2⟩ := hSS.done .nilIface
    go_wp2_with fail
    refine (NA.out _).mono ?_
    rintro e wn ⟨rfl, rfl⟩
    go_wp2_with fail
    exact bodyPost_ret (v := .tuple #[.agg #[.nilIface], .int .i64 6]) (by simp [results, Try.results29, go_sem, g1]) rfl ⟨_, rfl, rfl, fun _ _ => Rep.null, g2⟩
end Go.Proofs.Ytindmbedolokaaa
