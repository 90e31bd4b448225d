/- What the document's Clean has in memory while it runs. Condition: a value of at most 1048576 values and letters. -/
import Derived.Test.YtigdcnoggjcddaaVOwn
import Derived.Test.YtigdcnoggjcddaaVItems
import Derived.Test.YtigdcnoggjcddaaVGo
import Derived.Test.YtigdcnoggjcddaaVCleanR
import Derived.Deep.RegionHeld
import Derived.Deep.RegionLaw
import Derived.Deep.CutRange
namespace Go.Proofs.Ytigdcnoggjcddaa
open Go.RowKit

/-- A key's place; -1: it isn't there. -/
def V.find (v : V) (key : ByteArray) : Int := if v.hasK key = true then (posK v.keys key : Int) else -1
set_option maxRecDepth 100000 in
theorem find_hit {q : List ByteArray} {key : ByteArray} {j : Nat} (hj : j < q.length) (h : q[j] = key) (hb : ∀ i (hi : i < q.length), i < j → q[i] ≠ key) : posK q key = j := by
  have hm : key ∈ q := by rw [← h]; exact List.getElem_mem hj
  rcases Nat.lt_trichotomy (posK q key) j with h1 | h1 | h1
  · exact absurd (posK_at hm) (hb _ (posK_lt hm) h1)
  · exact h1
  · have := List.not_of_lt_findIdx (p := fun x => decide (x = key)) (xs := q) h1
    simp [h] at this
set_option maxRecDepth 100000 in
theorem toList_ne {a b : ByteArray} (h : a ≠ b) : (a.toList == b.toList) = false := by
  rw [beq_eq_false_iff_ne, ByteArray.toList_eq, ByteArray.toList_eq]
  exact fun e => h (Go.WideShapes.bytes_inj e)
set_option maxRecDepth 100000 in
set_option maxHeartbeats 1600000 in
theorem vfind_any {w0 : World} {ok : Nat → Prop} {v : V} {p : VP} (h : VIn w0 ok v p) (w : World) (hb0 : Below w0.heap.size w0 w) (hbk : v.bulk ≤ 1048576) (hcl : v.cl) (key : ByteArray) :
    Calls Try.prog 22 #[v.val p, .string key] w fun e w' => e = .returned (.int .i64 (v.find key)) ∧ Below w.heap.size w w' := by
  induction h using VIn.ind with
  | mk k b n m s l q p P hk hn hm hs hl hq hkeys hc hin _ =>
    obtain ⟨la, lc, ka, kc⟩ := p
    have hll : l.length ≤ 1048576 := by have := len_le_bulkL l; simp only [V.bulk] at hbk; omega
    have hql : q.length ≤ 1048576 := by have := keys_len q; simp only [V.bulk] at hbk; omega
    have HB : Hid (∀ wr, Below (w.heap.size + 1) (w.alloc ((V.mk k b n m s l q).box ⟨la, lc, ka, kc⟩)) wr → wr.cell? ⟨w.heap.size, 5, none⟩ = some (.slice la l.length lc) ∧ wr.cell? ⟨w.heap.size, 0, none⟩ = some (.int .i64 k) ∧ wr.cell? ⟨w.heap.size, 6, none⟩ = some (.slice ka q.length kc)) := fun wr hb => ⟨vbox_cell hb 5, vbox_cell hb 0, vbox_cell hb 6⟩
    have hcl2 : (k ≠ 7 → q = []) ∧ (k = 7 → q.length = l.length) := by
      simp only [V.cl] at hcl
      exact ⟨hcl.2.2.2.2.2.2.1, fun h => (hcl.2.2.2.2.2.2.2.1 h).1⟩
    obtain ⟨hq0, hq7⟩ := hcl2
    have hbx := below_box (Below.refl (w.heap.size + 1) (w.alloc ((V.mk k b n m s l q).box ⟨la, lc, ka, kc⟩)))
    by_cases h7 : k = 7
    · have HK : Hid (∀ (W : World) (j : Nat), Below w0.heap.size w0 W → j < l.length → ∃ kb ko, ka = some ⟨kb, ko, none⟩ ∧ ∃ hj : j < q.length, W.cell? ⟨kb, ko + j, none⟩ = some (.string q[j])) := fun W j hW hj => by
        obtain ⟨kb, ko, rfl, -, hcc⟩ := (hkeys.below hW).2 (by intro e; subst e; have := hq7 h7; simp at this; omega)
        exact ⟨kb, ko, rfl, by have := hq7 h7; omega, hcc j (by have := hq7 h7; omega)⟩
      have HF : Hid ((V.mk k b n m s l q).find key = if posK q key < q.length then (posK q key : Int) else -1) := by
        show V.find _ _ = _
        simp only [V.find, V.hasK, decide_eq_true_eq]
      have HL : Hid (q.length = l.length) := hq7 h7
      subst h7
      clear hk hn hm hs hl hq hkeys hin hbk hcl hq0 hq7 hc
      generalize (V.mk 7 b n m s l q).find key = R at *
      unfold V.val
      unfold V.box at HB hbx
      dsimp only [V.k, V.b, V.n, V.m, V.s, V.l, V.keys] at *
      go_enter Try.func22, Try.ntmps22
      go_wp2_with fail
      go_loopw [5] (fun si wr => ∃ (j : Nat), j ≤ l.length ∧ si = .int .i64 j ∧ Hid (∀ i (hi : i < q.length), i < j → q[i] ≠ key) ∧ w.alloc (.cells #[.int .i64 7, .bool b, .int .i64 n, .int .i64 m, .string s, .slice la l.length lc, .slice ka q.length kc] 25) = wr) (fun si _ => l.length - (intOf si).toNat)
      case atStart => exact ⟨0, by omega, rfl, fun i hi h => by omega, rfl⟩
      case round =>
        obtain ⟨j, hj, rfl, hA, rfl⟩ := hrel
        by_cases hlt : j < l.length
        · obtain ⟨kb, ko, rfl, hqj, hkc⟩ := HK.out _ j (hb0.trans (hbx.mono hb0.size)) hlt
          have hqj' : (j : Int) < (q.length : Int) := by omega
          by_cases he : q[j] = key
          · have HR : Hid (R = (j : Int)) := by
              show _ = _
              rw [HF.out, find_hit hqj he hA.out, if_pos hqj]
            rw [he] at hkc
            clear HK HB HF hA he hb0
            go_wp2_with fail
            go_ret
            exact ⟨ret_int HR.out.symm, hbx⟩
          · have hA2 : Hid (∀ i (hi : i < q.length), i < j + 1 → q[i] ≠ key) := fun i hi hlt => by
              rcases Nat.lt_or_ge i j with h1 | h1
              · exact hA.out i hi h1
              · obtain rfl : i = j := by omega
                exact he
            generalize q[j] = y at *
            have he2 : (y.toList == key.toList) = false := toList_ne he
            clear HK HB HF hA hb0
            go_wp2_with fail
            go_roundw
            case rel => exact ⟨j + 1, by omega, by go_num, hA2, trivial⟩
            case measure => simp [intOf]; omega
        · have HR : Hid (R = -1) := by
            show _ = _
            rw [HF.out, if_neg]
            intro h
            have hz := of_decide_eq_true (List.findIdx_getElem (xs := q) (p := fun x => decide (x = key)) (w := h))
            exact hA.out _ h (by have := HL.out; show List.findIdx _ _ < _; unfold posK at h; omega) hz
          clear HK HB HF hA hb0
          go_wp2_with fail
          go_ret
          exact ⟨ret_int HR.out.symm, hbx⟩
    · have HR : Hid ((V.mk k b n m s l q).find key = -1) := by
        show V.find _ _ = _
        simp [V.find, V.hasK, hq0 h7, posK]
      have h7' : (k == 7) = false := by simpa using h7
      clear hk hn hm hs hl hq hkeys hin hbk hcl hq0 hq7 hc
      generalize (V.mk k b n m s l q).find key = R at *
      unfold V.val
      unfold V.box at HB hbx
      dsimp only [V.k, V.b, V.n, V.m, V.s, V.l, V.keys] at *
      by_cases hl0 : 0 < l.length
      · go_enter Try.func22, Try.ntmps22
        go_wp2_with fail
        refine wp_loop_rounds 1 ?_
        rw [rounds_succ]
        go_wp2_with fail
        go_ret
        exact ⟨ret_int HR.out.symm, hbx⟩
      · go_enter Try.func22, Try.ntmps22
        go_wp2_with fail
        refine wp_loop_rounds 1 ?_
        rw [rounds_succ]
        go_wp2_with fail
        go_ret
        exact ⟨ret_int HR.out.symm, hbx⟩
end Go.Proofs.Ytigdcnoggjcddaa

namespace Go.Proofs.Ytigdcnoggjcddaa
open Go.RowKit

/-- The place where a step leads; 0: nowhere. -/
def V.placeK (v : V) (s : St) : Int := if (v.follow s).2 ≠ 0 then 0 else if s.byKey = true then (posK v.keys s.key : Int) else s.at_
set_option maxRecDepth 100000 in
theorem placeK_err {v : V} {s : St} {e : Int} (h : v.follow s = (V.null, e)) (he : e ≠ 0) : v.placeK s = 0 ∧ (v.follow s).2 = e := by
  unfold V.placeK; rw [h]; simp [he]
set_option maxRecDepth 100000 in
theorem empty_keys {s : St} (h : s.byKey = false) : s.key.toList = [] ∧ 0 ≤ s.at_ := by
  unfold St.byKey at h
  rw [Bool.or_eq_false_iff] at h
  have h1 : s.key.toList.isEmpty = true := by simpa using h.1
  have h2 := of_decide_eq_false h.2
  exact ⟨List.isEmpty_iff.1 h1, by omega⟩
set_option maxRecDepth 100000 in
theorem full_keys {s : St} (h : s.byKey = true) : ¬ s.key.toList = [] ∨ (s.key.toList = [] ∧ s.at_ < 0) := by
  by_cases h1 : s.key.toList = []
  · refine Or.inr ⟨h1, ?_⟩
    unfold St.byKey at h
    rw [h1] at h
    simpa using h
  · exact Or.inl h1
set_option maxRecDepth 100000 in
set_option maxHeartbeats 1000000 in
theorem place_any {w0 : World} {ok : Nat → Prop} {v : V} {p : VP} (h : VIn w0 ok v p) (w : World) (hb0 : Below w0.heap.size w0 w) (hbk : v.bulk ≤ 1048576) (hcl : v.cl) (s : St) :
    Calls Try.prog 52 #[v.val p, .agg #[.string s.key, .int .i64 s.at_]] w fun e w' => e = .returned (.tuple #[.int .i64 (v.placeK s), .int .i64 (v.follow s).2]) ∧ Below w.heap.size w w' := by
  have CF : Hid (∀ W, Below w.heap.size w W → Calls Try.prog 22 #[v.val p, .string s.key] W fun e w' => e = .returned (.int .i64 (v.find s.key)) ∧ Below W.heap.size W w') := fun W hW => vfind_any h W (hb0.trans (hW.mono hb0.size)) hbk hcl s.key
  have hll : v.l.length ≤ 1048576 := by
    obtain ⟨k, b, n, m, t, l, q⟩ := v
    have := len_le_bulkL l; simp only [V.bulk] at hbk; simp only; omega
  have hI : I64 v.k := by
    cases h using VIn.ind with
    | mk k b n m s l q p P hk hn hm hs hl hq hkeys hc hin ih => exact hk
  obtain ⟨k, b, n, m, t, l, q⟩ := v
  obtain ⟨la, lc, ka, kc⟩ := p
  have hbel : Below w.heap.size w ((w.alloc (V.box ⟨k, b, n, m, t, l, q⟩ ⟨la, lc, ka, kc⟩)).alloc (.cells #[.string s.key, .int .i64 s.at_] 43)) := ((Below.refl _ _).alloc (Nat.le_refl _) _).alloc (by simp) _
  have hx0 : ((w.alloc (V.box ⟨k, b, n, m, t, l, q⟩ ⟨la, lc, ka, kc⟩)).alloc (.cells #[.string s.key, .int .i64 s.at_] 43)).heap[w.heap.size]? = some (V.box ⟨k, b, n, m, t, l, q⟩ ⟨la, lc, ka, kc⟩) := by rw [Below.heap_alloc _ _ _ (by simp)]; exact heap_alloc_new _ _
  have hx1 : ((w.alloc (V.box ⟨k, b, n, m, t, l, q⟩ ⟨la, lc, ka, kc⟩)).alloc (.cells #[.string s.key, .int .i64 s.at_] 43)).heap[w.heap.size + 1]? = some (.cells #[.string s.key, .int .i64 s.at_] 43 (0, 0)) := by simpa using heap_alloc_new (w.alloc (V.box ⟨k, b, n, m, t, l, q⟩ ⟨la, lc, ka, kc⟩)) (.cells #[.string s.key, .int .i64 s.at_] 43)
  unfold V.box at hx0
  try dsimp only at *
  have k0 := cell_of_row _ _ 0 _ _ _ hx0
  have k1 := cell_of_row _ _ 1 _ _ _ hx0
  have k2 := cell_of_row _ _ 2 _ _ _ hx0
  have k3 := cell_of_row _ _ 3 _ _ _ hx0
  have k4 := cell_of_row _ _ 4 _ _ _ hx0
  have k5 := cell_of_row _ _ 5 _ _ _ hx0
  have k6 := cell_of_row _ _ 6 _ _ _ hx0
  have s0 := cell_of_row _ _ 0 _ _ _ hx1
  have s1 := cell_of_row _ _ 1 _ _ _ hx1
  simp only [List.getElem?_toArray, List.getElem?_cons_zero, List.getElem?_cons_succ] at k0 k1 k2 k3 k4 k5 k6 s0 s1
  cases hb : s.byKey
  · obtain ⟨hk1, hk2⟩ := empty_keys hb
    by_cases h6 : k = 6
    · subst h6
      by_cases hlt : s.at_ < l.length
      · have e1 : ((V.mk 6 b n m t l q).follow s).2 = 0 := by unfold V.follow; rw [if_neg (by rw [hb]; simp), if_pos rfl, if_pos hlt]
        have e2 : (V.mk 6 b n m t l q).placeK s = s.at_ := by unfold V.placeK; rw [if_neg (by rw [e1]; simp), if_neg (by rw [hb]; simp)]
        have hP : Hid ((V.mk 6 b n m t l q).placeK s = s.at_) := e2
        have hF : Hid (((V.mk 6 b n m t l q).follow s).2 = 0) := e1
        clear CF hb0 hbk hcl h hI hx0 hx1 e1 e2 hb
        generalize (V.mk 6 b n m t l q).placeK s = PK at *
        generalize ((V.mk 6 b n m t l q).follow s).2 = FE at *
        unfold V.val
        unfold V.box at *
        try dsimp only at *
        go_enter Try.func52, Try.ntmps52
        go_wp2_with fail
        go_ret2
        exact ⟨by rw [hP.out, hF.out]; rfl, ((Below.refl _ _).alloc (Nat.le_refl _) _).alloc (by simp) _⟩
      · have e0 : (V.mk 6 b n m t l q).follow s = (V.null, 2) := by unfold V.follow; rw [if_neg (by rw [hb]; simp), if_pos rfl, if_neg hlt]
        obtain ⟨e2, e1⟩ := placeK_err e0 (by decide)
        have hP : Hid ((V.mk 6 b n m t l q).placeK s = 0) := e2
        have hF : Hid (((V.mk 6 b n m t l q).follow s).2 = 2) := e1
        clear CF hb0 hbk hcl h hI hx0 hx1 e0 e1 e2 hb
        generalize (V.mk 6 b n m t l q).placeK s = PK at *
        generalize ((V.mk 6 b n m t l q).follow s).2 = FE at *
        unfold V.val
        unfold V.box at *
        try dsimp only at *
        go_enter Try.func52, Try.ntmps52
        go_wp2_with fail
        go_ret2
        exact ⟨by rw [hP.out, hF.out]; rfl, ((Below.refl _ _).alloc (Nat.le_refl _) _).alloc (by simp) _⟩
    · have e0 : (V.mk k b n m t l q).follow s = (V.null, 6) := by unfold V.follow; rw [if_neg (by rw [hb]; simp), if_neg h6]
      obtain ⟨e2, e1⟩ := placeK_err e0 (by decide)
      have h6' : (k == 6) = false := by simpa using h6
      have hP : Hid ((V.mk k b n m t l q).placeK s = 0) := e2
      have hF : Hid (((V.mk k b n m t l q).follow s).2 = 6) := e1
      clear CF hb0 hbk hcl h hI hx0 hx1 e0 e1 e2 hb h6
      generalize (V.mk k b n m t l q).placeK s = PK at *
      generalize ((V.mk k b n m t l q).follow s).2 = FE at *
      unfold V.val
      unfold V.box at *
      try dsimp only at *
      go_enter Try.func52, Try.ntmps52
      go_wp2_with fail
      go_ret2
      exact ⟨by rw [hP.out, hF.out]; rfl, ((Below.refl _ _).alloc (Nat.le_refl _) _).alloc (by simp) _⟩
  · by_cases h7 : k = 7
    · subst h7
      have HP : Hid ((V.mk 7 b n m t l q).placeK s = if 0 ≤ (V.mk 7 b n m t l q).find s.key then (V.mk 7 b n m t l q).find s.key else 0) := by
        show _ = _
        unfold V.placeK V.follow V.find
        rw [if_pos hb, if_pos rfl]
        by_cases hh : (V.mk 7 b n m t l q).hasK s.key = true
        · rw [if_pos hh, if_pos hh, if_neg (by simp), if_pos hb, if_pos (by omega)]
        · rw [if_neg hh, if_neg hh, if_pos (by simp), if_neg (by omega)]
      have HF : Hid (((V.mk 7 b n m t l q).follow s).2 = if 0 ≤ (V.mk 7 b n m t l q).find s.key then 0 else 8) := by
        show _ = _
        unfold V.follow V.find
        rw [if_pos hb, if_pos rfl]
        by_cases hh : (V.mk 7 b n m t l q).hasK s.key = true
        · rw [if_pos hh, if_pos hh, if_pos (by omega)]
        · rw [if_neg hh, if_neg hh, if_neg (by omega)]
      have C := CF.out _ hbel
      have hn := full_keys hb
      clear CF hb0 hbk hcl h hI hx0 hx1 hb
      generalize (V.mk 7 b n m t l q).placeK s = PK at *
      generalize ((V.mk 7 b n m t l q).follow s).2 = FE at *
      generalize (V.mk 7 b n m t l q).find s.key = FK at *
      unfold V.val at C ⊢
      unfold V.box at *
      try dsimp only at *
      rcases hn with hn | ⟨hn, hn2⟩
      all_goals
        go_enter Try.func52, Try.ntmps52
        go_wp2_with fail
        refine C.mono ?_
        rintro e w2 ⟨rfl, hb2⟩
        have hB2 := hbel.trans (hb2.mono hbel.size)
        clear C
        by_cases hneg : 0 ≤ FK
        · have hneg2 : ¬ FK < 0 := by omega
          have hP : Hid (PK = FK) := by show _ = _; rw [HP.out, if_pos hneg]
          have hF : Hid (FE = 0) := by show _ = _; rw [HF.out, if_pos hneg]
          clear HP HF
          go_wp2_with fail
          go_ret2
          exact ⟨by rw [hP.out, hF.out]; rfl, hB2⟩
        · have hneg2 : FK < 0 := by omega
          have hP : Hid (PK = 0) := by show _ = _; rw [HP.out, if_neg hneg]
          have hF : Hid (FE = 8) := by show _ = _; rw [HF.out, if_neg hneg]
          clear HP HF
          go_wp2_with fail
          go_ret2
          exact ⟨by rw [hP.out, hF.out]; rfl, hB2⟩
    · have e0 : (V.mk k b n m t l q).follow s = (V.null, 6) := by unfold V.follow; rw [if_pos hb, if_neg h7]
      obtain ⟨e2, e1⟩ := placeK_err e0 (by decide)
      have h7' : (k == 7) = false := by simpa using h7
      have hn := full_keys hb
      rcases hn with hn | ⟨hn, hn2⟩
      · have hP : Hid ((V.mk k b n m t l q).placeK s = 0) := e2
        have hF : Hid (((V.mk k b n m t l q).follow s).2 = 6) := e1
        clear CF hb0 hbk hcl h hI hx0 hx1 e0 e1 e2 hb h7
        generalize (V.mk k b n m t l q).placeK s = PK at *
        generalize ((V.mk k b n m t l q).follow s).2 = FE at *
        unfold V.val
        unfold V.box at *
        try dsimp only at *
        go_enter Try.func52, Try.ntmps52
        go_wp2_with fail
        go_ret2
        exact ⟨by rw [hP.out, hF.out]; rfl, ((Below.refl _ _).alloc (Nat.le_refl _) _).alloc (by simp) _⟩
      · have hP : Hid ((V.mk k b n m t l q).placeK s = 0) := e2
        have hF : Hid (((V.mk k b n m t l q).follow s).2 = 6) := e1
        clear CF hb0 hbk hcl h hI hx0 hx1 e0 e1 e2 hb h7
        generalize (V.mk k b n m t l q).placeK s = PK at *
        generalize ((V.mk k b n m t l q).follow s).2 = FE at *
        unfold V.val
        unfold V.box at *
        try dsimp only at *
        go_enter Try.func52, Try.ntmps52
        go_wp2_with fail
        go_ret2
        exact ⟨by rw [hP.out, hF.out]; rfl, ((Below.refl _ _).alloc (Nat.le_refl _) _).alloc (by simp) _⟩
end Go.Proofs.Ytigdcnoggjcddaa

namespace Go.Proofs.Ytigdcnoggjcddaa
open Go.RowKit Go.Maps Go.WideMaps

/-- Clean's own blocks: the value, the answer. -/
def BC (w W : World) (v : V) (p : VP) : Prop :=
  W.heap[w.heap.size]? = some (.cells #[.int .i64 v.k, .bool v.b, .int .i64 v.n, .int .i64 v.m, .string v.s, .slice p.la v.l.length p.lc, .slice p.ka v.keys.length p.kc] 25 (0, 0)) ∧ W.heap[w.heap.size + 1]? = some (.cells #[.int .i64 0, .bool false, .int .i64 0, .int .i64 0, .string ByteArray.empty, .slice none 0 0, .slice none 0 0] 25 (0, 0)) ∧ Below w.heap.size w W
set_option maxRecDepth 100000 in
theorem BC.start (w : World) (v : V) (p : VP) : BC w ((w.alloc (.cells #[.int .i64 v.k, .bool v.b, .int .i64 v.n, .int .i64 v.m, .string v.s, .slice p.la v.l.length p.lc, .slice p.ka v.keys.length p.kc] 25)).alloc (.cells #[.int .i64 0, .bool false, .int .i64 0, .int .i64 0, .string ByteArray.empty, .slice none 0 0, .slice none 0 0] 25)) v p := by
  refine ⟨?_, ?_, ((Below.refl _ _).alloc (Nat.le_refl _) _).alloc (by simp) _⟩
  · rw [Below.heap_alloc _ _ _ (by simp)]; exact heap_alloc_new _ _
  · simpa using heap_alloc_new (w.alloc (.cells #[.int .i64 v.k, .bool v.b, .int .i64 v.n, .int .i64 v.m, .string v.s, .slice p.la v.l.length p.lc, .slice p.ka v.keys.length p.kc] 25)) (.cells #[.int .i64 0, .bool false, .int .i64 0, .int .i64 0, .string ByteArray.empty, .slice none 0 0, .slice none 0 0] 25)
set_option maxRecDepth 100000 in
theorem BC.lt {w W : World} {v : V} {p : VP} (hB : BC w W v p) : w.heap.size + 1 < W.heap.size := (Array.getElem?_eq_some_iff.1 hB.2.1).1
set_option maxRecDepth 100000 in
theorem BC.below {w W W' : World} {v : V} {p : VP} (hB : BC w W v p) (hb : Below W.heap.size W W') : BC w W' v p := by
  have l := hB.lt
  obtain ⟨a, b, d⟩ := hB
  exact ⟨(hb.block _ (by omega)).trans a, (hb.block _ l).trans b, d.trans (hb.mono (by omega))⟩
set_option maxRecDepth 100000 in
theorem BC.set {w W : World} {v : V} {p : VP} (hB : BC w W v p) {i k : Nat} (hk : w.heap.size + 2 ≤ k) (u : Value) : BC w (W.setCell ⟨k, i, none⟩ u) v p := by
  obtain ⟨a, b, d⟩ := hB
  exact ⟨(heap_setCell_other _ _ _ _ (by simp; omega)).trans a, (heap_setCell_other _ _ _ _ (by simp; omega)).trans b, d.setCell (by simp; omega) _⟩
set_option maxRecDepth 100000 in
theorem BC.grown {w W W' : World} {v : V} {p : VP} (hB : BC w W v p) {row : Option Nat} (hg : W.grownBy W' row) (hr : ∀ k, row = some k → w.heap.size + 2 ≤ k) : BC w W' v p := by
  have l := hB.lt
  obtain ⟨a, b, d⟩ := hB
  exact ⟨(hg.block _ (by omega) (fun e => by have := hr _ e.symm; omega)).trans a, (hg.block _ l (fun e => by have := hr _ e.symm; omega)).trans b, d.grown hg (by omega) (fun k hk => by have := hr k hk; omega)⟩
set_option maxRecDepth 100000 in
theorem BC.cells {w W : World} {v : V} {p : VP} (hB : BC w W v p) (i : Nat) : W.cell? ⟨w.heap.size, i, none⟩ = (v.cells p)[i]? := by
  rw [cell_of_row _ _ _ _ _ _ hB.1]; simp [V.cells]
set_option maxRecDepth 100000 in
theorem VIn.plain (w : World) (ok : Nat → Prop) (k : Int) (b : Bool) (n m : Int) (s : ByteArray) (hk : I64 k) (hn : I64 n) (hm : I64 m) (hs : s.size ≤ maxLen) : VIn w ok (.mk k b n m s [] []) ⟨none, 0, none, 0⟩ :=
  VIn.mk k b n m s [] [] _ (fun _ => ⟨none, 0, none, 0⟩) hk hn hm hs ⟨fun _ => ⟨rfl, rfl⟩, Nat.le_refl _, by simp [maxLen]⟩ ⟨fun _ => ⟨rfl, rfl⟩, Nat.le_refl _, by simp [maxLen]⟩ (SRow.nil _ _ _) (fun h => absurd rfl h) (fun j hj => by simp at hj)
set_option maxRecDepth 100000 in
theorem new_cells (W : World) (v : V) (p : VP) : ∀ j u, (v.cells p)[j]? = some u → (W.alloc (.cells #[.int .i64 v.k, .bool v.b, .int .i64 v.n, .int .i64 v.m, .string v.s, .slice p.la v.l.length p.lc, .slice p.ka v.keys.length p.kc] 25)).cell? ((⟨W.heap.size, 0, none⟩ : Addr).add j) = some u := by
  intro j u h
  rw [Addr.add_lit, cell_of_row _ _ _ _ _ _ (heap_alloc_new W _)]
  simpa [V.cells] using h
set_option maxRecDepth 100000 in
theorem set7 {w W : World} {v : V} {p : VP} (hB : BC w W v p) (u0 u1 u2 u3 u4 u5 u6 : Value) {x : V} {xp : VP} (hv : VIn W (fun b => w.heap.size + 3 ≤ b) x xp) :
    (((((((W.setCell ⟨w.heap.size + 1, 0, none⟩ u0).setCell ⟨w.heap.size + 1, 1, none⟩ u1).setCell ⟨w.heap.size + 1, 2, none⟩ u2).setCell ⟨w.heap.size + 1, 3, none⟩ u3).setCell ⟨w.heap.size + 1, 4, none⟩ u4).setCell ⟨w.heap.size + 1, 5, none⟩ u5).setCell ⟨w.heap.size + 1, 6, none⟩ u6).heap[w.heap.size + 1]? = some (.cells #[u0, u1, u2, u3, u4, u5, u6] 25 (0, 0)) ∧ Below w.heap.size w (((((((W.setCell ⟨w.heap.size + 1, 0, none⟩ u0).setCell ⟨w.heap.size + 1, 1, none⟩ u1).setCell ⟨w.heap.size + 1, 2, none⟩ u2).setCell ⟨w.heap.size + 1, 3, none⟩ u3).setCell ⟨w.heap.size + 1, 4, none⟩ u4).setCell ⟨w.heap.size + 1, 5, none⟩ u5).setCell ⟨w.heap.size + 1, 6, none⟩ u6) ∧ VIn (((((((W.setCell ⟨w.heap.size + 1, 0, none⟩ u0).setCell ⟨w.heap.size + 1, 1, none⟩ u1).setCell ⟨w.heap.size + 1, 2, none⟩ u2).setCell ⟨w.heap.size + 1, 3, none⟩ u3).setCell ⟨w.heap.size + 1, 4, none⟩ u4).setCell ⟨w.heap.size + 1, 5, none⟩ u5).setCell ⟨w.heap.size + 1, 6, none⟩ u6) (fun b => w.heap.size ≤ b) x xp := by
  refine ⟨?_, ?_, ?_⟩
  · exact heap_setCell_same _ _ 6 _ _ _ (heap_setCell_same _ _ 5 _ _ _ (heap_setCell_same _ _ 4 _ _ _ (heap_setCell_same _ _ 3 _ _ _ (heap_setCell_same _ _ 2 _ _ _ (heap_setCell_same _ _ 1 _ _ _ (heap_setCell_same _ _ 0 _ _ _ hB.2.1))))))
  · exact ((((((hB.2.2.setCell (by simp) _).setCell (by simp) _).setCell (by simp) _).setCell (by simp) _).setCell (by simp) _).setCell (by simp) _).setCell (by simp) _
  · exact (((((((hv.agree (Agree.setCell u0 (by omega))).agree (Agree.setCell u1 (by omega))).agree (Agree.setCell u2 (by omega))).agree (Agree.setCell u3 (by omega))).agree (Agree.setCell u4 (by omega))).agree (Agree.setCell u5 (by omega))).agree (Agree.setCell u6 (by omega))).mono (fun b hb _ => by omega)
set_option maxRecDepth 100000 in
theorem i64_0 : I64 0 := by unfold I64; omega
set_option maxRecDepth 100000 in
theorem empty_max : ByteArray.empty.size ≤ maxLen := by simp [maxLen]
end Go.Proofs.Ytigdcnoggjcddaa

