/- What the document's Same answers of two clean values: whether they are the same. Condition: values of at most 1048576 values and letters. -/
import Derived.Test.YtindmbedolokaaaVInsB
import Derived.Deep.CutRange
namespace Go.Proofs.Ytindmbedolokaaa
open Go.RowKit Go.Maps Go.WideMaps

set_option maxRecDepth 100000 in
theorem cl_keys {k : Int} {b : Bool} {n m : Int} {s : ByteArray} {l : List V} {q : List ByteArray} (h : (V.mk k b n m s l q).cl) (hk : k ≠ 7) : q = [] := by
  simp only [V.cl] at h
  first | exact h.2.2.2.2.2.2.1 hk | exact (h.2.2.2.2.2.2.2.1 hk)
set_option maxRecDepth 100000 in
theorem cl_item {k : Int} {b : Bool} {n m : Int} {s : ByteArray} {l : List V} {q : List ByteArray} (h : (V.mk k b n m s l q).cl) {z : V} (hz : z ∈ l) : z.cl := by
  simp only [V.cl] at h
  exact clL_mem h.2.2.2.2.2.2.2.2.2 hz
set_option maxRecDepth 100000 in
theorem cl_klen {k : Int} {b : Bool} {n m : Int} {s : ByteArray} {l : List V} {q : List ByteArray} (h : (V.mk k b n m s l q).cl) (hk : k = 7) : q.length = l.length := by
  simp only [V.cl] at h
  exact (h.2.2.2.2.2.2.2.1 hk).1
set_option maxRecDepth 100000 in
theorem VIn.keysRow {w : World} {ok : Nat → Prop} {v : V} {p : VP} (h : VIn w ok v p) : SRow w ok p.ka v.keys := by
  induction h using VIn.ind with
  | mk k b n m s l q p P hk hn hm hs hl hq hkeys hc hin ih => exact hkeys
set_option maxRecDepth 100000 in
/-- Two clean values are the same, part by part. -/
theorem V.same_iff {x y : V} (hx : x.cl) (hy : y.cl) : x = y ↔ x.k = y.k ∧ x.b = y.b ∧ x.n = y.n ∧ x.m = y.m ∧ x.s = y.s ∧ x.l = y.l ∧ (x.k = 7 → x.keys = y.keys) := by
  constructor
  · rintro rfl
    exact ⟨rfl, rfl, rfl, rfl, rfl, rfl, fun _ => rfl⟩
  · cases x with
    | mk k b n m s l q =>
      cases y with
      | mk k' b' n' m' s' l' q' =>
        rintro ⟨h1, h2, h3, h4, h5, h6, h7⟩
        dsimp only at *
        subst h1 h2 h3 h4 h5 h6
        by_cases hk : k = 7
        · rw [h7 hk]
        · have e1 : q = [] := cl_keys hx hk
          have e2 : q' = [] := cl_keys hy hk
          rw [e1, e2]
set_option maxRecDepth 100000 in
theorem take_same {l r : List V} {j : Nat} (hq : j < l.length) (hr : j < r.length) (h : l.take j = r.take j) (he : l[j] = r[j]) : l.take (j + 1) = r.take (j + 1) := by
  rw [List.take_succ_eq_append_getElem hq, List.take_succ_eq_append_getElem hr, h, he]
set_option maxRecDepth 100000 in
set_option maxHeartbeats 6400000 in
theorem rsame_any {w0 : World} {ok : Nat → Prop} {x : V} {p : VP} (h : VIn w0 ok x p) : ∀ {ok' : Nat → Prop} {y : V} {q : VP} (_ : VIn w0 ok' y q) (w : World), Below w0.heap.size w0 w → x.bulk ≤ 1048576 → x.cl → y.cl →
    Calls Try.prog 31 #[x.val p, y.val q] w fun e w' => (∃ r : Bool, e = .returned (.bool r) ∧ (r = true ↔ x = y)) ∧ Below w.heap.size w w' := by
  induction h using VIn.ind with
  | mk k b n m s l ks p PX hk hn hm hs hl hq hkeys hc hin ih =>
    intro ok' y q hy w hb0 hbk hcx hcy
    obtain ⟨k', b', n', m', s', l', ks'⟩ := y
    obtain ⟨la, lc, ka, kc⟩ := p
    obtain ⟨la', lc', ka', kc'⟩ := q
    have hlen : l.length ≤ 1048576 := by have := len_le_bulkL l; simp only [V.bulk] at hbk; omega
    have hbl : V.bulk.go l ≤ 1048576 := by simp only [V.bulk] at hbk; omega
    have hiff := V.same_iff hcx hcy
    have HIFF : Hid ((V.mk k b n m s l ks) = V.mk k' b' n' m' s' l' ks' ↔ k = k' ∧ b = b' ∧ n = n' ∧ m = m' ∧ s = s' ∧ l = l' ∧ (k = 7 → ks = ks')) := hiff
    have HCX : Hid (∀ z ∈ l, z.cl) := fun z hz => cl_item hcx hz
    have HCY : Hid (∀ z ∈ l', z.cl) := fun z hz => cl_item hcy hz
    have HKL : Hid ((k = 7 → ks.length = l.length) ∧ (k' = 7 → ks'.length = l'.length)) := ⟨fun e => cl_klen hcx e, fun e => cl_klen hcy e⟩
    obtain ⟨PY, hcY, hinY⟩ := hy.row
    have hkY := hy.keysRow
    dsimp only [V.l, V.keys] at hcY hinY hkY
    have CC : Hid (∀ (W : World) (j : Nat) (hj : j < l.length) (hj' : j < l'.length), Below w0.heap.size w0 W → Calls Try.prog 31 #[l[j].val (PX j), l'[j].val (PY j)] W fun e w' => (∃ r : Bool, e = .returned (.bool r) ∧ (r = true ↔ l[j] = l'[j])) ∧ Below W.heap.size W w') := fun W j hj hj' hW => ih j hj (hinY j hj') W hW (Nat.le_trans (bulk_mem (List.getElem_mem hj)) hbl) (HCX.out _ (List.getElem_mem hj)) (HCY.out _ (List.getElem_mem hj'))
    have hBx : Below w.heap.size w ((w.alloc (.cells #[.int .i64 k, .bool b, .int .i64 n, .int .i64 m, .string s, .slice la l.length lc, .slice ka ks.length kc] 25)).alloc (.cells #[.int .i64 k', .bool b', .int .i64 n', .int .i64 m', .string s', .slice la' l'.length lc', .slice ka' ks'.length kc'] 25)) := ((Below.refl _ _).alloc (Nat.le_refl _) _).alloc (by simp) _
    have X1 : ((w.alloc (.cells #[.int .i64 k, .bool b, .int .i64 n, .int .i64 m, .string s, .slice la l.length lc, .slice ka ks.length kc] 25)).alloc (.cells #[.int .i64 k', .bool b', .int .i64 n', .int .i64 m', .string s', .slice la' l'.length lc', .slice ka' ks'.length kc'] 25)).heap[w.heap.size]? = some (.cells #[.int .i64 k, .bool b, .int .i64 n, .int .i64 m, .string s, .slice la l.length lc, .slice ka ks.length kc] 25 (0, 0)) := (Below.heap_alloc _ _ _ (by simp)).trans (heap_alloc_new w _)
    have X2 : ((w.alloc (.cells #[.int .i64 k, .bool b, .int .i64 n, .int .i64 m, .string s, .slice la l.length lc, .slice ka ks.length kc] 25)).alloc (.cells #[.int .i64 k', .bool b', .int .i64 n', .int .i64 m', .string s', .slice la' l'.length lc', .slice ka' ks'.length kc'] 25)).heap[w.heap.size + 1]? = some (.cells #[.int .i64 k', .bool b', .int .i64 n', .int .i64 m', .string s', .slice la' l'.length lc', .slice ka' ks'.length kc'] 25 (0, 0)) := by simpa using heap_alloc_new (w.alloc (.cells #[.int .i64 k, .bool b, .int .i64 n, .int .i64 m, .string s, .slice la l.length lc, .slice ka ks.length kc] 25)) (.cells #[.int .i64 k', .bool b', .int .i64 n', .int .i64 m', .string s', .slice la' l'.length lc', .slice ka' ks'.length kc'] 25)
    have HB : Hid (∀ W', Below ((w.alloc (.cells #[.int .i64 k, .bool b, .int .i64 n, .int .i64 m, .string s, .slice la l.length lc, .slice ka ks.length kc] 25)).alloc (.cells #[.int .i64 k', .bool b', .int .i64 n', .int .i64 m', .string s', .slice la' l'.length lc', .slice ka' ks'.length kc'] 25)).heap.size ((w.alloc (.cells #[.int .i64 k, .bool b, .int .i64 n, .int .i64 m, .string s, .slice la l.length lc, .slice ka ks.length kc] 25)).alloc (.cells #[.int .i64 k', .bool b', .int .i64 n', .int .i64 m', .string s', .slice la' l'.length lc', .slice ka' ks'.length kc'] 25)) W' → (W'.cell? ⟨w.heap.size, 0, none⟩ = some (.int .i64 k) ∧ W'.cell? ⟨w.heap.size, 5, none⟩ = some (.slice la l.length lc) ∧ W'.cell? ⟨w.heap.size, 6, none⟩ = some (.slice ka ks.length kc)) ∧ W'.cell? ⟨w.heap.size + 1, 5, none⟩ = some (.slice la' l'.length lc') ∧ W'.cell? ⟨w.heap.size + 1, 6, none⟩ = some (.slice ka' ks'.length kc')) := fun W' hW => by
      have h1 := (hW.block _ (Array.getElem?_eq_some_iff.1 X1).1).trans X1
      have h2 := (hW.block _ (Array.getElem?_eq_some_iff.1 X2).1).trans X2
      exact ⟨⟨cell_of_row _ _ 0 _ _ _ h1, cell_of_row _ _ 5 _ _ _ h1, cell_of_row _ _ 6 _ _ _ h1⟩, cell_of_row _ _ 5 _ _ _ h2, cell_of_row _ _ 6 _ _ _ h2⟩
    dsimp only at hkeys hc
    clear hiff hcx hcy hk hn hm hs hl hq hin ih hbk hbl hy X1 X2
    unfold V.val
    dsimp only [V.k, V.b, V.n, V.m, V.s, V.l, V.keys]
    by_cases e1 : k = k'
    · subst e1
      by_cases e2 : b = b'
      · subst e2
        by_cases e3 : n = n'
        · subst e3
          by_cases e4 : m = m'
          · subst e4
            by_cases e5 : s = s'
            · subst e5
              by_cases e6 : l.length = l'.length
              · have HL6 : Hid (l.length = l'.length) := e6
                have hl6 : ((l.length : Nat) : Int) = ((l'.length : Nat) : Int) := by omega
                clear e6
                go_enter Try.func31, Try.ntmps31
                go_wp2_with fail
                generalize ((w.alloc (.cells #[.int .i64 k, .bool b, .int .i64 n, .int .i64 m, .string s, .slice la l.length lc, .slice ka ks.length kc] 25)).alloc (.cells #[.int .i64 k, .bool b, .int .i64 n, .int .i64 m, .string s, .slice la' l'.length lc', .slice ka' ks'.length kc'] 25)) = W1 at *
                go_loopw [5] (fun si wr => ∃ j : Nat, j ≤ l.length ∧ si = .int .i64 j ∧ Hid (l.take j = l'.take j) ∧ Hid (k = 7 → ks.take j = ks'.take j) ∧ Below W1.heap.size W1 wr) (fun si _ => l.length - (intOf si).toNat)
                case atStart => exact ⟨0, by omega, rfl, by show List.take _ _ = _; simp, (fun _ => by simp), Below.refl _ _⟩
                case round =>
                  obtain ⟨j, hj, rfl, ht, htk, hb⟩ := hrel
                  have hBr := hBx.trans (hb.mono hBx.size)
                  have hbw := hb0.trans (hBr.mono hb0.size)
                  obtain ⟨⟨c0, c1, c2⟩, c3, c4⟩ := HB.out _ hb
                  by_cases hlt : j < l.length
                  · have hlt' : j < l'.length := by have := HL6.out; omega
                    obtain ⟨bl, off, rfl, -, hcc⟩ := hc (by intro e; subst e; simp at hlt)
                    obtain ⟨bl', off', rfl, -, hcc'⟩ := hcY (by intro e; subst e; simp at hlt')
                    have HSZ : Hid (∀ W', Below wr.heap.size wr W' → (W'.cell? ⟨w.heap.size, 0, none⟩ = some (.int .i64 k) ∧ W'.cell? ⟨w.heap.size, 5, none⟩ = some (.slice (some ⟨bl, off, none⟩) l.length lc) ∧ W'.cell? ⟨w.heap.size, 6, none⟩ = some (.slice ka ks.length kc)) ∧ (W'.cell? ⟨w.heap.size + 1, 5, none⟩ = some (.slice (some ⟨bl', off', none⟩) l'.length lc') ∧ W'.cell? ⟨w.heap.size + 1, 6, none⟩ = some (.slice ka' ks'.length kc')) ∧ VAt W' bl off j l[j] (PX j) ∧ VAt W' bl' off' j l'[j] (PY j)) := fun W' hW => by
                      have h1 := HB.out _ (hb.trans (hW.mono hb.size))
                      have h2 := hbw.trans (hW.mono hbw.size)
                      exact ⟨h1.1, h1.2, (hcc j hlt).below h2, (hcc' j hlt').below h2⟩
                    have C : Hid (∀ W, Below w0.heap.size w0 W → Calls Try.prog 31 #[l[j].val (PX j), l'[j].val (PY j)] W fun e w' => (∃ r : Bool, e = .returned (.bool r) ∧ (r = true ↔ l[j] = l'[j])) ∧ Below W.heap.size W w') := fun W hW => CC.out W j hlt hlt' hW
                    have HNE : Hid (l[j] ≠ l'[j] → V.mk k b n m s l ks ≠ V.mk k b n m s l' ks') := fun h e => h (by simp at e; simp only [e.1])
                    have HT : Hid (l[j] = l'[j] → l.take (j + 1) = l'.take (j + 1)) := fun h => take_same hlt hlt' ht.out h
                    have HKQ : Hid (k = 7 → ∃ (h1 : j < ks.length) (h2 : j < ks'.length) (kb ko kb' ko' : Nat), ka = some ⟨kb, ko, none⟩ ∧ ka' = some ⟨kb', ko', none⟩ ∧ (∀ W', Below wr.heap.size wr W' → W'.cell? ⟨kb, ko + j, none⟩ = some (.string ks[j]) ∧ W'.cell? ⟨kb', ko' + j, none⟩ = some (.string ks'[j])) ∧ (ks[j] = ks'[j] → ks.take (j + 1) = ks'.take (j + 1)) ∧ (ks[j] ≠ ks'[j] → V.mk k b n m s l ks ≠ V.mk k b n m s l' ks')) := fun e7 => by
                      have g1 : j < ks.length := by have := HKL.out.1 e7; omega
                      have g2 : j < ks'.length := by have := HKL.out.2 e7; omega
                      obtain ⟨kb, ko, q1, -, q2⟩ := hkeys.2 (by intro e; subst e; simp at g1)
                      obtain ⟨kb', ko', q3, -, q4⟩ := hkY.2 (by intro e; subst e; simp at g2)
                      refine ⟨g1, g2, kb, ko, kb', ko', q1, q3, fun W' hW => ?_, fun h => take_grow g1 g2 (htk.out e7) h, fun h e => h (by simp at e; simp only [e.2])⟩
                      have h2 := hbw.trans (hW.mono hbw.size)
                      exact ⟨(h2.cell (World.block_lt_of_cell? _ _ (q2 j g1))).trans (q2 j g1), (h2.cell (World.block_lt_of_cell? _ _ (q4 j g2))).trans (q4 j g2)⟩
                    generalize l[j] = z1 at *
                    generalize l'[j] = z2 at *
                    generalize PX j = zp at *
                    generalize PY j = zq at *
                    unfold V.val at C
                    unfold VAt at HSZ
                    have hjl : (j : Int) < ((l'.length : Nat) : Int) := by omega
                    clear CC HB hcc hcc' hc hcY HCX HCY HKL ht htk hinY hkeys hkY
                    go_upto_region 6 with fail
                    clear c0 c1 c2 c3 c4
                    refine wp_region_held_drew (S := fun w' => Below wr.heap.size wr w') (by kernel_rfl) (Below.drew (Below.refl _ _)) (fun hSS => ?_)
                    refine wpAnyH_take (i := 0) (v := ?_) rfl (by kernel_rfl) (by kernel_rfl) (by kernel_rfl) (fun _ _ _ h => h) (Or.inl ⟨by rfl, ?_⟩) hSS ?_
                    rotate_left
                    · intro wz hSz
                      go_simp
                      try with_reducible rfl
                    simp only [List.getElem_toArray, List.getElem_cons_zero, Act.put, List.setIfInBounds_toArray, List.set_cons_zero, List.set_cons_succ]
                    refine wpAnyH_take (i := 1) (v := ?_) rfl (by kernel_rfl) (by kernel_rfl) (by kernel_rfl) (fun _ _ _ h => h) (Or.inl ⟨by rfl, ?_⟩) hSS ?_
                    rotate_left
                    · intro wz hSz
                      have hcc := HSZ.out _ hSz; obtain ⟨⟨a0, a1, a2⟩, ⟨b1, b2⟩, hxa, hya⟩ := hcc; obtain ⟨z0, z1, z2, z3, z4, z5, z6⟩ := hxa; obtain ⟨y0, y1, y2, y3, y4, y5, y6⟩ := hya
                      go_simp
                      try with_reducible rfl
                    simp only [List.getElem_toArray, List.getElem_cons_zero, List.getElem_cons_succ, Act.put, List.setIfInBounds_toArray, List.set_cons_zero, List.set_cons_succ]
                    refine wpAnyH_take (i := 2) (v := ?_) rfl (by kernel_rfl) (by kernel_rfl) (by kernel_rfl) (fun _ _ _ h => h) (Or.inl ⟨by rfl, ?_⟩) hSS ?_
                    rotate_left
                    · intro wz hSz
                      go_simp
                      try with_reducible rfl
                    simp only [List.getElem_toArray, List.getElem_cons_zero, List.getElem_cons_succ, Act.put, List.setIfInBounds_toArray, List.set_cons_zero, List.set_cons_succ]
                    refine wpAnyH_take (i := 3) (v := ?_) rfl (by kernel_rfl) (by kernel_rfl) (by kernel_rfl) (fun _ _ _ h => h) (Or.inl ⟨by rfl, ?_⟩) hSS ?_
                    rotate_left
                    · intro wz hSz
                      go_simp
                      try with_reducible rfl
                    simp only [List.getElem_toArray, List.getElem_cons_zero, List.getElem_cons_succ, Act.put, List.setIfInBounds_toArray, List.set_cons_zero, List.set_cons_succ]
                    refine wpAnyH_take (i := 4) (v := ?_) rfl (by kernel_rfl) (by kernel_rfl) (by kernel_rfl) (fun _ _ _ h => h) (Or.inl ⟨by rfl, ?_⟩) hSS ?_
                    rotate_left
                    · intro wz hSz
                      have hcc := HSZ.out _ hSz; obtain ⟨⟨a0, a1, a2⟩, ⟨b1, b2⟩, hxa, hya⟩ := hcc; obtain ⟨z0, z1, z2, z3, z4, z5, z6⟩ := hxa; obtain ⟨y0, y1, y2, y3, y4, y5, y6⟩ := hya
                      go_simp
                      try with_reducible rfl
                    simp only [List.getElem_toArray, List.getElem_cons_zero, List.getElem_cons_succ, Act.put, List.setIfInBounds_toArray, List.set_cons_zero, List.set_cons_succ]
                    refine wpAnyH_take (i := 5) (v := ?_) rfl (by kernel_rfl) (by kernel_rfl) (by kernel_rfl) (fun _ _ _ h => h) (Or.inl ⟨by rfl, ?_⟩) hSS ?_
                    rotate_left
                    · intro wz hSz
                      go_simp
                      try with_reducible rfl
                    simp only [List.getElem_toArray, List.getElem_cons_zero, List.getElem_cons_succ, Act.put, List.setIfInBounds_toArray, List.set_cons_zero, List.set_cons_succ]
                    refine wpAnyH_take (i := 6) (v := ?_) rfl (by kernel_rfl) (by kernel_rfl) (by kernel_rfl) (fun _ _ _ h => h) (Or.inl ⟨by rfl, ?_⟩) hSS ?_
                    rotate_left
                    · intro wz hSz
                      have hcc := HSZ.out _ hSz; obtain ⟨⟨a0, a1, a2⟩, ⟨b1, b2⟩, hxa, hya⟩ := hcc; obtain ⟨z0, z1, z2, z3, z4, z5, z6⟩ := hxa; obtain ⟨y0, y1, y2, y3, y4, y5, y6⟩ := hya
                      go_simp
                      try with_reducible rfl
                    simp only [List.getElem_toArray, List.getElem_cons_zero, List.getElem_cons_succ, Act.put, List.setIfInBounds_toArray, List.set_cons_zero, List.set_cons_succ]
                    refine wpAnyH_take (i := 7) (v := ?_) rfl (by kernel_rfl) (by kernel_rfl) (by kernel_rfl) (fun _ _ _ h => h) (Or.inl ⟨by rfl, ?_⟩) hSS ?_
                    rotate_left
                    · intro wz hSz
                      go_simp
                      try with_reducible rfl
                    simp only [List.getElem_toArray, List.getElem_cons_zero, List.getElem_cons_succ, Act.put, List.setIfInBounds_toArray, List.set_cons_zero, List.set_cons_succ]
                    refine wpAnyH_take (i := 8) (v := ?_) rfl (by kernel_rfl) (by kernel_rfl) (by kernel_rfl) (fun _ _ _ h => h) (Or.inl ⟨by rfl, ?_⟩) hSS ?_
                    rotate_left
                    · intro wz hSz
                      go_simp
                      try with_reducible rfl
                    simp only [List.getElem_toArray, List.getElem_cons_zero, List.getElem_cons_succ, Act.put, List.setIfInBounds_toArray, List.set_cons_zero, List.set_cons_succ]
                    refine wpAnyH_take (i := 9) (v := ?_) rfl (by kernel_rfl) (by kernel_rfl) (by kernel_rfl) (fun _ _ _ h => h) (Or.inl ⟨by rfl, ?_⟩) hSS ?_
                    rotate_left
                    · intro wz hSz
                      have hcc := HSZ.out _ hSz; obtain ⟨⟨a0, a1, a2⟩, ⟨b1, b2⟩, hxa, hya⟩ := hcc; obtain ⟨z0, z1, z2, z3, z4, z5, z6⟩ := hxa; obtain ⟨y0, y1, y2, y3, y4, y5, y6⟩ := hya
                      go_simp
                      try with_reducible rfl
                    simp only [List.getElem_toArray, List.getElem_cons_zero, List.getElem_cons_succ, Act.put, List.setIfInBounds_toArray, List.set_cons_zero, List.set_cons_succ]
                    refine wpAnyH_ready (rs := [10]) (by kernel_rfl) (by simp) (AllReadyH.cons rfl (fun K1 hK1 => ?_) AllReadyH.nil)
                    refine step_want (by rfl) ?_
                    simp only [List.getElem_toArray, List.getElem_cons_zero, List.getElem_cons_succ]
                    go_simp
                    go_at_call 31
                    refine (C.out _ (hbw.trans (hSS.mono hbw.size))).mono ?_
                    rintro e wk ⟨⟨r, rfl, hr⟩, hbk⟩
                    go_simp
                    refine hK1.out _ _ (hSS.trans (hbk.mono hSS.size)) (fun hSS => ?_)
                    clear hbk hK1 C
                    cases r
                    · have hne := HNE.out (fun e => by have := hr.2 e; cases this)
                      refine wpAnyH_take (i := 11) (v := (.bool true)) rfl (by kernel_rfl) (by kernel_rfl) (by kernel_rfl) (fun _ _ _ h => h) (Or.inl ⟨by rfl, ?_⟩) hSS ?_
                      · intro wz hSz
                        go_simp
                      simp only [List.getElem_toArray, List.getElem_cons_zero, List.getElem_cons_succ, Act.put, List.setIfInBounds_toArray, List.set_cons_zero, List.set_cons_succ]
                      refine wpAnyH_take (i := 12) (v := (.bool true)) rfl (by kernel_rfl) (by kernel_rfl) (by kernel_rfl) (fun _ _ _ h => h) (Or.inl ⟨by rfl, ?_⟩) hSS ?_
                      · intro wz hSz
                        go_simp
                      simp only [List.getElem_toArray, List.getElem_cons_zero, List.getElem_cons_succ, Act.put, List.setIfInBounds_toArray, List.set_cons_zero, List.set_cons_succ]
                      refine wpAnyH_take (i := 13) (v := undef) rfl (by kernel_rfl) (by kernel_rfl) (by kernel_rfl) (fun _ _ _ h => h) (Or.inr ⟨by rfl, rfl⟩) hSS ?_
                      simp only [List.getElem_toArray, List.getElem_cons_zero, List.getElem_cons_succ, Act.put, List.setIfInBounds_toArray, List.set_cons_zero, List.set_cons_succ]
                      refine wpAnyH_take (i := 14) (v := undef) rfl (by kernel_rfl) (by kernel_rfl) (by kernel_rfl) (fun _ _ _ h => h) (Or.inr ⟨by rfl, rfl⟩) hSS ?_
                      simp only [List.getElem_toArray, List.getElem_cons_zero, List.getElem_cons_succ, Act.put, List.setIfInBounds_toArray, List.set_cons_zero, List.set_cons_succ]
                      refine wpAnyH_take (i := 15) (v := undef) rfl (by kernel_rfl) (by kernel_rfl) (by kernel_rfl) (fun _ _ _ h => h) (Or.inr ⟨by rfl, rfl⟩) hSS ?_
                      simp only [List.getElem_toArray, List.getElem_cons_zero, List.getElem_cons_succ, Act.put, List.setIfInBounds_toArray, List.set_cons_zero, List.set_cons_succ]
                      refine wpAnyH_take (i := 16) (v := undef) rfl (by kernel_rfl) (by kernel_rfl) (by kernel_rfl) (fun _ _ _ h => h) (Or.inr ⟨by rfl, rfl⟩) hSS ?_
                      simp only [List.getElem_toArray, List.getElem_cons_zero, List.getElem_cons_succ, Act.put, List.setIfInBounds_toArray, List.set_cons_zero, List.set_cons_succ]
                      refine wpAnyH_take (i := 17) (v := undef) rfl (by kernel_rfl) (by kernel_rfl) (by kernel_rfl) (fun _ _ _ h => h) (Or.inr ⟨by rfl, rfl⟩) hSS ?_
                      simp only [List.getElem_toArray, List.getElem_cons_zero, List.getElem_cons_succ, Act.put, List.setIfInBounds_toArray, List.set_cons_zero, List.set_cons_succ]
                      refine wpAnyH_take (i := 18) (v := undef) rfl (by kernel_rfl) (by kernel_rfl) (by kernel_rfl) (fun _ _ _ h => h) (Or.inr ⟨by rfl, rfl⟩) hSS ?_
                      simp only [List.getElem_toArray, List.getElem_cons_zero, List.getElem_cons_succ, Act.put, List.setIfInBounds_toArray, List.set_cons_zero, List.set_cons_succ]
                      refine wpAnyH_take (i := 19) (v := undef) rfl (by kernel_rfl) (by kernel_rfl) (by kernel_rfl) (fun _ _ _ h => h) (Or.inr ⟨by rfl, rfl⟩) hSS ?_
                      simp only [List.getElem_toArray, List.getElem_cons_zero, List.getElem_cons_succ, Act.put, List.setIfInBounds_toArray, List.set_cons_zero, List.set_cons_succ]
                      refine wpAnyH_take (i := 20) (v := undef) rfl (by kernel_rfl) (by kernel_rfl) (by kernel_rfl) (fun _ _ _ h => h) (Or.inr ⟨by rfl, rfl⟩) hSS ?_
                      simp only [List.getElem_toArray, List.getElem_cons_zero, List.getElem_cons_succ, Act.put, List.setIfInBounds_toArray, List.set_cons_zero, List.set_cons_succ]
                      refine wpAnyH_take (i := 21) (v := undef) rfl (by kernel_rfl) (by kernel_rfl) (by kernel_rfl) (fun _ _ _ h => h) (Or.inr ⟨by rfl, rfl⟩) hSS ?_
                      simp only [List.getElem_toArray, List.getElem_cons_zero, List.getElem_cons_succ, Act.put, List.setIfInBounds_toArray, List.set_cons_zero, List.set_cons_succ]
                      refine wpAnyH_take (i := 22) (v := undef) rfl (by kernel_rfl) (by kernel_rfl) (by kernel_rfl) (fun _ _ _ h => h) (Or.inr ⟨by rfl, rfl⟩) hSS ?_
                      simp only [List.getElem_toArray, List.getElem_cons_zero, List.getElem_cons_succ, Act.put, List.setIfInBounds_toArray, List.set_cons_zero, List.set_cons_succ]
                      refine wpAnyH_take (i := 23) (v := undef) rfl (by kernel_rfl) (by kernel_rfl) (by kernel_rfl) (fun _ _ _ h => h) (Or.inr ⟨by rfl, rfl⟩) hSS ?_
                      simp only [List.getElem_toArray, List.getElem_cons_zero, List.getElem_cons_succ, Act.put, List.setIfInBounds_toArray, List.set_cons_zero, List.set_cons_succ]
                      refine wpAnyH_take (i := 24) (v := undef) rfl (by kernel_rfl) (by kernel_rfl) (by kernel_rfl) (fun _ _ _ h => h) (Or.inr ⟨by rfl, rfl⟩) hSS ?_
                      simp only [List.getElem_toArray, List.getElem_cons_zero, List.getElem_cons_succ, Act.put, List.setIfInBounds_toArray, List.set_cons_zero, List.set_cons_succ]
                      refine wpAnyH_take (i := 25) (v := undef) rfl (by kernel_rfl) (by kernel_rfl) (by kernel_rfl) (fun _ _ _ h => h) (Or.inr ⟨by rfl, rfl⟩) hSS ?_
                      simp only [List.getElem_toArray, List.getElem_cons_zero, List.getElem_cons_succ, Act.put, List.setIfInBounds_toArray, List.set_cons_zero, List.set_cons_succ]
                      refine wpAnyH_take (i := 26) (v := undef) rfl (by kernel_rfl) (by kernel_rfl) (by kernel_rfl) (fun _ _ _ h => h) (Or.inr ⟨by rfl, rfl⟩) hSS ?_
                      simp only [List.getElem_toArray, List.getElem_cons_zero, List.getElem_cons_succ, Act.put, List.setIfInBounds_toArray, List.set_cons_zero, List.set_cons_succ]
                      refine wpAnyH_take (i := 27) (v := undef) rfl (by kernel_rfl) (by kernel_rfl) (by kernel_rfl) (fun _ _ _ h => h) (Or.inr ⟨by rfl, rfl⟩) hSS ?_
                      simp only [List.getElem_toArray, List.getElem_cons_zero, List.getElem_cons_succ, Act.put, List.setIfInBounds_toArray, List.set_cons_zero, List.set_cons_succ]
                      refine wpAnyH_take (i := 28) (v := undef) rfl (by kernel_rfl) (by kernel_rfl) (by kernel_rfl) (fun _ _ _ h => h) (Or.inr ⟨by rfl, rfl⟩) hSS ?_
                      simp only [List.getElem_toArray, List.getElem_cons_zero, List.getElem_cons_succ, Act.put, List.setIfInBounds_toArray, List.set_cons_zero, List.set_cons_succ]
                      refine wpAnyH_take (i := 29) (v := (.bool true)) rfl (by kernel_rfl) (by kernel_rfl) (by kernel_rfl) (fun _ _ _ h => h) (Or.inl ⟨by rfl, ?_⟩) hSS ?_
                      · intro wz hSz
                        go_simp
                      simp only [List.getElem_toArray, List.getElem_cons_zero, List.getElem_cons_succ, Act.put, List.setIfInBounds_toArray, List.set_cons_zero, List.set_cons_succ]
                      refine wpAnyH_done (by kernel_rfl) ?_ _
                      go_wp2_with fail
                      go_ret
                      exact ⟨⟨false, rfl, by simpa using hne⟩, hBr.trans (hSS.mono hBr.size)⟩
                    · have ht2 : Hid (l.take (j + 1) = l'.take (j + 1)) := HT.out (hr.1 rfl)
                      by_cases h7 : k = 7
                      · obtain ⟨g1, g2, kb, ko, kb', ko', rfl, rfl, hkc, hk1, hk2⟩ := HKQ.out h7
                        have HKK : Hid (∀ W', Below wr.heap.size wr W' → W'.cell? ⟨kb, ko + j, none⟩ = some (.string ks[j]) ∧ W'.cell? ⟨kb', ko' + j, none⟩ = some (.string ks'[j])) := hkc
                        have hg1 : (j : Int) < ((ks.length : Nat) : Int) := by omega
                        have hg2 : (j : Int) < ((ks'.length : Nat) : Int) := by omega
                        have H7 : Hid (k = 7) := h7
                        clear h7
                        by_cases hke : ks[j] = ks'[j]
                        · have htk2 : Hid (k = 7 → ks.take (j + 1) = ks'.take (j + 1)) := fun _ => hk1 hke
                          have hte := toList_eq hke
                          clear hkc hk1 hk2 HKQ
                          generalize ks[j] = y1 at *
                          generalize ks'[j] = y2 at *
                          refine wpAnyH_take (i := 11) (v := (.bool false)) rfl (by kernel_rfl) (by kernel_rfl) (by kernel_rfl) (fun _ _ _ h => h) (Or.inl ⟨by rfl, ?_⟩) hSS ?_
                          · intro wz hSz
                            go_simp
                          simp only [List.getElem_toArray, List.getElem_cons_zero, List.getElem_cons_succ, Act.put, List.setIfInBounds_toArray, List.set_cons_zero, List.set_cons_succ]
                          refine wpAnyH_take (i := 12) (v := (.bool false)) rfl (by kernel_rfl) (by kernel_rfl) (by kernel_rfl) (fun _ _ _ h => h) (Or.inl ⟨by rfl, ?_⟩) hSS ?_
                          · intro wz hSz
                            go_simp
                          simp only [List.getElem_toArray, List.getElem_cons_zero, List.getElem_cons_succ, Act.put, List.setIfInBounds_toArray, List.set_cons_zero, List.set_cons_succ]
                          refine wpAnyH_take (i := 13) (v := ?_) rfl (by kernel_rfl) (by kernel_rfl) (by kernel_rfl) (fun _ _ _ h => h) (Or.inl ⟨by rfl, ?_⟩) hSS ?_
                          rotate_left
                          · intro wz hSz
                            go_simp
                            try with_reducible rfl
                          simp only [List.getElem_toArray, List.getElem_cons_zero, List.getElem_cons_succ, Act.put, List.setIfInBounds_toArray, List.set_cons_zero, List.set_cons_succ]
                          refine wpAnyH_take (i := 14) (v := ?_) rfl (by kernel_rfl) (by kernel_rfl) (by kernel_rfl) (fun _ _ _ h => h) (Or.inl ⟨by rfl, ?_⟩) hSS ?_
                          rotate_left
                          · intro wz hSz
                            have hcc := HSZ.out _ hSz; obtain ⟨⟨a0, a1, a2⟩, ⟨b1, b2⟩, -, -⟩ := hcc
                            go_simp
                            try with_reducible rfl
                          simp only [List.getElem_toArray, List.getElem_cons_zero, List.getElem_cons_succ, Act.put, List.setIfInBounds_toArray, List.set_cons_zero, List.set_cons_succ]
                          refine wpAnyH_take (i := 15) (v := (.bool true)) rfl (by kernel_rfl) (by kernel_rfl) (by kernel_rfl) (fun _ _ _ h => h) (Or.inl ⟨by rfl, ?_⟩) hSS ?_
                          · intro wz hSz
                            have h77 := H7.out
                            go_simp
                          simp only [List.getElem_toArray, List.getElem_cons_zero, List.getElem_cons_succ, Act.put, List.setIfInBounds_toArray, List.set_cons_zero, List.set_cons_succ]
                          refine wpAnyH_take (i := 16) (v := (.bool true)) rfl (by kernel_rfl) (by kernel_rfl) (by kernel_rfl) (fun _ _ _ h => h) (Or.inl ⟨by rfl, ?_⟩) hSS ?_
                          · intro wz hSz
                            go_simp
                          simp only [List.getElem_toArray, List.getElem_cons_zero, List.getElem_cons_succ, Act.put, List.setIfInBounds_toArray, List.set_cons_zero, List.set_cons_succ]
                          refine wpAnyH_take (i := 17) (v := ?_) rfl (by kernel_rfl) (by kernel_rfl) (by kernel_rfl) (fun _ _ _ h => h) (Or.inl ⟨by rfl, ?_⟩) hSS ?_
                          rotate_left
                          · intro wz hSz
                            go_simp
                            try with_reducible rfl
                          simp only [List.getElem_toArray, List.getElem_cons_zero, List.getElem_cons_succ, Act.put, List.setIfInBounds_toArray, List.set_cons_zero, List.set_cons_succ]
                          refine wpAnyH_take (i := 18) (v := ?_) rfl (by kernel_rfl) (by kernel_rfl) (by kernel_rfl) (fun _ _ _ h => h) (Or.inl ⟨by rfl, ?_⟩) hSS ?_
                          rotate_left
                          · intro wz hSz
                            have hcc := HSZ.out _ hSz; obtain ⟨⟨a0, a1, a2⟩, ⟨b1, b2⟩, -, -⟩ := hcc; obtain ⟨k0, k1⟩ := HKK.out _ hSz
                            go_simp
                            try with_reducible rfl
                          simp only [List.getElem_toArray, List.getElem_cons_zero, List.getElem_cons_succ, Act.put, List.setIfInBounds_toArray, List.set_cons_zero, List.set_cons_succ]
                          refine wpAnyH_take (i := 19) (v := ?_) rfl (by kernel_rfl) (by kernel_rfl) (by kernel_rfl) (fun _ _ _ h => h) (Or.inl ⟨by rfl, ?_⟩) hSS ?_
                          rotate_left
                          · intro wz hSz
                            go_simp
                            try with_reducible rfl
                          simp only [List.getElem_toArray, List.getElem_cons_zero, List.getElem_cons_succ, Act.put, List.setIfInBounds_toArray, List.set_cons_zero, List.set_cons_succ]
                          refine wpAnyH_take (i := 20) (v := ?_) rfl (by kernel_rfl) (by kernel_rfl) (by kernel_rfl) (fun _ _ _ h => h) (Or.inl ⟨by rfl, ?_⟩) hSS ?_
                          rotate_left
                          · intro wz hSz
                            go_simp
                            try with_reducible rfl
                          simp only [List.getElem_toArray, List.getElem_cons_zero, List.getElem_cons_succ, Act.put, List.setIfInBounds_toArray, List.set_cons_zero, List.set_cons_succ]
                          refine wpAnyH_take (i := 21) (v := ?_) rfl (by kernel_rfl) (by kernel_rfl) (by kernel_rfl) (fun _ _ _ h => h) (Or.inl ⟨by rfl, ?_⟩) hSS ?_
                          rotate_left
                          · intro wz hSz
                            have hcc := HSZ.out _ hSz; obtain ⟨⟨a0, a1, a2⟩, ⟨b1, b2⟩, -, -⟩ := hcc; obtain ⟨k0, k1⟩ := HKK.out _ hSz
                            go_simp
                            try with_reducible rfl
                          simp only [List.getElem_toArray, List.getElem_cons_zero, List.getElem_cons_succ, Act.put, List.setIfInBounds_toArray, List.set_cons_zero, List.set_cons_succ]
                          refine wpAnyH_take (i := 22) (v := ?_) rfl (by kernel_rfl) (by kernel_rfl) (by kernel_rfl) (fun _ _ _ h => h) (Or.inl ⟨by rfl, ?_⟩) hSS ?_
                          rotate_left
                          · intro wz hSz
                            go_simp
                            try with_reducible rfl
                          simp only [List.getElem_toArray, List.getElem_cons_zero, List.getElem_cons_succ, Act.put, List.setIfInBounds_toArray, List.set_cons_zero, List.set_cons_succ]
                          refine wpAnyH_take (i := 23) (v := ?_) rfl (by kernel_rfl) (by kernel_rfl) (by kernel_rfl) (fun _ _ _ h => h) (Or.inl ⟨by rfl, ?_⟩) hSS ?_
                          rotate_left
                          · intro wz hSz
                            have hcc := HSZ.out _ hSz; obtain ⟨⟨a0, a1, a2⟩, ⟨b1, b2⟩, -, -⟩ := hcc; obtain ⟨k0, k1⟩ := HKK.out _ hSz
                            go_simp
                            try with_reducible rfl
                          simp only [List.getElem_toArray, List.getElem_cons_zero, List.getElem_cons_succ, Act.put, List.setIfInBounds_toArray, List.set_cons_zero, List.set_cons_succ]
                          refine wpAnyH_take (i := 24) (v := ?_) rfl (by kernel_rfl) (by kernel_rfl) (by kernel_rfl) (fun _ _ _ h => h) (Or.inl ⟨by rfl, ?_⟩) hSS ?_
                          rotate_left
                          · intro wz hSz
                            go_simp
                            try with_reducible rfl
                          simp only [List.getElem_toArray, List.getElem_cons_zero, List.getElem_cons_succ, Act.put, List.setIfInBounds_toArray, List.set_cons_zero, List.set_cons_succ]
                          refine wpAnyH_take (i := 25) (v := ?_) rfl (by kernel_rfl) (by kernel_rfl) (by kernel_rfl) (fun _ _ _ h => h) (Or.inl ⟨by rfl, ?_⟩) hSS ?_
                          rotate_left
                          · intro wz hSz
                            go_simp
                            try with_reducible rfl
                          simp only [List.getElem_toArray, List.getElem_cons_zero, List.getElem_cons_succ, Act.put, List.setIfInBounds_toArray, List.set_cons_zero, List.set_cons_succ]
                          refine wpAnyH_take (i := 26) (v := ?_) rfl (by kernel_rfl) (by kernel_rfl) (by kernel_rfl) (fun _ _ _ h => h) (Or.inl ⟨by rfl, ?_⟩) hSS ?_
                          rotate_left
                          · intro wz hSz
                            have hcc := HSZ.out _ hSz; obtain ⟨⟨a0, a1, a2⟩, ⟨b1, b2⟩, -, -⟩ := hcc; obtain ⟨k0, k1⟩ := HKK.out _ hSz
                            go_simp
                            try with_reducible rfl
                          simp only [List.getElem_toArray, List.getElem_cons_zero, List.getElem_cons_succ, Act.put, List.setIfInBounds_toArray, List.set_cons_zero, List.set_cons_succ]
                          refine wpAnyH_take (i := 27) (v := (.bool false)) rfl (by kernel_rfl) (by kernel_rfl) (by kernel_rfl) (fun _ _ _ h => h) (Or.inl ⟨by rfl, ?_⟩) hSS ?_
                          · intro wz hSz
                            go_simp
                          simp only [List.getElem_toArray, List.getElem_cons_zero, List.getElem_cons_succ, Act.put, List.setIfInBounds_toArray, List.set_cons_zero, List.set_cons_succ]
                          refine wpAnyH_take (i := 28) (v := (.bool false)) rfl (by kernel_rfl) (by kernel_rfl) (by kernel_rfl) (fun _ _ _ h => h) (Or.inl ⟨by rfl, ?_⟩) hSS ?_
                          · intro wz hSz
                            go_simp
                          simp only [List.getElem_toArray, List.getElem_cons_zero, List.getElem_cons_succ, Act.put, List.setIfInBounds_toArray, List.set_cons_zero, List.set_cons_succ]
                          refine wpAnyH_take (i := 29) (v := (.bool false)) rfl (by kernel_rfl) (by kernel_rfl) (by kernel_rfl) (fun _ _ _ h => h) (Or.inl ⟨by rfl, ?_⟩) hSS ?_
                          · intro wz hSz
                            go_simp
                          simp only [List.getElem_toArray, List.getElem_cons_zero, List.getElem_cons_succ, Act.put, List.setIfInBounds_toArray, List.set_cons_zero, List.set_cons_succ]
                          refine wpAnyH_done (by kernel_rfl) ?_ _
                          go_wp2_with fail
                          go_roundw
                          case rel => exact ⟨j + 1, by omega, by go_num, ht2, htk2, hb.trans (hSS.mono hb.size)⟩
                          case measure => simp [intOf]; omega
                        · have hne : Hid (V.mk k b n m s l ks ≠ V.mk k b n m s l' ks') := hk2 hke
                          have hte := toList_ne hke
                          clear hkc hk1 hk2 HKQ
                          generalize ks[j] = y1 at *
                          generalize ks'[j] = y2 at *
                          refine wpAnyH_take (i := 11) (v := (.bool false)) rfl (by kernel_rfl) (by kernel_rfl) (by kernel_rfl) (fun _ _ _ h => h) (Or.inl ⟨by rfl, ?_⟩) hSS ?_
                          · intro wz hSz
                            go_simp
                          simp only [List.getElem_toArray, List.getElem_cons_zero, List.getElem_cons_succ, Act.put, List.setIfInBounds_toArray, List.set_cons_zero, List.set_cons_succ]
                          refine wpAnyH_take (i := 12) (v := (.bool false)) rfl (by kernel_rfl) (by kernel_rfl) (by kernel_rfl) (fun _ _ _ h => h) (Or.inl ⟨by rfl, ?_⟩) hSS ?_
                          · intro wz hSz
                            go_simp
                          simp only [List.getElem_toArray, List.getElem_cons_zero, List.getElem_cons_succ, Act.put, List.setIfInBounds_toArray, List.set_cons_zero, List.set_cons_succ]
                          refine wpAnyH_take (i := 13) (v := ?_) rfl (by kernel_rfl) (by kernel_rfl) (by kernel_rfl) (fun _ _ _ h => h) (Or.inl ⟨by rfl, ?_⟩) hSS ?_
                          rotate_left
                          · intro wz hSz
                            go_simp
                            try with_reducible rfl
                          simp only [List.getElem_toArray, List.getElem_cons_zero, List.getElem_cons_succ, Act.put, List.setIfInBounds_toArray, List.set_cons_zero, List.set_cons_succ]
                          refine wpAnyH_take (i := 14) (v := ?_) rfl (by kernel_rfl) (by kernel_rfl) (by kernel_rfl) (fun _ _ _ h => h) (Or.inl ⟨by rfl, ?_⟩) hSS ?_
                          rotate_left
                          · intro wz hSz
                            have hcc := HSZ.out _ hSz; obtain ⟨⟨a0, a1, a2⟩, ⟨b1, b2⟩, -, -⟩ := hcc
                            go_simp
                            try with_reducible rfl
                          simp only [List.getElem_toArray, List.getElem_cons_zero, List.getElem_cons_succ, Act.put, List.setIfInBounds_toArray, List.set_cons_zero, List.set_cons_succ]
                          refine wpAnyH_take (i := 15) (v := (.bool true)) rfl (by kernel_rfl) (by kernel_rfl) (by kernel_rfl) (fun _ _ _ h => h) (Or.inl ⟨by rfl, ?_⟩) hSS ?_
                          · intro wz hSz
                            have h77 := H7.out
                            go_simp
                          simp only [List.getElem_toArray, List.getElem_cons_zero, List.getElem_cons_succ, Act.put, List.setIfInBounds_toArray, List.set_cons_zero, List.set_cons_succ]
                          refine wpAnyH_take (i := 16) (v := (.bool true)) rfl (by kernel_rfl) (by kernel_rfl) (by kernel_rfl) (fun _ _ _ h => h) (Or.inl ⟨by rfl, ?_⟩) hSS ?_
                          · intro wz hSz
                            go_simp
                          simp only [List.getElem_toArray, List.getElem_cons_zero, List.getElem_cons_succ, Act.put, List.setIfInBounds_toArray, List.set_cons_zero, List.set_cons_succ]
                          refine wpAnyH_take (i := 17) (v := ?_) rfl (by kernel_rfl) (by kernel_rfl) (by kernel_rfl) (fun _ _ _ h => h) (Or.inl ⟨by rfl, ?_⟩) hSS ?_
                          rotate_left
                          · intro wz hSz
                            go_simp
                            try with_reducible rfl
                          simp only [List.getElem_toArray, List.getElem_cons_zero, List.getElem_cons_succ, Act.put, List.setIfInBounds_toArray, List.set_cons_zero, List.set_cons_succ]
                          refine wpAnyH_take (i := 18) (v := ?_) rfl (by kernel_rfl) (by kernel_rfl) (by kernel_rfl) (fun _ _ _ h => h) (Or.inl ⟨by rfl, ?_⟩) hSS ?_
                          rotate_left
                          · intro wz hSz
                            have hcc := HSZ.out _ hSz; obtain ⟨⟨a0, a1, a2⟩, ⟨b1, b2⟩, -, -⟩ := hcc; obtain ⟨k0, k1⟩ := HKK.out _ hSz
                            go_simp
                            try with_reducible rfl
                          simp only [List.getElem_toArray, List.getElem_cons_zero, List.getElem_cons_succ, Act.put, List.setIfInBounds_toArray, List.set_cons_zero, List.set_cons_succ]
                          refine wpAnyH_take (i := 19) (v := ?_) rfl (by kernel_rfl) (by kernel_rfl) (by kernel_rfl) (fun _ _ _ h => h) (Or.inl ⟨by rfl, ?_⟩) hSS ?_
                          rotate_left
                          · intro wz hSz
                            go_simp
                            try with_reducible rfl
                          simp only [List.getElem_toArray, List.getElem_cons_zero, List.getElem_cons_succ, Act.put, List.setIfInBounds_toArray, List.set_cons_zero, List.set_cons_succ]
                          refine wpAnyH_take (i := 20) (v := ?_) rfl (by kernel_rfl) (by kernel_rfl) (by kernel_rfl) (fun _ _ _ h => h) (Or.inl ⟨by rfl, ?_⟩) hSS ?_
                          rotate_left
                          · intro wz hSz
                            go_simp
                            try with_reducible rfl
                          simp only [List.getElem_toArray, List.getElem_cons_zero, List.getElem_cons_succ, Act.put, List.setIfInBounds_toArray, List.set_cons_zero, List.set_cons_succ]
                          refine wpAnyH_take (i := 21) (v := ?_) rfl (by kernel_rfl) (by kernel_rfl) (by kernel_rfl) (fun _ _ _ h => h) (Or.inl ⟨by rfl, ?_⟩) hSS ?_
                          rotate_left
                          · intro wz hSz
                            have hcc := HSZ.out _ hSz; obtain ⟨⟨a0, a1, a2⟩, ⟨b1, b2⟩, -, -⟩ := hcc; obtain ⟨k0, k1⟩ := HKK.out _ hSz
                            go_simp
                            try with_reducible rfl
                          simp only [List.getElem_toArray, List.getElem_cons_zero, List.getElem_cons_succ, Act.put, List.setIfInBounds_toArray, List.set_cons_zero, List.set_cons_succ]
                          refine wpAnyH_take (i := 22) (v := ?_) rfl (by kernel_rfl) (by kernel_rfl) (by kernel_rfl) (fun _ _ _ h => h) (Or.inl ⟨by rfl, ?_⟩) hSS ?_
                          rotate_left
                          · intro wz hSz
                            go_simp
                            try with_reducible rfl
                          simp only [List.getElem_toArray, List.getElem_cons_zero, List.getElem_cons_succ, Act.put, List.setIfInBounds_toArray, List.set_cons_zero, List.set_cons_succ]
                          refine wpAnyH_take (i := 23) (v := ?_) rfl (by kernel_rfl) (by kernel_rfl) (by kernel_rfl) (fun _ _ _ h => h) (Or.inl ⟨by rfl, ?_⟩) hSS ?_
                          rotate_left
                          · intro wz hSz
                            have hcc := HSZ.out _ hSz; obtain ⟨⟨a0, a1, a2⟩, ⟨b1, b2⟩, -, -⟩ := hcc; obtain ⟨k0, k1⟩ := HKK.out _ hSz
                            go_simp
                            try with_reducible rfl
                          simp only [List.getElem_toArray, List.getElem_cons_zero, List.getElem_cons_succ, Act.put, List.setIfInBounds_toArray, List.set_cons_zero, List.set_cons_succ]
                          refine wpAnyH_take (i := 24) (v := ?_) rfl (by kernel_rfl) (by kernel_rfl) (by kernel_rfl) (fun _ _ _ h => h) (Or.inl ⟨by rfl, ?_⟩) hSS ?_
                          rotate_left
                          · intro wz hSz
                            go_simp
                            try with_reducible rfl
                          simp only [List.getElem_toArray, List.getElem_cons_zero, List.getElem_cons_succ, Act.put, List.setIfInBounds_toArray, List.set_cons_zero, List.set_cons_succ]
                          refine wpAnyH_take (i := 25) (v := ?_) rfl (by kernel_rfl) (by kernel_rfl) (by kernel_rfl) (fun _ _ _ h => h) (Or.inl ⟨by rfl, ?_⟩) hSS ?_
                          rotate_left
                          · intro wz hSz
                            go_simp
                            try with_reducible rfl
                          simp only [List.getElem_toArray, List.getElem_cons_zero, List.getElem_cons_succ, Act.put, List.setIfInBounds_toArray, List.set_cons_zero, List.set_cons_succ]
                          refine wpAnyH_take (i := 26) (v := ?_) rfl (by kernel_rfl) (by kernel_rfl) (by kernel_rfl) (fun _ _ _ h => h) (Or.inl ⟨by rfl, ?_⟩) hSS ?_
                          rotate_left
                          · intro wz hSz
                            have hcc := HSZ.out _ hSz; obtain ⟨⟨a0, a1, a2⟩, ⟨b1, b2⟩, -, -⟩ := hcc; obtain ⟨k0, k1⟩ := HKK.out _ hSz
                            go_simp
                            try with_reducible rfl
                          simp only [List.getElem_toArray, List.getElem_cons_zero, List.getElem_cons_succ, Act.put, List.setIfInBounds_toArray, List.set_cons_zero, List.set_cons_succ]
                          refine wpAnyH_take (i := 27) (v := (.bool true)) rfl (by kernel_rfl) (by kernel_rfl) (by kernel_rfl) (fun _ _ _ h => h) (Or.inl ⟨by rfl, ?_⟩) hSS ?_
                          · intro wz hSz
                            go_simp
                          simp only [List.getElem_toArray, List.getElem_cons_zero, List.getElem_cons_succ, Act.put, List.setIfInBounds_toArray, List.set_cons_zero, List.set_cons_succ]
                          refine wpAnyH_take (i := 28) (v := (.bool true)) rfl (by kernel_rfl) (by kernel_rfl) (by kernel_rfl) (fun _ _ _ h => h) (Or.inl ⟨by rfl, ?_⟩) hSS ?_
                          · intro wz hSz
                            go_simp
                          simp only [List.getElem_toArray, List.getElem_cons_zero, List.getElem_cons_succ, Act.put, List.setIfInBounds_toArray, List.set_cons_zero, List.set_cons_succ]
                          refine wpAnyH_take (i := 29) (v := (.bool true)) rfl (by kernel_rfl) (by kernel_rfl) (by kernel_rfl) (fun _ _ _ h => h) (Or.inl ⟨by rfl, ?_⟩) hSS ?_
                          · intro wz hSz
                            go_simp
                          simp only [List.getElem_toArray, List.getElem_cons_zero, List.getElem_cons_succ, Act.put, List.setIfInBounds_toArray, List.set_cons_zero, List.set_cons_succ]
                          refine wpAnyH_done (by kernel_rfl) ?_ _
                          go_wp2_with fail
                          go_ret
                          first | exact ⟨⟨false, rfl, by simpa using hne.out⟩, hBr.trans (hSS.mono hBr.size)⟩ | exact ⟨Or.inl ⟨rfl, fun _ h1 h2 => hne.out (by rw [h1, h2])⟩, hBr.trans (hSS.mono hBr.size)⟩
                      · have htk2 : Hid (k = 7 → ks.take (j + 1) = ks'.take (j + 1)) := fun e => absurd e h7
                        have h7' : (k == 7) = false := by simpa using h7
                        refine wpAnyH_take (i := 11) (v := (.bool false)) rfl (by kernel_rfl) (by kernel_rfl) (by kernel_rfl) (fun _ _ _ h => h) (Or.inl ⟨by rfl, ?_⟩) hSS ?_
                        · intro wz hSz
                          go_simp
                        simp only [List.getElem_toArray, List.getElem_cons_zero, List.getElem_cons_succ, Act.put, List.setIfInBounds_toArray, List.set_cons_zero, List.set_cons_succ]
                        refine wpAnyH_take (i := 12) (v := (.bool false)) rfl (by kernel_rfl) (by kernel_rfl) (by kernel_rfl) (fun _ _ _ h => h) (Or.inl ⟨by rfl, ?_⟩) hSS ?_
                        · intro wz hSz
                          go_simp
                        simp only [List.getElem_toArray, List.getElem_cons_zero, List.getElem_cons_succ, Act.put, List.setIfInBounds_toArray, List.set_cons_zero, List.set_cons_succ]
                        refine wpAnyH_take (i := 13) (v := ?_) rfl (by kernel_rfl) (by kernel_rfl) (by kernel_rfl) (fun _ _ _ h => h) (Or.inl ⟨by rfl, ?_⟩) hSS ?_
                        rotate_left
                        · intro wz hSz
                          go_simp
                          try with_reducible rfl
                        simp only [List.getElem_toArray, List.getElem_cons_zero, List.getElem_cons_succ, Act.put, List.setIfInBounds_toArray, List.set_cons_zero, List.set_cons_succ]
                        refine wpAnyH_take (i := 14) (v := ?_) rfl (by kernel_rfl) (by kernel_rfl) (by kernel_rfl) (fun _ _ _ h => h) (Or.inl ⟨by rfl, ?_⟩) hSS ?_
                        rotate_left
                        · intro wz hSz
                          have hcc := HSZ.out _ hSz; obtain ⟨⟨a0, a1, a2⟩, ⟨b1, b2⟩, -, -⟩ := hcc
                          go_simp
                          try with_reducible rfl
                        simp only [List.getElem_toArray, List.getElem_cons_zero, List.getElem_cons_succ, Act.put, List.setIfInBounds_toArray, List.set_cons_zero, List.set_cons_succ]
                        refine wpAnyH_take (i := 15) (v := (.bool false)) rfl (by kernel_rfl) (by kernel_rfl) (by kernel_rfl) (fun _ _ _ h => h) (Or.inl ⟨by rfl, ?_⟩) hSS ?_
                        · intro wz hSz
                          go_simp
                        simp only [List.getElem_toArray, List.getElem_cons_zero, List.getElem_cons_succ, Act.put, List.setIfInBounds_toArray, List.set_cons_zero, List.set_cons_succ]
                        refine wpAnyH_take (i := 16) (v := (.bool false)) rfl (by kernel_rfl) (by kernel_rfl) (by kernel_rfl) (fun _ _ _ h => h) (Or.inl ⟨by rfl, ?_⟩) hSS ?_
                        · intro wz hSz
                          go_simp
                        simp only [List.getElem_toArray, List.getElem_cons_zero, List.getElem_cons_succ, Act.put, List.setIfInBounds_toArray, List.set_cons_zero, List.set_cons_succ]
                        refine wpAnyH_take (i := 17) (v := undef) rfl (by kernel_rfl) (by kernel_rfl) (by kernel_rfl) (fun _ _ _ h => h) (Or.inr ⟨by rfl, rfl⟩) hSS ?_
                        simp only [List.getElem_toArray, List.getElem_cons_zero, List.getElem_cons_succ, Act.put, List.setIfInBounds_toArray, List.set_cons_zero, List.set_cons_succ]
                        refine wpAnyH_take (i := 18) (v := undef) rfl (by kernel_rfl) (by kernel_rfl) (by kernel_rfl) (fun _ _ _ h => h) (Or.inr ⟨by rfl, rfl⟩) hSS ?_
                        simp only [List.getElem_toArray, List.getElem_cons_zero, List.getElem_cons_succ, Act.put, List.setIfInBounds_toArray, List.set_cons_zero, List.set_cons_succ]
                        refine wpAnyH_take (i := 19) (v := undef) rfl (by kernel_rfl) (by kernel_rfl) (by kernel_rfl) (fun _ _ _ h => h) (Or.inr ⟨by rfl, rfl⟩) hSS ?_
                        simp only [List.getElem_toArray, List.getElem_cons_zero, List.getElem_cons_succ, Act.put, List.setIfInBounds_toArray, List.set_cons_zero, List.set_cons_succ]
                        refine wpAnyH_take (i := 20) (v := undef) rfl (by kernel_rfl) (by kernel_rfl) (by kernel_rfl) (fun _ _ _ h => h) (Or.inr ⟨by rfl, rfl⟩) hSS ?_
                        simp only [List.getElem_toArray, List.getElem_cons_zero, List.getElem_cons_succ, Act.put, List.setIfInBounds_toArray, List.set_cons_zero, List.set_cons_succ]
                        refine wpAnyH_take (i := 21) (v := undef) rfl (by kernel_rfl) (by kernel_rfl) (by kernel_rfl) (fun _ _ _ h => h) (Or.inr ⟨by rfl, rfl⟩) hSS ?_
                        simp only [List.getElem_toArray, List.getElem_cons_zero, List.getElem_cons_succ, Act.put, List.setIfInBounds_toArray, List.set_cons_zero, List.set_cons_succ]
                        refine wpAnyH_take (i := 22) (v := undef) rfl (by kernel_rfl) (by kernel_rfl) (by kernel_rfl) (fun _ _ _ h => h) (Or.inr ⟨by rfl, rfl⟩) hSS ?_
                        simp only [List.getElem_toArray, List.getElem_cons_zero, List.getElem_cons_succ, Act.put, List.setIfInBounds_toArray, List.set_cons_zero, List.set_cons_succ]
                        refine wpAnyH_take (i := 23) (v := undef) rfl (by kernel_rfl) (by kernel_rfl) (by kernel_rfl) (fun _ _ _ h => h) (Or.inr ⟨by rfl, rfl⟩) hSS ?_
                        simp only [List.getElem_toArray, List.getElem_cons_zero, List.getElem_cons_succ, Act.put, List.setIfInBounds_toArray, List.set_cons_zero, List.set_cons_succ]
                        refine wpAnyH_take (i := 24) (v := undef) rfl (by kernel_rfl) (by kernel_rfl) (by kernel_rfl) (fun _ _ _ h => h) (Or.inr ⟨by rfl, rfl⟩) hSS ?_
                        simp only [List.getElem_toArray, List.getElem_cons_zero, List.getElem_cons_succ, Act.put, List.setIfInBounds_toArray, List.set_cons_zero, List.set_cons_succ]
                        refine wpAnyH_take (i := 25) (v := undef) rfl (by kernel_rfl) (by kernel_rfl) (by kernel_rfl) (fun _ _ _ h => h) (Or.inr ⟨by rfl, rfl⟩) hSS ?_
                        simp only [List.getElem_toArray, List.getElem_cons_zero, List.getElem_cons_succ, Act.put, List.setIfInBounds_toArray, List.set_cons_zero, List.set_cons_succ]
                        refine wpAnyH_take (i := 26) (v := undef) rfl (by kernel_rfl) (by kernel_rfl) (by kernel_rfl) (fun _ _ _ h => h) (Or.inr ⟨by rfl, rfl⟩) hSS ?_
                        simp only [List.getElem_toArray, List.getElem_cons_zero, List.getElem_cons_succ, Act.put, List.setIfInBounds_toArray, List.set_cons_zero, List.set_cons_succ]
                        refine wpAnyH_take (i := 27) (v := undef) rfl (by kernel_rfl) (by kernel_rfl) (by kernel_rfl) (fun _ _ _ h => h) (Or.inr ⟨by rfl, rfl⟩) hSS ?_
                        simp only [List.getElem_toArray, List.getElem_cons_zero, List.getElem_cons_succ, Act.put, List.setIfInBounds_toArray, List.set_cons_zero, List.set_cons_succ]
                        refine wpAnyH_take (i := 28) (v := (.bool false)) rfl (by kernel_rfl) (by kernel_rfl) (by kernel_rfl) (fun _ _ _ h => h) (Or.inl ⟨by rfl, ?_⟩) hSS ?_
                        · intro wz hSz
                          go_simp
                        simp only [List.getElem_toArray, List.getElem_cons_zero, List.getElem_cons_succ, Act.put, List.setIfInBounds_toArray, List.set_cons_zero, List.set_cons_succ]
                        refine wpAnyH_take (i := 29) (v := (.bool false)) rfl (by kernel_rfl) (by kernel_rfl) (by kernel_rfl) (fun _ _ _ h => h) (Or.inl ⟨by rfl, ?_⟩) hSS ?_
                        · intro wz hSz
                          go_simp
                        simp only [List.getElem_toArray, List.getElem_cons_zero, List.getElem_cons_succ, Act.put, List.setIfInBounds_toArray, List.set_cons_zero, List.set_cons_succ]
                        refine wpAnyH_done (by kernel_rfl) ?_ _
                        go_wp2_with fail
                        go_roundw
                        case rel => exact ⟨j + 1, by omega, by go_num, ht2, htk2, hb.trans (hSS.mono hb.size)⟩
                        case measure => simp [intOf]; omega
                  · have heq : Hid (V.mk k b n m s l ks = V.mk k b n m s l' ks') := by
                      have h1 := ht.out
                      rw [List.take_of_length_le (by omega), List.take_of_length_le (by have := HL6.out; omega)] at h1
                      refine HIFF.out.2 ⟨by trivial, by trivial, by trivial, by trivial, by trivial, h1, fun e7 => ?_⟩
                      have h2 := htk.out e7
                      rwa [List.take_of_length_le (by have := HKL.out.1 e7; omega), List.take_of_length_le (by have := HKL.out.2 e7; have := HL6.out; omega)] at h2
                    clear CC HB hc hcY HCX HCY HKL ht htk hinY hkeys hkY HIFF
                    go_wp2_with fail
                    go_ret
                    exact ⟨⟨true, rfl, by simpa using heq.out⟩, hBr⟩
              · have hne : V.mk k b n m s l ks ≠ V.mk k b n m s l' ks' := fun e => e6 (by simp at e; rw [e.1])
                have hl6 : ¬ ((l.length : Nat) : Int) = ((l'.length : Nat) : Int) := by omega
                clear HB CC HCX HCY HKL hcY hinY hkY hkeys hc HIFF
                go_enter Try.func31, Try.ntmps31
                go_wp2_with fail
                go_ret
                exact ⟨⟨false, rfl, by simpa using hne⟩, hBx⟩
            · have hne : V.mk k b n m s l ks ≠ V.mk k b n m s' l' ks' := fun e => e5 (by simp at e; exact e.1)
              have hte := toList_ne e5
              clear HB CC HCX HCY HKL hcY hinY hkY hkeys hc HIFF
              go_enter Try.func31, Try.ntmps31
              go_wp2_with fail
              go_ret
              exact ⟨⟨false, rfl, by simpa using hne⟩, hBx⟩
          · have hne : V.mk k b n m s l ks ≠ V.mk k b n m' s' l' ks' := fun e => e4 (by simp at e; exact e.1)
            clear HB CC HCX HCY HKL hcY hinY hkY hkeys hc HIFF
            go_enter Try.func31, Try.ntmps31
            go_wp2_with fail
            go_ret
            exact ⟨⟨false, rfl, by simpa using hne⟩, hBx⟩
        · have hne : V.mk k b n m s l ks ≠ V.mk k b n' m' s' l' ks' := fun e => e3 (by simp at e; exact e.1)
          clear HB CC HCX HCY HKL hcY hinY hkY hkeys hc HIFF
          go_enter Try.func31, Try.ntmps31
          go_wp2_with fail
          go_ret
          exact ⟨⟨false, rfl, by simpa using hne⟩, hBx⟩
      · have hne : V.mk k b n m s l ks ≠ V.mk k b' n' m' s' l' ks' := fun e => e2 (by simp at e; exact e.1)
        clear HB CC HCX HCY HKL hcY hinY hkY hkeys hc HIFF
        go_enter Try.func31, Try.ntmps31
        go_wp2_with fail
        go_ret
        exact ⟨⟨false, rfl, by simpa using hne⟩, hBx⟩
    · have hne : V.mk k b n m s l ks ≠ V.mk k' b' n' m' s' l' ks' := fun e => e1 (by simp at e; exact e.1)
      clear HB CC HCX HCY HKL hcY hinY hkY hkeys hc HIFF
      go_enter Try.func31, Try.ntmps31
      go_wp2_with fail
      go_ret
      exact ⟨⟨false, rfl, by simpa using hne⟩, hBx⟩
end Go.Proofs.Ytindmbedolokaaa
