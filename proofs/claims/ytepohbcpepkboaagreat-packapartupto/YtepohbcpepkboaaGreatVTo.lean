/- What the law's To makes of a clean value: the program's value. Condition: a value of at most 1048576 values and letters. -/
import Derived.Test.YtepohbcpepkboaaGreatVCleanP
namespace Go.Proofs.YtepohbcpepkboaaGreat
open Go.RowKit Go.Maps Go.WideMaps

set_option maxRecDepth 100000 in
theorem wpList_append_at {w : World} {ops : Array Oper} {rest : List Oper} {o : Oper} {a : Act} {Q : Exit → Act → World → Prop} (hgd : o.guard = none) (s x : Operand) (T E : TypeId) (z : Value) (bytes : Nat)
    (hu : Tryz.prog.underlying T = some (.slice E)) (hinfo : (Tryz.prog.info? E).map (fun i => (i.zero, i.size, i.bytes)) = some (some z, 1, bytes)) (hzc : z.cells.size = 1) (hby : bytes ≤ 16)
    (ho : o.op = .call { callee := .builtin .append, args := #[s, x], argTypes := #[T, T] }) (base : Nat) (v : Value) (n : Nat) (xs : List Value) (hs : a.eval s = v) (hown : w.ownsRow base E 1 v n xs)
    (ao : Option Addr) (us : List Value) (m cap : Nat) (hx : a.eval x = .slice ao m cap) (hm : us.length = m) {ok : Nat → Prop} (hrow : CRow w ok ao us) (hnil : ao = none → m = 0 ∧ cap = 0) (h1 : ∀ u ∈ us, u.oneCell' = true)
    (hb : n + m ≤ 1099511627776) (hbase : base ≤ w.heap.size)
    (h : ∀ v' w', w'.ownsRow base E 1 v' (n + m) (xs ++ us) → w.grownBy w' v.ownBlock → (v'.ownBlock = v.ownBlock ∨ v'.ownBlock = some w.heap.size) → wpList Tryz.prog ops Q rest (a.put o.dst v') w') : wpList Tryz.prog ops Q (o :: rest) a w := by
  obtain ⟨i0, hi, hz0, hz1, hz2⟩ := info_parts hinfo
  cases ao with
  | none =>
    obtain ⟨h0, rfl⟩ := hnil rfl
    subst h0
    have hz : us = [] := List.eq_nil_of_length_eq_zero hm
    subst hz
    refine wpList_append_own_none hgd s x T ho base E i0 1 hu hi v n xs hs hown hx (h v w ?_ (World.grownBy.refl _ _) (Or.inl rfl))
    simpa using hown
  | some ad =>
    refine wpList_append_own_at w hgd s x T ho base E i0 z 1 bytes hu hi hz0 hz1 hz2 hzc (by decide) v n xs hs hown ad m cap us hx (by simp [hm]) ?_ h1
      (by unfold maxLen; omega) ?_ hbase (fun v' w' h1 h2 _ h4 => h v' w' h1 h2 h4)
    · intro j u hju
      obtain ⟨b, off, e, -, hc⟩ := hrow (by intro e; rw [e] at hju; simp at hju)
      obtain rfl := Option.some.inj e
      rw [Addr.add_lit]
      exact hc j u hju
    · have : (n + m) * bytes ≤ 1099511627776 * 16 := Nat.mul_le_mul hb hby
      omega
/-- To's own blocks: the value, the answer. -/
def B2 (w W : World) (v : V) (p : VP) : Prop :=
  W.heap[w.heap.size]? = some (.cells #[.int .i64 v.k, .bool v.b, .int .i64 v.n, .int .i64 v.m, .string v.s, .slice p.la v.l.length p.lc, .slice p.ka v.keys.length p.kc] 25 (0, 0)) ∧ W.heap[w.heap.size + 1]? = some (.cells #[.nilIface] 34 (0, 0)) ∧ Below w.heap.size w W
set_option maxRecDepth 100000 in
theorem B2.start (w : World) (v : V) (p : VP) : B2 w ((w.alloc (.cells #[.int .i64 v.k, .bool v.b, .int .i64 v.n, .int .i64 v.m, .string v.s, .slice p.la v.l.length p.lc, .slice p.ka v.keys.length p.kc] 25)).alloc (.cells #[.nilIface] 34)) v p := by
  refine ⟨?_, ?_, ((Below.refl _ _).alloc (Nat.le_refl _) _).alloc (by simp) _⟩
  · rw [Below.heap_alloc _ _ _ (by simp)]; exact heap_alloc_new _ _
  · simpa using heap_alloc_new (w.alloc (.cells #[.int .i64 v.k, .bool v.b, .int .i64 v.n, .int .i64 v.m, .string v.s, .slice p.la v.l.length p.lc, .slice p.ka v.keys.length p.kc] 25)) (.cells #[.nilIface] 34)
set_option maxRecDepth 100000 in
theorem B2.lt {w W : World} {v : V} {p : VP} (hB : B2 w W v p) : w.heap.size + 1 < W.heap.size := (Array.getElem?_eq_some_iff.1 hB.2.1).1
set_option maxRecDepth 100000 in
theorem B2.below {w W W' : World} {v : V} {p : VP} (hB : B2 w W v p) (hb : Below W.heap.size W W') : B2 w W' v p := by
  have l := hB.lt
  obtain ⟨a, b, d⟩ := hB
  exact ⟨(hb.block _ (by omega)).trans a, (hb.block _ l).trans b, d.trans (hb.mono (by omega))⟩
set_option maxRecDepth 100000 in
theorem B2.grown {w W W' : World} {v : V} {p : VP} (hB : B2 w W v p) {row : Option Nat} (hg : W.grownBy W' row) (hr : ∀ k, row = some k → w.heap.size + 2 ≤ k) : B2 w W' v p := by
  have l := hB.lt
  obtain ⟨a, b, d⟩ := hB
  exact ⟨(hg.block _ (by omega) (fun e => by have := hr _ e.symm; omega)).trans a, (hg.block _ l (fun e => by have := hr _ e.symm; omega)).trans b, d.grown hg (by omega) (fun k hk => by have := hr k hk; omega)⟩
set_option maxRecDepth 100000 in
theorem B2.cells {w W : World} {v : V} {p : VP} (hB : B2 w W v p) : W.cell? ⟨w.heap.size, 0, none⟩ = some (.int .i64 v.k) ∧ W.cell? ⟨w.heap.size, 5, none⟩ = some (.slice p.la v.l.length p.lc) ∧ W.cell? ⟨w.heap.size, 6, none⟩ = some (.slice p.ka v.keys.length p.kc) ∧ W.cell? ⟨w.heap.size + 1, 0, none⟩ = some .nilIface ∧ W.frozen? ⟨w.heap.size + 1, 0, none⟩ = false := by
  obtain ⟨a, b, d⟩ := hB
  exact ⟨cell_of_row _ _ _ _ _ _ a, cell_of_row _ _ _ _ _ _ a, cell_of_row _ _ _ _ _ _ a, cell_of_row _ _ _ _ _ _ b, frozen_of_row _ _ _ _ _ b⟩
set_option maxRecDepth 100000 in
theorem B2.done {w W : World} {v x : V} {p : VP} (hB : B2 w W v p) {u : Value} (hr : Rep W (fun b => w.heap.size + 2 ≤ b) u x) : (W.setCell ⟨w.heap.size + 1, 0, none⟩ u).cell? ⟨w.heap.size + 1, 0, none⟩ = some u ∧ Below w.heap.size w (W.setCell ⟨w.heap.size + 1, 0, none⟩ u) ∧ Rep (W.setCell ⟨w.heap.size + 1, 0, none⟩ u) (fun b => w.heap.size ≤ b) u x := by
  obtain ⟨a, b, d⟩ := hB
  exact ⟨cell_of_row _ _ _ _ _ _ (heap_setCell_same _ _ 0 _ _ u b), d.setCell (by simp) _, (hr.agree (Agree.setCell (w := W) (n := w.heap.size + 1) (i := 0) u (by omega))).mono (fun b hb _ => by omega)⟩
set_option maxRecDepth 100000 in
theorem cl_cases {k : Int} {b : Bool} {n m : Int} {s : ByteArray} {l : List V} {q : List ByteArray} (h : (V.mk k b n m s l q).cl) :
    (k = 0 ∧ b = false ∧ n = 0 ∧ m = 0 ∧ s = ByteArray.empty ∧ l = [] ∧ q = []) ∨ (k = 1 ∧ b = false ∧ n = 0 ∧ m = 0 ∧ s = ByteArray.empty ∧ l = [] ∧ q = []) ∨ (k = 2 ∧ n = 0 ∧ m = 0 ∧ s = ByteArray.empty ∧ l = [] ∧ q = []) ∨
    (k = 3 ∧ b = false ∧ m = 0 ∧ s = ByteArray.empty ∧ l = [] ∧ q = []) ∨ (k = 4 ∧ b = false ∧ s = ByteArray.empty ∧ l = [] ∧ q = [] ∧ (-9007199254740992 ≤ n ∧ n ≤ 9007199254740992) ∧ (-9007199254740992 ≤ m ∧ m ≤ 9007199254740992)) ∨ (k = 5 ∧ b = false ∧ n = 0 ∧ m = 0 ∧ l = [] ∧ q = []) ∨
    (k = 6 ∧ b = false ∧ n = 0 ∧ m = 0 ∧ s = ByteArray.empty ∧ q = [] ∧ V.cl.go l) ∨ (k = 7 ∧ b = false ∧ n = 0 ∧ m = 0 ∧ s = ByteArray.empty ∧ q.length = l.length ∧ Rising q ∧ V.cl.go l) := by
  simp only [V.cl] at h
  obtain ⟨⟨h1, h2⟩, hb, hn, hm, hs, hl, hq, h7, h4, hg⟩ := h
  have hk : k = 0 ∨ k = 1 ∨ k = 2 ∨ k = 3 ∨ k = 4 ∨ k = 5 ∨ k = 6 ∨ k = 7 := by omega
  rcases hk with rfl | rfl | rfl | rfl | rfl | rfl | rfl | rfl
  · exact Or.inl ⟨rfl, hb (by decide), hn (by decide) (by decide), hm (by decide), hs (by decide), hl (by decide) (by decide), hq (by decide)⟩
  · exact Or.inr (Or.inl ⟨rfl, hb (by decide), hn (by decide) (by decide), hm (by decide), hs (by decide), hl (by decide) (by decide), hq (by decide)⟩)
  · exact Or.inr (Or.inr (Or.inl ⟨rfl, hn (by decide) (by decide), hm (by decide), hs (by decide), hl (by decide) (by decide), hq (by decide)⟩))
  · exact Or.inr (Or.inr (Or.inr (Or.inl ⟨rfl, hb (by decide), hm (by decide), hs (by decide), hl (by decide) (by decide), hq (by decide)⟩)))
  · exact Or.inr (Or.inr (Or.inr (Or.inr (Or.inl ⟨rfl, hb (by decide), hs (by decide), hl (by decide) (by decide), hq (by decide), (h4 rfl).1, (h4 rfl).2⟩))))
  · exact Or.inr (Or.inr (Or.inr (Or.inr (Or.inr (Or.inl ⟨rfl, hb (by decide), hn (by decide) (by decide), hm (by decide), hl (by decide) (by decide), hq (by decide)⟩)))))
  · exact Or.inr (Or.inr (Or.inr (Or.inr (Or.inr (Or.inr (Or.inl ⟨rfl, hb (by decide), hn (by decide) (by decide), hm (by decide), hs (by decide), hq (by decide), hg⟩))))))
  · exact Or.inr (Or.inr (Or.inr (Or.inr (Or.inr (Or.inr (Or.inr ⟨rfl, hb (by decide), hn (by decide) (by decide), hm (by decide), hs (by decide), (h7 rfl).1, (h7 rfl).2, hg⟩))))))
set_option maxRecDepth 100000 in
set_option maxHeartbeats 3200000 in
theorem to_any {w0 : World} {ok : Nat → Prop} {v : V} {p : VP} (h : VIn w0 ok v p) : ∀ w, Below w0.heap.size w0 w → v.bulk ≤ 1048576 → v.cl →
    Calls Tryz.prog 11 #[v.val p] w fun e w' => ∃ u, e = .returned (.agg #[u]) ∧ Rep w' (fun b => w.heap.size ≤ b) u v ∧ Below w.heap.size w w' := by
  induction h using VIn.ind with
  | mk k b n m s l q p P hk hn hm hs hl hq hkeys hc hin ih =>
    intro w hb0 hbk hcl
    have hB0 := B2.start w (V.mk k b n m s l q) p
    obtain ⟨la, lc, ka, kc⟩ := p
    unfold V.val
    dsimp only [V.k, V.b, V.n, V.m, V.s, V.l, V.keys] at *
    rcases cl_cases hcl with ⟨rfl, rfl, rfl, rfl, rfl, rfl, rfl⟩ | ⟨rfl, rfl, rfl, rfl, rfl, rfl, rfl⟩ | ⟨rfl, rfl, rfl, rfl, rfl, rfl⟩ | ⟨rfl, rfl, rfl, rfl, rfl, rfl⟩ | ⟨rfl, rfl, rfl, rfl, rfl, hn1, hm1⟩ | ⟨rfl, rfl, rfl, rfl, rfl, rfl⟩ | ⟨rfl, rfl, rfl, rfl, rfl, rfl, hcg⟩ | ⟨rfl, rfl, rfl, rfl, rfl, hql, hri, hcg⟩
    · have RR : Hid (∀ W, Rep W (fun b => w.heap.size + 2 ≤ b) .nilIface _) := fun W => Rep.null
      clear hk hn hm hs hl hq hkeys hc hin ih hbk hcl hb0
      go_enter Tryz.func11, Tryz.ntmps11
      go_wp2_with fail
      refine (unset_any _).mono ?_
      rintro e w1 ⟨rfl, hb1⟩
      have hB1 := hB0.below hb1
      obtain ⟨x0, x5, x6, y0, y1⟩ := hB1.cells
      obtain ⟨g1, g2, g3⟩ := hB1.done (RR.out w1)
      clear hB0 hb1
      go_wp2_with fail
      exact bodyPost_ret (v := .agg #[.nilIface]) (by simp [results, Tryz.results11, go_sem, g1]) rfl ⟨_, rfl, g3, g2⟩
    · have RR : Hid (∀ W, Rep W (fun b => w.heap.size + 2 ≤ b) (.iface 107 (.agg #[])) _) := fun W => Rep.later
      clear hk hn hm hs hl hq hkeys hc hin ih hbk hcl hb0
      go_enter Tryz.func11, Tryz.ntmps11
      go_wp2_with fail
      refine (later_any _).mono ?_
      rintro e w1 ⟨rfl, hb1⟩
      have hB1 := hB0.below hb1
      obtain ⟨x0, x5, x6, y0, y1⟩ := hB1.cells
      obtain ⟨g1, g2, g3⟩ := hB1.done (RR.out w1)
      clear hB0 hb1
      go_wp2_with fail
      exact bodyPost_ret (v := .agg #[(.iface 107 (.agg #[]))]) (by simp [results, Tryz.results11, go_sem, g1]) rfl ⟨_, rfl, g3, g2⟩
    · have RR : Hid (∀ W, Rep W (fun b => w.heap.size + 2 ≤ b) (.iface 4 (.bool b)) _) := fun W => Rep.bool b
      clear hk hn hm hs hl hq hkeys hc hin ih hbk hcl hb0
      go_enter Tryz.func11, Tryz.ntmps11
      go_wp2_with fail
      refine (of_bool_any b _).mono ?_
      rintro e w1 ⟨rfl, hb1⟩
      have hB1 := hB0.below hb1
      obtain ⟨x0, x5, x6, y0, y1⟩ := hB1.cells
      obtain ⟨g1, g2, g3⟩ := hB1.done (RR.out w1)
      clear hB0 hb1
      go_wp2_with fail
      exact bodyPost_ret (v := .agg #[(.iface 4 (.bool b))]) (by simp [results, Tryz.results11, go_sem, g1]) rfl ⟨_, rfl, g3, g2⟩
    · have RR : Hid (∀ W, Rep W (fun b => w.heap.size + 2 ≤ b) (.iface 3 (.int .i64 n)) _) := fun W => Rep.int n hn
      clear hk hn hm hs hl hq hkeys hc hin ih hbk hcl hb0
      go_enter Tryz.func11, Tryz.ntmps11
      go_wp2_with fail
      refine (int_any n _).mono ?_
      rintro e w1 ⟨rfl, hb1⟩
      have hB1 := hB0.below hb1
      obtain ⟨x0, x5, x6, y0, y1⟩ := hB1.cells
      obtain ⟨g1, g2, g3⟩ := hB1.done (RR.out w1)
      clear hB0 hb1
      go_wp2_with fail
      exact bodyPost_ret (v := .agg #[(.iface 3 (.int .i64 n))]) (by simp [results, Tryz.results11, go_sem, g1]) rfl ⟨_, rfl, g3, g2⟩
    · have RR : Hid (∀ W, Rep W (fun b => w.heap.size + 2 ≤ b) (.iface 109 (.complex .f64 (floatOfInt .f64 n) (floatOfInt .f64 m))) _) := fun W => Rep.point n m hn1 hm1
      clear hk hn hm hs hl hq hkeys hc hin ih hbk hcl hb0
      go_enter Tryz.func11, Tryz.ntmps11
      go_wp2_with fail
      refine (point_yes n m _ hn1 hm1).mono ?_
      rintro e w1 ⟨rfl, hb1⟩
      have hB1 := (hB0.below hb1).below ((Below.refl _ w1).alloc (Nat.le_refl _) (.cells #[.iface 109 (.complex .f64 (floatOfInt .f64 n) (floatOfInt .f64 m))] 34))
      obtain ⟨x0, x5, x6, y0, y1⟩ := hB1.cells
      obtain ⟨g1, g2, g3⟩ := hB1.done (RR.out _)
      clear hB0 hb1
      go_wp2_with fail
      exact bodyPost_ret (v := .agg #[(.iface 109 (.complex .f64 (floatOfInt .f64 n) (floatOfInt .f64 m)))]) (by simp [results, Tryz.results11, go_sem, g1]) rfl ⟨_, rfl, g3, g2⟩
    · have RR : Hid (∀ W, Rep W (fun b => w.heap.size + 2 ≤ b) (.iface 9 (.string s)) _) := fun W => Rep.text s hs
      clear hk hn hm hs hl hq hkeys hc hin ih hbk hcl hb0
      go_enter Tryz.func11, Tryz.ntmps11
      go_wp2_with fail
      refine (text_any s _).mono ?_
      rintro e w1 ⟨rfl, hb1⟩
      have hB1 := hB0.below hb1
      obtain ⟨x0, x5, x6, y0, y1⟩ := hB1.cells
      obtain ⟨g1, g2, g3⟩ := hB1.done (RR.out w1)
      clear hB0 hb1
      go_wp2_with fail
      exact bodyPost_ret (v := .agg #[(.iface 9 (.string s))]) (by simp [results, Tryz.results11, go_sem, g1]) rfl ⟨_, rfl, g3, g2⟩
    · have hll : l.length ≤ 1048576 := by have := len_le_bulkL l; simp only [V.bulk] at hbk; omega
      have hbl : V.bulk.go l ≤ 1048576 := by simp only [V.bulk] at hbk; omega
      have CT : Hid (∀ (W : World) (j : Nat) (hj : j < l.length), Below w0.heap.size w0 W → Calls Tryz.prog 11 #[l[j].val (P j)] W fun e w' => ∃ u, e = .returned (.agg #[u]) ∧ u.oneCell' = true ∧ Rep w' (fun b => W.heap.size ≤ b) u l[j] ∧ Below W.heap.size W w') := fun W j hj hW => by
        refine (ih j hj W hW (Nat.le_trans (bulk_mem (List.getElem_mem hj)) hbl) (clL_mem hcg (List.getElem_mem hj))).mono ?_
        rintro e w' ⟨u, rfl, h1, h2⟩
        exact ⟨u, rfl, h1.one, h1, h2⟩
      have FIN : Hid (∀ (W : World) (a : Option Addr) (c : Nat), B2 w W (V.mk 6 false 0 0 ByteArray.empty l []) ⟨la, lc, ka, kc⟩ → RRow W (fun b => w.heap.size + 2 ≤ b) a l → SliceOk a l.length c → Calls Tryz.prog 32 #[.slice a l.length c] W fun e w' => ∃ u, e = .returned (.agg #[u]) ∧ u.oneCell' = true ∧ Rep w' (fun b => w.heap.size + 2 ≤ b) u (V.mk 6 false 0 0 ByteArray.empty l []) ∧ Below W.heap.size W w') := fun W a c hB hr hk => by
        have lt := hB.lt
        refine (list_any a l c W (ok := fun b => w.heap.size + 2 ≤ b) (fun b hb => by omega) hr hk hbl).mono ?_
        rintro e w' ⟨u, rfl, h1, h2⟩
        exact ⟨u, rfl, h1.one, h1, h2⟩
      have HB0 := hB0
      clear hk hn hm hs hl hq hkeys hin ih hbk hcl hcg
      have lt0 := hB0.lt
      go_enter Tryz.func11, Tryz.ntmps11
      go_wp2_with fail
      go_loopw [5, 6] (fun sv si wr => ∃ (j : Nat) (SV : Value), j ≤ l.length ∧ si = .int .i64 j ∧ SV = sv ∧ VOwn wr (w.heap.size + 2) SV (l.take j) ∧ B2 w wr (V.mk 6 false 0 0 ByteArray.empty l []) ⟨la, lc, ka, kc⟩) (fun _ si _ => l.length - (intOf si).toNat)
      case atStart => exact ⟨0, _, by omega, rfl, rfl, VOwn.nil _ _, HB0⟩
      case round =>
        obtain ⟨j, SV, hj, rfl, rfl, hO, hB⟩ := hrel
        obtain ⟨x0, x5, x6, y0, y1⟩ := hB.cells
        dsimp only [V.k, V.b, V.n, V.m, V.s, V.l, V.keys] at *
        clear hB0 HB0
        by_cases hlt : j < l.length
        · have hbw := hb0.trans (hB.2.2.mono hb0.size)
          obtain ⟨bl, off, rfl, -, hcc⟩ := hc (by intro e; subst e; simp at hlt)
          obtain ⟨c0, c1, c2, c3, c4, c5, c6⟩ := (hcc j hlt).below hbw
          have C := CT.out _ j hlt hbw
          have HT : Hid (l.take (j + 1) = l.take j ++ [l[j]]) := List.take_succ_eq_append_getElem hlt
          have hlen : (l.take j).length = j := by simp; omega
          obtain ⟨us, ho, hus, hre⟩ := hO
          have hlt2 := hB.lt
          clear hcc hc CT FIN
          generalize l[j] = x at *
          generalize P j = xp at *
          unfold V.val at C
          go_wp2_with fail
          refine C.mono ?_
          rintro e w5 ⟨u, rfl, hu1, hu, hb5⟩
          have hB5 := hB.below hb5
          have ho5 := (cown_below ho hb5).alloc (.cells #[u] 34)
          have hcr : CRow (w5.alloc (.cells #[u] 34)) (fun _ => True) (some ⟨w5.heap.size, 0, none⟩) [u] := fun _ => ⟨w5.heap.size, 0, rfl, trivial, fun i y hi => by
            rw [cell_of_row _ _ _ _ _ _ (heap_alloc_new w5 _)]
            simpa using hi⟩
          have hs5 := hb5.size
          clear C
          go_wp2_with (at_builtin; go_must (refine wpList_append_at rfl (.tmp 50) (.tmp 57) 45 34 _ _ Tryz.underlying45 infoVal rfl (by decide) rfl (w.heap.size + 2) SV (l.take j).length us rfl ho5 (some ⟨w5.heap.size, 0, none⟩) [u] 1 1 rfl rfl hcr (by intro e; cases e) (by simpa using hu1) (by omega) (by simp; omega) ?_; intro v6 w6 hown6 hgrow6 hat6))
          have hO6 := VOwn.snoc hre hus ho hb5 hu (by omega) hown6 hgrow6 hat6
          have hB6 := (hB5.below ((Below.refl _ w5).alloc (Nat.le_refl _) (.cells #[u] 34))).grown hgrow6 (fun k hk => (ho.lt k hk).1)
          rw [← HT.out] at hO6
          clear hgrow6 hown6 hat6 hre ho ho5 hB hB5 hu x0 x5 x6 y0 y1 c0 c1 c2 c3 c4 c5 c6 hcr
          go_wp2_with fail
          go_roundw
          case rel => exact ⟨j + 1, v6, by omega, by go_num, rfl, hO6, hB6⟩
          case measure => simp [intOf]; omega
        · obtain rfl : j = l.length := by omega
          rw [List.take_length] at hO
          obtain ⟨a5, c5, rfl, hrr, hsl⟩ := hO.row
          have C := FIN.out _ a5 c5 hB hrr hsl
          clear CT FIN hc hrr hO
          go_wp2_with fail
          refine C.mono ?_
          rintro e w7 ⟨u, rfl, hu1, hu, hb7⟩
          have hB7 := hB.below hb7
          obtain ⟨-, -, -, z0, z1⟩ := hB7.cells
          have st := store_old u .nilIface hu1 w7 _ z0 z1
          obtain ⟨g1, g2, g3⟩ := hB7.done hu
          clear C hb7 hB
          go_wp2_with fail
          exact bodyPost_ret (v := .agg #[u]) (by simp [results, Tryz.results11, go_sem, g1]) rfl ⟨_, rfl, g3, g2⟩
    · have hll : l.length ≤ 1048576 := by have := len_le_bulkL l; simp only [V.bulk] at hbk; omega
      have hbl : V.bulk.go l ≤ 1048576 := by simp only [V.bulk] at hbk; omega
      have CT : Hid (∀ (W : World) (j : Nat) (hj : j < l.length), Below w0.heap.size w0 W → Calls Tryz.prog 11 #[l[j].val (P j)] W fun e w' => ∃ u, e = .returned (.agg #[u]) ∧ u.oneCell' = true ∧ Rep w' (fun b => W.heap.size ≤ b) u l[j] ∧ Below W.heap.size W w') := fun W j hj hW => by
        refine (ih j hj W hW (Nat.le_trans (bulk_mem (List.getElem_mem hj)) hbl) (clL_mem hcg (List.getElem_mem hj))).mono ?_
        rintro e w' ⟨u, rfl, h1, h2⟩
        exact ⟨u, rfl, h1.one, h1, h2⟩
      have FIN : Hid (∀ (W : World) (a : Option Addr) (c : Nat), B2 w W (V.mk 7 false 0 0 ByteArray.empty l q) ⟨la, lc, ka, kc⟩ → RRow W (fun b => w.heap.size + 2 ≤ b) a l → SliceOk a l.length c → Calls Tryz.prog 33 #[.slice ka q.length kc, .slice a l.length c] W fun e w' => ∃ u, e = .returned (.tuple #[.agg #[u], .int .i64 0]) ∧ u.oneCell' = true ∧ Rep w' (fun b => w.heap.size + 2 ≤ b) u (V.mk 7 false 0 0 ByteArray.empty l q) ∧ Below W.heap.size W w') := fun W a c hB hr hk => by
        have lt := hB.lt
        refine (map_yes ka q kc a l c W (ok := fun b => w.heap.size + 2 ≤ b) (ok' := ok) (fun b hb => by omega) (hkeys.below (hb0.trans (hB.2.2.mono hb0.size))) hr hql hbl hri.nodup).mono ?_
        rintro e w' ⟨u, rfl, h1, h2⟩
        rw [sortK_of hri, pick_of hri hql] at h1
        exact ⟨u, rfl, h1.one, h1, h2⟩
      clear hql hri
      have HB0 := hB0
      clear hk hn hm hs hl hq hkeys hin ih hbk hcl hcg
      have lt0 := hB0.lt
      go_enter Tryz.func11, Tryz.ntmps11
      go_wp2_with fail
      go_loopw [5, 6] (fun sv si wr => ∃ (j : Nat) (SV : Value), j ≤ l.length ∧ si = .int .i64 j ∧ SV = sv ∧ VOwn wr (w.heap.size + 2) SV (l.take j) ∧ B2 w wr (V.mk 7 false 0 0 ByteArray.empty l q) ⟨la, lc, ka, kc⟩) (fun _ si _ => l.length - (intOf si).toNat)
      case atStart => exact ⟨0, _, by omega, rfl, rfl, VOwn.nil _ _, HB0⟩
      case round =>
        obtain ⟨j, SV, hj, rfl, rfl, hO, hB⟩ := hrel
        obtain ⟨x0, x5, x6, y0, y1⟩ := hB.cells
        dsimp only [V.k, V.b, V.n, V.m, V.s, V.l, V.keys] at *
        clear hB0 HB0
        by_cases hlt : j < l.length
        · have hbw := hb0.trans (hB.2.2.mono hb0.size)
          obtain ⟨bl, off, rfl, -, hcc⟩ := hc (by intro e; subst e; simp at hlt)
          obtain ⟨c0, c1, c2, c3, c4, c5, c6⟩ := (hcc j hlt).below hbw
          have C := CT.out _ j hlt hbw
          have HT : Hid (l.take (j + 1) = l.take j ++ [l[j]]) := List.take_succ_eq_append_getElem hlt
          have hlen : (l.take j).length = j := by simp; omega
          obtain ⟨us, ho, hus, hre⟩ := hO
          have hlt2 := hB.lt
          clear hcc hc CT FIN
          generalize l[j] = x at *
          generalize P j = xp at *
          unfold V.val at C
          go_wp2_with fail
          refine C.mono ?_
          rintro e w5 ⟨u, rfl, hu1, hu, hb5⟩
          have hB5 := hB.below hb5
          have ho5 := (cown_below ho hb5).alloc (.cells #[u] 34)
          have hcr : CRow (w5.alloc (.cells #[u] 34)) (fun _ => True) (some ⟨w5.heap.size, 0, none⟩) [u] := fun _ => ⟨w5.heap.size, 0, rfl, trivial, fun i y hi => by
            rw [cell_of_row _ _ _ _ _ _ (heap_alloc_new w5 _)]
            simpa using hi⟩
          have hs5 := hb5.size
          clear C
          go_wp2_with (at_builtin; go_must (refine wpList_append_at rfl (.tmp 50) (.tmp 57) 45 34 _ _ Tryz.underlying45 infoVal rfl (by decide) rfl (w.heap.size + 2) SV (l.take j).length us rfl ho5 (some ⟨w5.heap.size, 0, none⟩) [u] 1 1 rfl rfl hcr (by intro e; cases e) (by simpa using hu1) (by omega) (by simp; omega) ?_; intro v6 w6 hown6 hgrow6 hat6))
          have hO6 := VOwn.snoc hre hus ho hb5 hu (by omega) hown6 hgrow6 hat6
          have hB6 := (hB5.below ((Below.refl _ w5).alloc (Nat.le_refl _) (.cells #[u] 34))).grown hgrow6 (fun k hk => (ho.lt k hk).1)
          rw [← HT.out] at hO6
          clear hgrow6 hown6 hat6 hre ho ho5 hB hB5 hu x0 x5 x6 y0 y1 c0 c1 c2 c3 c4 c5 c6 hcr
          go_wp2_with fail
          go_roundw
          case rel => exact ⟨j + 1, v6, by omega, by go_num, rfl, hO6, hB6⟩
          case measure => simp [intOf]; omega
        · obtain rfl : j = l.length := by omega
          rw [List.take_length] at hO
          obtain ⟨a5, c5, rfl, hrr, hsl⟩ := hO.row
          have C := FIN.out _ a5 c5 hB hrr hsl
          clear CT FIN hc hrr hO
          go_wp2_with fail
          refine C.mono ?_
          rintro e w7 ⟨u, rfl, hu1, hu, hb7⟩
          have hB7 := (hB.below hb7).below ((Below.refl _ w7).alloc (Nat.le_refl _) (.cells #[u] 34))
          have st0 := store_new 34 u .nilIface hu1 w7
          have hz0 := cell_of_row _ _ 0 _ _ _ (heap_alloc_new w7 (.cells #[u] 34))
          obtain ⟨-, -, -, z0, z1⟩ := hB7.cells
          have st := store_old u .nilIface hu1 _ _ z0 z1
          obtain ⟨g1, g2, g3⟩ := hB7.done (hu.stays ((Below.refl _ w7).alloc (Nat.le_refl _) (.cells #[u] 34)))
          clear C hb7 hB
          go_wp2_with fail
          exact bodyPost_ret (v := .agg #[u]) (by simp [results, Tryz.results11, go_sem, g1]) rfl ⟨_, rfl, g3, g2⟩
end Go.Proofs.YtepohbcpepkboaaGreat

