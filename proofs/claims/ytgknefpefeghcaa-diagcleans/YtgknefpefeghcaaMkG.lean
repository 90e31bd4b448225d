/- finderOf, of a slice that is not nil. Conditions: as in the text ahead. -/
import Derived.Test.YtgknefpefeghcaaMkF
namespace Go.Proofs.Ytgknefpefeghcaa
open Go.RowKit Go.Maps Go.ChangeMaps Go.WideShapes Go.WideMaps


set_option maxRecDepth 100000 in
theorem SL.of_own' {W : World} {base : Nat} {v : Value} {l : List ByteArray} (h : W.ownsRow base 9 1 v l.length (l.map strV)) (hne : v ≠ .slice none 0 0) : ∃ g cap, v = .slice (some ⟨g, 0, none⟩) l.length cap ∧ base ≤ g ∧ g < W.heap.size ∧ SL W g cap l ∧ cap ≤ maxLen := by
  rcases h.2 with ⟨h0, -⟩ | ⟨g, cap, cur, rfl, hg, hb, h1, h2, h3, h4⟩
  · exact absurd h0 hne
  · refine ⟨g, cap, rfl, hg, (Array.getElem?_eq_some_iff.1 hb).1, ⟨fun j => (cur[j]?).getD default, ⟨cur, hb, by rw [h3, Nat.mul_one], fun i hi => ?_⟩, h1, fun j hj => ?_⟩, h2⟩
    · have hi' : i < cur.size := by rw [h3]; omega
      simp [hi']
    · have e : (cur.toList.take (l.length * 1))[j]? = (l.map strV)[j]? := by rw [h4]
      rw [List.getElem?_take_of_lt (by omega)] at e
      simp [hj] at e
      show (cur[j]?).getD default = _
      rw [← Array.getElem?_toList, Array.getElem?_toList, e]
      rfl
set_option maxRecDepth 100000 in
theorem FIn.belowB {W W' : World} {base F Mb B : Nat} {nv : Value} {N : List Nd} (h : FIn W base F Mb nv N) (hb : Below B W W') (hF : F < B) (hM : Mb < B) (hn : ∀ k, nv.ownBlock = some k → k < B) : FIn W' base F Mb nv N := by
  obtain ⟨D, ⟨es, clock, h1, h2⟩, hv⟩ := h.map
  refine ⟨(hb.block F hF).trans h.box, ?_, ⟨D, ⟨es, clock, (hb.block Mb hM).trans h1, h2⟩, hv⟩, h.small⟩
  obtain ⟨h0, h | ⟨g, cap, cur, hv, hg, hh, h1⟩⟩ := h.row
  · exact ⟨h0, Or.inl h⟩
  · exact ⟨h0, Or.inr ⟨g, cap, cur, hv, hg, (hb.block g (hn g (by rw [hv]; rfl))).trans hh, h1⟩⟩
/-- The finder under way: of each text that is left its last r bytes are in the tree (of the first i texts one more). -/
structure St (base : Nat) (W0 W : World) (F Mb g A cap : Nat) (L : List ByteArray) (f : Nat → Value) (nv : Value) (N : List Nd) (M : List (List Int)) (Af : Nat → Nat) (r i m : Nat) : Prop where
  fin : FIn W base F Mb nv N
  tree : TreeOk N
  known : Known N M
  upto : Upto N (r + 1)
  mlen : ∀ x ∈ M, x.length ≤ r
  mis : M = (L.drop m).map bsI
  big : ∀ (j : Nat) (hj : j < L.length), j < m → r + 1 ≤ L[j].size
  ats : AtsOk N L Af r i m
  rowA : W.rowIs A 3 L.length (fun j => .int .i64 (Af j : Int))
  rowG : W.rowIs g 9 cap f
  cnt : N.length ≤ 1 + r * L.length + i
  bel : Below base W0 W
  mle : m ≤ L.length
/-- All texts have been brought one byte on: the shorter ones are told now. -/
structure Sm (base : Nat) (W0 W : World) (F Mb g A cap : Nat) (L : List ByteArray) (f : Nat → Value) (nv : Value) (N : List Nd) (M : List (List Int)) (Af : Nat → Nat) (r m : Nat) : Prop where
  fin : FIn W base F Mb nv N
  tree : TreeOk N
  known : Known N M
  upto : Upto N r
  mlen : ∀ x ∈ M, x.length ≤ r
  mis : M = (L.drop m).map bsI
  big : ∀ (j : Nat) (hj : j < L.length), j < m → r ≤ L[j].size
  ats : AtsOk N L Af r 0 m
  rowA : W.rowIs A 3 L.length (fun j => .int .i64 (Af j : Int))
  rowG : W.rowIs g 9 cap f
  cnt : N.length ≤ 1 + r * L.length
  bel : Below base W0 W
  mle : m ≤ L.length
set_option maxRecDepth 100000 in
theorem St.toSm {base : Nat} {W0 W : World} {F Mb g A cap : Nat} {L : List ByteArray} {f : Nat → Value} {nv : Value} {N : List Nd} {M : List (List Int)} {Af : Nat → Nat} {r m : Nat} (h : St base W0 W F Mb g A cap L f nv N M Af r m m) : Sm base W0 W F Mb g A cap L f nv N M Af (r + 1) m := by
  refine ⟨h.fin, h.tree, h.known, h.upto, fun x hx => Nat.le_succ_of_le (h.mlen x hx), h.mis, h.big, ?_, h.rowA, h.rowG, ?_, h.bel, h.mle⟩
  · have := h.ats
    intro j hj hm
    obtain ⟨x, h1, h2⟩ := this j hj hm
    exact ⟨x, h1, by rw [h2, if_pos hm, if_neg (by omega)]⟩
  · have h1 := h.cnt
    have h2 := h.mle
    rw [Nat.succ_mul]
    omega
set_option maxRecDepth 100000 in
theorem Sm.toSt {base : Nat} {W0 W : World} {F Mb g A cap : Nat} {L : List ByteArray} {f : Nat → Value} {nv : Value} {N : List Nd} {M : List (List Int)} {Af : Nat → Nat} {r m : Nat} (h : Sm base W0 W F Mb g A cap L f nv N M Af r m) (hb : ∀ (j : Nat) (hj : j < L.length), j < m → r + 1 ≤ L[j].size) : St base W0 W F Mb g A cap L f nv N M Af r 0 m :=
  ⟨h.fin, h.tree, h.known, fun i x hx => Nat.le_succ_of_le (h.upto i x hx), h.mlen, h.mis, hb, h.ats, h.rowA, h.rowG, by have := h.cnt; omega, h.bel, h.mle⟩
set_option maxRecDepth 100000 in
theorem St.drew {base : Nat} {W0 W : World} {F Mb g A cap : Nat} {L : List ByteArray} {f : Nat → Value} {nv : Value} {N : List Nd} {M : List (List Int)} {Af : Nat → Nat} {r i m : Nat} (h : St base W0 W F Mb g A cap L f nv N M Af r i m) : St base W0 W.drew F Mb g A cap L f nv N M Af r i m :=
  ⟨h.fin.below (Below.drew (Below.refl _ _)), h.tree, h.known, h.upto, h.mlen, h.mis, h.big, h.ats, h.rowA.drew, h.rowG.drew, h.cnt, h.bel.drew, h.mle⟩
set_option maxRecDepth 100000 in
theorem Sm.drew {base : Nat} {W0 W : World} {F Mb g A cap : Nat} {L : List ByteArray} {f : Nat → Value} {nv : Value} {N : List Nd} {M : List (List Int)} {Af : Nat → Nat} {r m : Nat} (h : Sm base W0 W F Mb g A cap L f nv N M Af r m) : Sm base W0 W.drew F Mb g A cap L f nv N M Af r m :=
  ⟨h.fin.below (Below.drew (Below.refl _ _)), h.tree, h.known, h.upto, h.mlen, h.mis, h.big, h.ats, h.rowA.drew, h.rowG.drew, h.cnt, h.bel.drew, h.mle⟩
set_option maxRecDepth 100000 in
/-- One text is told. -/
theorem Sm.mark {base : Nat} {W0 W : World} {F Mb g A cap : Nat} {L : List ByteArray} {f : Nat → Value} {gN capN : Nat} {N : List Nd} {M : List (List Int)} {Af : Nat → Nat} {r m : Nat} (h : Sm base W0 W F Mb g A cap L f (.slice (some ⟨gN, 0, none⟩) N.length capN) N M Af r (m + 1)) (hm : m < L.length) (hr : L[m].size = r) (hbN : base ≤ gN)
    {x : Nd} (hx : N[Af m]? = some x) : Sm base W0 (W.setCell ⟨gN, Af m * 2 + 1, none⟩ (.int .i64 (r : Int))) F Mb g A cap L f (.slice (some ⟨gN, 0, none⟩) N.length capN) (N.set (Af m) ⟨x.lab, x.back, r⟩) (x.lab :: M) Af r m := by
  obtain ⟨x', h1, h2⟩ := h.ats m hm (by omega)
  rw [hx] at h1
  obtain rfl := Option.some.inj h1
  have hlab : x.lab = bsI L[m] := by
    rw [h2, if_neg (by omega), ← hr]
    exact tail_all _
  have hlen : x.lab.length = r := by rw [hlab, bsI_len, hr]
  obtain ⟨t1, t2, t3⟩ := Known.mark h.tree h.known h.upto h.mlen hx hlen (List.getElem?_eq_some_iff.1 hx).1
  have hne : ∀ {k : Nat} {t : TypeId} {n : Nat} {f : Nat → Value}, W.rowIs k t n f → t ≠ 111 → (W.setCell ⟨gN, Af m * 2 + 1, none⟩ (.int .i64 (r : Int))).rowIs k t n f := fun {k t n f} hk ht => by
    refine hk.setOther (fun e => ?_) _
    have e : k = gN := e
    subst e
    obtain ⟨c, hb, -, -⟩ := hk
    rcases h.fin.row.2 with ⟨hv, -⟩ | ⟨g', cap', cur, hv, hg', hbk, -⟩
    · cases hv
    · injection hv with hv
      injection hv with hv
      injection hv with hv
      rw [← hv, hb] at hbk
      injection hbk with hbk
      injection hbk with e1 e2
      exact ht e2
  refine ⟨h.fin.mark hx r, t1, t2, t3, ?_, ?_, fun j hj hm' => h.big j hj (by omega), (h.ats.set hx r).less (by omega), hne h.rowA (by decide), hne h.rowG (by decide), by rw [List.length_set]; exact h.cnt, h.bel.setCell hbN _, by omega⟩
  · intro y hy
    rcases List.mem_cons.1 hy with rfl | hy
    · rw [hlen]; exact Nat.le_refl _
    · exact h.mlen y hy
  · rw [h.mis, List.drop_eq_getElem_cons hm, List.map_cons, hlab]
set_option maxRecDepth 100000 in
theorem FIn.setOther {W : World} {base F Mb A n : Nat} {nv : Value} {N : List Nd} {fA : Nat → Value} {t : TypeId} (h : FIn W base F Mb nv N) (hA : W.rowIs A t n fA) (ht : t ≠ 111) (hF : A ≠ F) (hM : A ≠ Mb) (i : Nat) (u : Value) : FIn (W.setCell ⟨A, i, none⟩ u) base F Mb nv N := by
  obtain ⟨D, ⟨es, clock, h1, h2⟩, hv⟩ := h.map
  refine ⟨(Below.heap_setCell _ _ _ _ (Ne.symm hF)).trans h.box, ?_, ⟨D, ⟨es, clock, (Below.heap_setCell _ _ _ _ (Ne.symm hM)).trans h1, h2⟩, hv⟩, h.small⟩
  obtain ⟨h0, h | ⟨g, cap, cur, hv, hg, hh, h1⟩⟩ := h.row
  · exact ⟨h0, Or.inl h⟩
  · refine ⟨h0, Or.inr ⟨g, cap, cur, hv, hg, ?_, h1⟩⟩
    rw [Below.heap_setCell _ _ _ _ (fun e => ?_)]
    · exact hh
    · have e : g = A := e
      obtain ⟨c, hb, -, -⟩ := hA
      rw [← e, hh] at hb
      injection hb with hb
      injection hb with e1 e2
      exact ht e2.symm
set_option maxRecDepth 100000 in
theorem FIn.frozenN {W : World} {base F Mb g n cap : Nat} {N : List Nd} (h : FIn W base F Mb (.slice (some ⟨g, 0, none⟩) n cap) N) (j : Nat) : W.frozen? ⟨g, j, none⟩ = false := by
  rcases h.row.2 with ⟨hv, -⟩ | ⟨g', cap', cur, hv, hg', hbk, -⟩
  · cases hv
  · injection hv with hv
    injection hv with hv
    injection hv with hv
    rw [hv]
    exact frozen_of_row _ _ _ _ _ hbk
set_option maxRecDepth 100000 in
/-- One text is brought a byte on. -/
theorem St.step {base : Nat} {W0 W w' : World} {F Mb g A cap : Nat} {L : List ByteArray} {f : Nat → Value} {nv : Value} {N : List Nd} {M : List (List Int)} {Af : Nat → Nat} {r i m j : Nat} {b : Int} (h : St base W0 W F Mb g A cap L f nv N M Af r i m) (hiL : i < L.length)
    (hG : Grown W w' base F Mb N M r (tailB L[i] r) b j) (hb : tailB L[i] (r + 1) = b :: tailB L[i] r) (hAF : A ≠ F) (hAM : A ≠ Mb) (hgF : g ≠ F) (hgM : g ≠ Mb) (hgA : g ≠ A) (hbA : base ≤ A) :
    w'.cell? ⟨A, i, none⟩ = some (.int .i64 (Af i : Int)) ∧ w'.frozen? ⟨A, i, none⟩ = false ∧ ∃ nv' N', St base W0 (w'.setCell ⟨A, i, none⟩ (.int .i64 (j : Int))) F Mb g A cap L f nv' N' M (fun t => if t = i then j else Af t) r (i + 1) m := by
  obtain ⟨N', nv', g1, g2, g3, g4, ⟨y, g5, g6⟩, g7, g8, g9, g10⟩ := hG
  have hA := row_kept h.rowA g9 hAF hAM (by decide)
  have hGr := row_kept h.rowG g9 hgF hgM (by decide)
  refine ⟨hA.cell hiL, hA.frozen i, nv', N', g1.setOther hA (by decide) hAF hAM _ _, g2, g3, g4, h.mlen, h.mis, h.big, ?_, ?_, hGr.setOther hgA _, by have := h.cnt; omega, (h.bel.trans g10).setCell hbA _, h.mle⟩
  · exact h.ats.grown g7 hiL g5 (by rw [g6, hb])
  · refine (hA.set i (.int .i64 (j : Int))).congr (fun t _ => ?_)
    by_cases e : t = i
    · rw [if_pos e, if_pos e]
    · rw [if_neg e, if_neg e]
set_option maxRecDepth 100000 in
set_option maxHeartbeats 6400000 in
theorem finder_some {W : World} {ad : Addr} {cap : Nat} {l : List ByteArray} (T : ByteArray) (h : StrsIn W (some ad) cap l) (hT : T.size ≤ 10000) (hl : l.length ≤ 1000) (hb90 : T.size * l.length ≤ 90000) :
    Calls Try.prog 26 #[.string T, .slice (some ad) l.length cap] W fun e w' => ∃ F, e = .returned (.pointer (some ⟨F, 0, none⟩)) ∧ FindIs w' W.heap.size F T l ∧ Below W.heap.size W w' := by
  have hmm := @run_makeMap Try.prog
  have hmn := run_makeN
  have hfin := fin_start (W.alloc (.cells #[.string T] 9)) W.heap.size (by simp)
  have hb := (((((Below.refl W.heap.size W).alloc (Nat.le_refl _) (.cells #[.string T] 9)).alloc (by simp) (.cells #[.int .i64 0, .int .i64 0] 111)).alloc (by simp; omega) (.map #[] 0)).alloc (by simp; omega) (.cells #[.slice (some ⟨(W.alloc (.cells #[.string T] 9)).heap.size, 0, none⟩) 1 1, .map (some ((W.alloc (.cells #[.string T] 9)).heap.size + 1))] 102))
  have hin : StrsIn ((((W.alloc (.cells #[.string T] 9)).alloc (.cells #[.int .i64 0, .int .i64 0] 111)).alloc (.map #[] 0)).alloc (.cells #[.slice (some ⟨W.heap.size + 1, 0, none⟩) 1 1, .map (some (W.heap.size + 1 + 1))] 102)) (some ad) cap l := by
    refine h.below ?_
    exact (((((Below.refl W.heap.size W).alloc (Nat.le_refl _) (.cells #[.string T] 9)).alloc (by simp) (.cells #[.int .i64 0, .int .i64 0] 111)).alloc (by simp; omega) (.map #[] 0)).alloc (by simp; omega) _)
  clear h
  go_enter Try.func26, Try.ntmps26
  go_upto_region 2 with fail
  have hsz : (W.alloc (.cells #[.string T] 9)).heap.size = W.heap.size + 1 := by simp
  rw [hsz] at hfin hb
  have hB : ((((W.alloc (.cells #[.string T] 9)).alloc (.cells #[.int .i64 0, .int .i64 0] 111)).alloc (.map #[] 0)).alloc (.cells #[.slice (some ⟨W.heap.size + 1, 0, none⟩) 1 1, .map (some (W.heap.size + 1 + 1))] 102)).cell? ⟨W.heap.size, 0, none⟩ = some (.string T) := by
    have h1 : (W.alloc (.cells #[.string T] 9)).heap[W.heap.size]? = some (.cells #[.string T] 9) := heap_alloc_new _ _
    rw [← Below.heap_alloc (W.alloc (.cells #[.string T] 9)) (.cells #[.int .i64 0, .int .i64 0] 111) _ (by simp), ← Below.heap_alloc _ (.map #[] 0) _ (by simp; omega), ← Below.heap_alloc _ (.cells #[.slice (some ⟨W.heap.size + 1, 0, none⟩) 1 1, .map (some (W.heap.size + 1 + 1))] 102) _ (by simp; omega)] at h1
    rw [cell_of_row _ _ _ _ _ _ h1]
    rfl
  have hF3 : ((((W.alloc (.cells #[.string T] 9)).alloc (.cells #[.int .i64 0, .int .i64 0] 111)).alloc (.map #[] 0)).alloc (.cells #[.slice (some ⟨W.heap.size + 1, 0, none⟩) 1 1, .map (some (W.heap.size + 1 + 1))] 102)).heap.size = W.heap.size + 1 + 1 + 1 + 1 := by simp
  generalize (((W.alloc (.cells #[.string T] 9)).alloc (.cells #[.int .i64 0, .int .i64 0] 111)).alloc (.map #[] 0)).alloc (.cells #[.slice (some ⟨W.heap.size + 1, 0, none⟩) 1 1, .map (some (W.heap.size + 1 + 1))] 102) = W3 at *
  clear hsz
  have hF3 : Hid (W3.heap.size = W.heap.size + 1 + 1 + 1 + 1) := hF3
  have hbF : W.heap.size ≤ W.heap.size + 1 + 1 + 1 ∧ W.heap.size ≤ W.heap.size + 1 + 1 := ⟨by omega, by omega⟩
  go_wp2_with fail
  refine (clone_any hin (by omega)).mono ?_
  rintro e W4 ⟨v, rfl, hown, hvn, hb4⟩
  obtain ⟨g, capg, rfl, hg, hgl, hSL, hcapm⟩ := SL.of_own' hown (hvn (by simp))
  have hfin4 := hfin.below hb4
  have hb4' := hb.trans (hb4.mono hb.size)
  have hB4 := (hb4.cell (p := ⟨W.heap.size, 0, none⟩) (by show W.heap.size < W3.heap.size; have := hF3.out; omega)).trans hB
  clear hown hvn hin hB hb
  go_wp2_with fail
  refine (delf_any (base := W3.heap.size) hB4 hSL hg (by have := hF3.out; omega) (by omega) hcapm).mono ?_
  rintro e W5 ⟨rfl, hSL5, hb5⟩
  have hfin5 : FIn W5 W.heap.size (W.heap.size + 1 + 1 + 1) (W.heap.size + 1 + 1) (.slice (some ⟨W.heap.size + 1, 0, none⟩) 1 1) [⟨[], 0, 0⟩] := hfin4.belowB hb5 (by have := hF3.out; omega) (by have := hF3.out; omega) (fun k hk => by cases hk; show W.heap.size + 1 < W3.heap.size; have := hF3.out; omega)
  have hb5' := hb4'.trans (hb5.mono (by have := hF3.out; omega))
  have hsl : ∀ s ∈ left T l, 4 ≤ s.size ∧ s.size ≤ T.size := fun s hs => left_size hs
  have hll : (left T l).length ≤ l.length := List.length_filter_le _ _
  clear hfin hfin4 hb4 hb4' hB4 hSL hb5
  have hg5 : W.heap.size + 1 + 1 + 1 < g := by have := hF3.out; omega
  have hg5s : g < W5.heap.size := by obtain ⟨f0, h0, -, -⟩ := hSL5; exact h0.lt
  go_wp2_with fail
  refine (sortS_any (base := W.heap.size + 1 + 1 + 1 + 1) hSL5 (by omega) (fun s hs => by have := (hsl s hs).2; omega) (by omega) (by omega)).mono ?_
  rintro e W6 ⟨rfl, L, hperm, hsort, hSL6, hb6⟩
  have hfin6 := hfin5.belowB hb6 (by omega) (by omega) (fun k hk => by cases hk; show W.heap.size + 1 < W.heap.size + 1 + 1 + 1 + 1; omega)
  have hb6' := hb5'.trans (hb6.mono (by omega))
  have hg6s : g < W6.heap.size := Nat.lt_of_lt_of_le hg5s hb6.size
  clear hfin5 hb5' hb6 hSL5
  have hLl : (left T l).length = L.length := hperm.length_eq.symm
  have hll' : L.length ≤ l.length := by omega
  have hLs : Hid (∀ (j : Nat) (hj : j < L.length), 4 ≤ L[j].size ∧ L[j].size ≤ T.size) := fun j hj => hsl _ (hperm.mem_iff.1 (List.getElem_mem hj))
  have hLp : Hid (∀ s, s ∈ L ↔ s ∈ left T l) := fun s => hperm.mem_iff
  have hLd : Hid (∀ (i j : Nat) (hi : i < L.length) (hj : j < L.length), i < j → L[j].size ≤ L[i].size) := fun i j hi hj hij => List.pairwise_iff_getElem.1 hsort i j hi hj hij
  rw [hLl]
  clear hperm hsort hsl hll hLl
  obtain ⟨f, hrowG, hLc, hfL⟩ := hSL6
  have hfL : Hid (∀ (j : Nat) (hj : j < L.length), f j = .string L[j]) := hfL
  have hmk := run_makeI L.length (by omega)
  have hb7 := (Below.refl W6.heap.size W6).alloc (Nat.le_refl _) (.cells (madeCells #[.int .i64 0] L.length) 3)
  have hrowA : (W6.alloc (.cells (madeCells #[.int .i64 0] L.length) 3)).rowIs W6.heap.size 3 L.length (fun _ => .int .i64 ((0 : Nat) : Int)) := World.rowIs_made W6 (.int .i64 0) L.length 3
  have hT2 : T.size * L.length ≤ 90000 := Nat.le_trans (Nat.mul_le_mul_left _ (by omega)) hb90
  have hSt : Hid (Sm W.heap.size W (W6.alloc (.cells (madeCells #[.int .i64 0] L.length) 3)) (W.heap.size + 1 + 1 + 1) (W.heap.size + 1 + 1) g W6.heap.size capg L f (.slice (some ⟨W.heap.size + 1, 0, none⟩) 1 1) [⟨[], 0, 0⟩] [] (fun _ => 0) 0 L.length) := by
    obtain ⟨t1, t2, t3⟩ := tree_start
    refine ⟨hfin6.below hb7, t1, t2, t3, fun x hx => by simp at hx, by simp, fun _ _ _ => Nat.zero_le _, fun j hj _ => ⟨_, rfl, by rw [if_neg (by omega)]; exact (tail_zero _).symm⟩, hrowA, hrowG.alloc _, by simp, hb6'.trans (hb7.mono hb6'.size), Nat.le_refl _⟩
  have hgA : g ≠ W6.heap.size := by omega
  have hAF : W.heap.size + 1 + 1 + 1 < W6.heap.size := by omega
  clear hfin6 hb6' hrowG hb7 hrowA
  go_wp2_with fail
  generalize W6.alloc (.cells (madeCells #[.int .i64 0] L.length) 3) = W7 at *
  generalize W6.heap.size = A at *
  clear hmk hmn hmm
  have hMbA : W.heap.size + 1 + 1 < A := by omega
  have hLs1 : Hid (∀ (j : Nat) (hj : j < L.length), j < L.length → 0 + 1 ≤ L[j].size) := fun j hj _ => by have := (hLs.out j hj).1; omega
  go_loopw [6, 8, 9, 10] (fun s6 s8 s9 s10 wr => ∃ (m r q : Nat) (nv : Value) (N : List Nd) (M : List (List Int)) (Af : Nat → Nat), s6 = .slice (some ⟨g, 0, none⟩) m capg ∧ s8 = .int .i64 (q : Int) ∧ Hid (q = r + 1) ∧ 1 ≤ q ∧ Hid (Sm W.heap.size W wr (W.heap.size + 1 + 1 + 1) (W.heap.size + 1 + 1) g A capg L f nv N M Af r m) ∧ Hid (∀ (j : Nat) (hj : j < L.length), j < m → r + 1 ≤ L[j].size)) (fun _ s8 _ _ _ => T.size + 2 - (intOf s8).toNat)
  case atStart => exact ⟨L.length, 0, 1, _, _, _, _, rfl, rfl, rfl, Nat.le_refl _, hSt, hLs1⟩
  case round =>
    clear hSt hLs1
    obtain ⟨m, r, q, nv, N, M, Af, rfl, rfl, hq, hq1, hSm, hbig⟩ := hrel
    by_cases hm0 : m = 0
    · subst hm0
      go_wp2_with fail
      go_ret
      have hS := hSm.out
      refine ⟨_, rfl, ⟨_, nv, N, M, hS.fin, hS.tree, hS.known, fun z => ?_⟩, hS.bel⟩
      rw [hS.mis, List.drop_zero, List.mem_map]
      exact ⟨fun ⟨s, h1, h2⟩ => ⟨s, (hLp.out s).1 h1, h2⟩, fun ⟨s, h1, h2⟩ => ⟨s, (hLp.out s).2 h1, h2⟩⟩
    · have hmL := hSm.out.mle
      have hqT : q ≤ T.size := by
        have h1 := hbig.out 0 (by omega) (by omega)
        have h2 := (hLs.out 0 (by omega)).2
        have := hq.out
        omega
      have hqr : r + 1 ≤ T.size := by have := hq.out; omega
      have hcount : r * L.length + L.length ≤ 90000 := by
        have := Nat.mul_le_mul_right L.length hqr
        rw [Nat.succ_mul] at this
        omega
      have hSt0 : Hid (St W.heap.size W wr (W.heap.size + 1 + 1 + 1) (W.heap.size + 1 + 1) g A capg L f nv N M Af r 0 m) := hSm.out.toSt hbig.out
      clear hSm hbig
      have hm1 : 0 < m := by omega
      go_wp2_with fail
      go_loopw [9, 10, 31] (fun s9 s10 s31 wr => ∃ (i : Nat) (nv : Value) (N : List Nd) (Af : Nat → Nat), i ≤ m ∧ s31 = .int .i64 (i : Int) ∧ Hid (St W.heap.size W wr (W.heap.size + 1 + 1 + 1) (W.heap.size + 1 + 1) g A capg L f nv N M Af r i m)) (fun _ _ s31 _ => m - (intOf s31).toNat)
      case atStart => exact ⟨0, nv, N, Af, by omega, rfl, hSt0⟩
      case round =>
        clear hSt0
        obtain ⟨i, nv, N, Af, hi, rfl, hSt⟩ := hrel
        by_cases him : i < m
        · have hiL : i < L.length := by omega
          have hgc := hSt.out.rowG.cell (i := i) (by omega)
          rw [hfL.out i hiL] at hgc
          have hgl := World.block_lt_of_cell? _ _ hgc
          have hAc := hSt.out.rowA.cell hiL
          have hAl := World.block_lt_of_cell? _ _ hAc
          have hbg := hSt.out.big i hiL him
          have hsz := hLs.out i hiL
          obtain ⟨k, hk, hkl⟩ : ∃ k : Nat, Hid (k = L[i].size - (r + 1)) ∧ k < L[i].size := ⟨L[i].size - (r + 1), rfl, by omega⟩
          have hqe := hq.out
          have hwr : IntKind.i64.wrap ((L[i].size : Int) - (q : Int)) = (k : Int) := by have := hk.out; rw [IntWalk.i64_in _ ⟨by omega, by omega⟩]; omega
          obtain ⟨hki, htl⟩ := tail_succ L[i] r (by omega)
          have hbk : (bsI L[i])[L[i].size - (r + 1)] = ((L[i][k]).toNat : Int) := by
            have e := hk.out
            subst e
            exact bsI_at _ _ hkl _
          rw [hbk] at htl
          have htail : Hid (tailB L[i] (r + 1) = ((L[i][k]).toNat : Int) :: tailB L[i] r) := htl
          have hbb : 0 ≤ ((L[i][k]).toNat : Int) ∧ ((L[i][k]).toNat : Int) ≤ 255 := by have := (L[i][k]).toNat_lt; omega
          obtain ⟨x, hx, hxl⟩ := hSt.out.ats i hiL him
          rw [if_neg (by omega)] at hxl
          have hcn := hSt.out.cnt
          have CG : Hid (Calls Try.prog 53 #[.pointer (some ⟨W.heap.size + 1 + 1 + 1, 0, none⟩), .int .i64 (Af i : Int), .int .u8 ((L[i][k]).toNat : Int)] wr.drew fun e w' => ∃ j : Nat, e = .returned (.int .i64 (j : Int)) ∧ Grown wr.drew w' W.heap.size (W.heap.size + 1 + 1 + 1) (W.heap.size + 1 + 1) N M r (tailB L[i] r) ((L[i][k]).toNat : Int) j) := by
            have hd := hSt.out.drew
            rw [← hxl]
            exact grow_any hd.fin hd.tree hd.known hd.upto hd.mlen hx (by rw [hxl]; exact tail_len _ _ (by omega)) (by omega) hbF _ hbb
          clear hk hbk htl hbb hx hxl hki hcn hsz hbg hqe
          go_upto_region 11 with fail
          refine wp_region_held_drew (S := fun _ => True) (by kernel_rfl) trivial (fun hSS => ?_)
          refine wpAnyH_take (i := 0) (v := ?_) rfl (by kernel_rfl) (by kernel_rfl) (by kernel_rfl) (fun _ _ _ h => h) (Or.inl ⟨by rfl, ?_⟩) hSS ?_
          rotate_left
          · intro wz hSz
            go_simp
            try with_reducible rfl
          simp only [List.getElem_toArray, List.getElem_cons_zero, Act.put, List.setIfInBounds_toArray, List.set_cons_zero, List.set_cons_succ]
          refine wpAnyH_take (i := 1) (v := ?_) rfl (by kernel_rfl) (by kernel_rfl) (by kernel_rfl) (fun _ _ _ h => h) (Or.inl ⟨by rfl, ?_⟩) hSS ?_
          rotate_left
          · intro wz hSz
            go_simp
            try with_reducible rfl
          simp only [List.getElem_toArray, List.getElem_cons_zero, List.getElem_cons_succ, Act.put, List.setIfInBounds_toArray, List.set_cons_zero, List.set_cons_succ]
          refine wpAnyH_take (i := 2) (v := ?_) rfl (by kernel_rfl) (by kernel_rfl) (by kernel_rfl) (fun _ _ _ h => h) (Or.inl ⟨by rfl, ?_⟩) hSS ?_
          rotate_left
          · intro wz hSz
            go_simp
            try with_reducible rfl
          simp only [List.getElem_toArray, List.getElem_cons_zero, List.getElem_cons_succ, Act.put, List.setIfInBounds_toArray, List.set_cons_zero, List.set_cons_succ]
          refine wpAnyH_take (i := 3) (v := ?_) rfl (by kernel_rfl) (by kernel_rfl) (by kernel_rfl) (fun _ _ _ h => h) (Or.inl ⟨by rfl, ?_⟩) hSS ?_
          rotate_left
          · intro wz hSz
            go_simp
            try with_reducible rfl
          simp only [List.getElem_toArray, List.getElem_cons_zero, List.getElem_cons_succ, Act.put, List.setIfInBounds_toArray, List.set_cons_zero, List.set_cons_succ]
          refine wpAnyH_take (i := 4) (v := ?_) rfl (by kernel_rfl) (by kernel_rfl) (by kernel_rfl) (fun _ _ _ h => h) (Or.inl ⟨by rfl, ?_⟩) hSS ?_
          rotate_left
          · intro wz hSz
            go_simp
            try with_reducible rfl
          simp only [List.getElem_toArray, List.getElem_cons_zero, List.getElem_cons_succ, Act.put, List.setIfInBounds_toArray, List.set_cons_zero, List.set_cons_succ]
          refine wpAnyH_take (i := 5) (v := ?_) rfl (by kernel_rfl) (by kernel_rfl) (by kernel_rfl) (fun _ _ _ h => h) (Or.inl ⟨by rfl, ?_⟩) hSS ?_
          rotate_left
          · intro wz hSz
            go_simp
            try with_reducible rfl
          simp only [List.getElem_toArray, List.getElem_cons_zero, List.getElem_cons_succ, Act.put, List.setIfInBounds_toArray, List.set_cons_zero, List.set_cons_succ]
          refine wpAnyH_take (i := 7) (v := ?_) rfl (by kernel_rfl) (by kernel_rfl) (by kernel_rfl) (fun _ _ _ h => h) (Or.inl ⟨by rfl, ?_⟩) hSS ?_
          rotate_left
          · intro wz hSz
            go_simp
            try with_reducible rfl
          simp only [List.getElem_toArray, List.getElem_cons_zero, List.getElem_cons_succ, Act.put, List.setIfInBounds_toArray, List.set_cons_zero, List.set_cons_succ]
          refine wpAnyH_take (i := 8) (v := ?_) rfl (by kernel_rfl) (by kernel_rfl) (by kernel_rfl) (fun _ _ _ h => h) (Or.inl ⟨by rfl, ?_⟩) hSS ?_
          rotate_left
          · intro wz hSz
            go_simp
            try with_reducible rfl
          simp only [List.getElem_toArray, List.getElem_cons_zero, List.getElem_cons_succ, Act.put, List.setIfInBounds_toArray, List.set_cons_zero, List.set_cons_succ]
          refine wpAnyH_take (i := 9) (v := ?_) rfl (by kernel_rfl) (by kernel_rfl) (by kernel_rfl) (fun _ _ _ h => h) (Or.inl ⟨by rfl, ?_⟩) hSS ?_
          rotate_left
          · intro wz hSz
            go_simp
            try with_reducible rfl
          simp only [List.getElem_toArray, List.getElem_cons_zero, List.getElem_cons_succ, Act.put, List.setIfInBounds_toArray, List.set_cons_zero, List.set_cons_succ]
          refine wpAnyH_take (i := 10) (v := ?_) rfl (by kernel_rfl) (by kernel_rfl) (by kernel_rfl) (fun _ _ _ h => h) (Or.inl ⟨by rfl, ?_⟩) hSS ?_
          rotate_left
          · intro wz hSz
            go_simp
            try with_reducible rfl
          simp only [List.getElem_toArray, List.getElem_cons_zero, List.getElem_cons_succ, Act.put, List.setIfInBounds_toArray, List.set_cons_zero, List.set_cons_succ]
          refine wpAnyH_take (i := 11) (v := ?_) rfl (by kernel_rfl) (by kernel_rfl) (by kernel_rfl) (fun _ _ _ h => h) (Or.inl ⟨by rfl, ?_⟩) hSS ?_
          rotate_left
          · intro wz hSz
            go_simp
            try with_reducible rfl
          simp only [List.getElem_toArray, List.getElem_cons_zero, List.getElem_cons_succ, Act.put, List.setIfInBounds_toArray, List.set_cons_zero, List.set_cons_succ]
          refine wpAnyH_take (i := 12) (v := ?_) rfl (by kernel_rfl) (by kernel_rfl) (by kernel_rfl) (fun _ _ _ h => h) (Or.inl ⟨by rfl, ?_⟩) hSS ?_
          rotate_left
          · intro wz hSz
            go_simp
            try with_reducible rfl
          simp only [List.getElem_toArray, List.getElem_cons_zero, List.getElem_cons_succ, Act.put, List.setIfInBounds_toArray, List.set_cons_zero, List.set_cons_succ]
          refine wpAnyH_ready (rs := [6]) (by kernel_rfl) (by simp) (AllReadyH.cons rfl (fun K hK => ?_) AllReadyH.nil)
          go_simp
          refine hK.out _ _ trivial (fun hSS => ?_)
          clear hK
          refine wpAnyH_ready (rs := [13]) (by kernel_rfl) (by simp) (AllReadyH.cons rfl (fun K hK => ?_) AllReadyH.nil)
          go_simp
          go_at_call 53
          refine CG.out.mono ?_
          rintro e w8 ⟨jn, rfl, hG⟩
          go_simp
          refine hK.out _ _ trivial (fun hSS => ?_)
          clear hK CG
          obtain ⟨c8, f8, nv8, N8, hS8⟩ := St.step hSt.out.drew hiL hG htail.out (by omega) (by omega) (by omega) (by omega) hgA (by omega)
          have hS8 : Hid (St W.heap.size W (w8.setCell ⟨A, i, none⟩ (.int .i64 (jn : Int))) (W.heap.size + 1 + 1 + 1) (W.heap.size + 1 + 1) g A capg L f nv8 N8 M (fun t => if t = i then jn else Af t) r (i + 1) m) := hS8
          clear hG hSt
          refine wpAnyH_take (i := 14) (v := ?_) rfl (by kernel_rfl) (by kernel_rfl) (by kernel_rfl) (fun _ _ _ h => h) (Or.inl ⟨by rfl, ?_⟩) hSS ?_
          rotate_left
          · intro wz hSz
            go_simp
            try with_reducible rfl
          simp only [List.getElem_toArray, List.getElem_cons_zero, List.getElem_cons_succ, Act.put, List.setIfInBounds_toArray, List.set_cons_zero, List.set_cons_succ]
          refine wpAnyH_ready (rs := [15]) (by kernel_rfl) (by simp) (AllReadyH.cons rfl (fun K hK => ?_) AllReadyH.nil)
          go_simp
          refine hK.out _ _ trivial (fun hSS => ?_)
          clear hK
          refine wpAnyH_done (by kernel_rfl) ?_ _
          go_wp2_with fail
          go_roundw
          case rel => exact ⟨i + 1, nv8, N8, _, by omega, by go_num, hS8⟩
          case measure => simp [intOf]; omega
        · have him2 : i = m := by omega
          subst him2
          have hSm0 : Hid (Sm W.heap.size W wr (W.heap.size + 1 + 1 + 1) (W.heap.size + 1 + 1) g A capg L f nv N M Af q i) := by have := hSt.out.toSm; rw [← hq.out] at this; exact this
          have hmi : 0 < i := hm1
          clear hSt
          go_wp2_with fail
          go_loopw [6] (fun s6 wr => ∃ (m : Nat) (nv : Value) (N : List Nd) (M : List (List Int)), s6 = .slice (some ⟨g, 0, none⟩) m capg ∧ Hid (Sm W.heap.size W wr (W.heap.size + 1 + 1 + 1) (W.heap.size + 1 + 1) g A capg L f nv N M Af q m)) (fun s6 _ => (match s6 with | .slice _ n _ => n | _ => 0))
          case atStart => exact ⟨i, nv, N, M, rfl, hSm0⟩
          case round =>
            clear hSm0
            obtain ⟨m, nv, N, M, rfl, hSm⟩ := hrel
            have hmL := hSm.out.mle
            by_cases hm0 : m = 0
            · subst hm0
              have hbig : Hid (∀ (j : Nat) (hj : j < L.length), j < 0 → q + 1 ≤ L[j].size) := by
                intro j hj hjm
                omega
              go_wp2_with fail
              go_roundw
              case rel => exact ⟨0, q, q + 1, nv, N, M, Af, rfl, by go_num, rfl, by omega, hSm, hbig⟩
              case measure => simp [intOf]; omega
            · obtain ⟨k, rfl⟩ : ∃ k, m = k + 1 := ⟨m - 1, by omega⟩
              have hkL : k < L.length := by omega
              have hgc := hSm.out.rowG.cell (i := k) (by omega)
              rw [hfL.out k hkL] at hgc
              have hgl := World.block_lt_of_cell? _ _ hgc
              have hbg := hSm.out.big k hkL (by omega)
              have hsz := (hLs.out k hkL).2
              by_cases hsq : L[k].size = q
              · have hbe : (((L[k].size : Nat) : Int) == ((q : Nat) : Int)) = true := beq_iff_eq.2 (by omega)
                have hAc := hSm.out.rowA.cell hkL
                have hAl := World.block_lt_of_cell? _ _ hAc
                have hsq : Hid (L[k].size = q) := hsq
                obtain ⟨x, hx, -⟩ := hSm.out.ats k hkL (by omega)
                obtain ⟨gN, capN, rfl, hAk, -, c1⟩ := hSm.out.fin.node hx
                have hgN := (hSm.out.fin.row.lt gN rfl).1
                have hbox := hSm.out.fin.box
                have hS9 : Hid (Sm W.heap.size W (wr.drew.setCell ⟨gN, Af k * 2 + 1, none⟩ (.int .i64 (q : Int))) (W.heap.size + 1 + 1 + 1) (W.heap.size + 1 + 1) g A capg L f (.slice (some ⟨gN, 0, none⟩) N.length capN) (N.set (Af k) ⟨x.lab, x.back, q⟩) (x.lab :: M) Af q k) := Sm.mark hSm.out.drew hkL hsq.out hgN hx
                have hbox9 : (wr.drew.setCell ⟨gN, Af k * 2 + 1, none⟩ (.int .i64 (q : Int))).heap[W.heap.size + 1 + 1 + 1]? = some (.cells #[.slice (some ⟨gN, 0, none⟩) N.length capN, .map (some (W.heap.size + 1 + 1))] 102) := hS9.out.fin.box
                have hA9 : (wr.drew.setCell ⟨gN, Af k * 2 + 1, none⟩ (.int .i64 (q : Int))).cell? ⟨A, k, none⟩ = some (.int .i64 (Af k : Int)) := hS9.out.rowA.cell hkL
                have hfz : wr.frozen? ⟨gN, Af k * 2 + 1, none⟩ = false := hSm.out.fin.frozenN _
                have hcN := World.block_lt_of_cell? _ _ c1
                clear hx hSm hgN hsz hbg
                go_upto_region 15 with fail
                refine wp_region_held_drew (S := fun w' => w'.heap[W.heap.size + 1 + 1 + 1]? = some (.cells #[.slice (some ⟨gN, 0, none⟩) N.length capN, .map (some (W.heap.size + 1 + 1))] 102) ∧ w'.cell? ⟨A, k, none⟩ = some (.int .i64 (Af k : Int))) (by kernel_rfl) ⟨hbox, hAc⟩ (fun hSS => ?_)
                refine wpAnyH_take (i := 0) (v := ?_) rfl (by kernel_rfl) (by kernel_rfl) (by kernel_rfl) (fun _ _ _ h => h) (Or.inl ⟨by rfl, ?_⟩) hSS ?_
                rotate_left
                · intro wz hSz
                  go_simp
                  try with_reducible rfl
                simp only [List.getElem_toArray, List.getElem_cons_zero, Act.put, List.setIfInBounds_toArray, List.set_cons_zero, List.set_cons_succ]
                refine wpAnyH_take (i := 1) (v := ?_) rfl (by kernel_rfl) (by kernel_rfl) (by kernel_rfl) (fun _ _ _ h => h) (Or.inl ⟨by rfl, ?_⟩) hSS ?_
                rotate_left
                · intro wz hSz
                  have zF := cell_of_row _ _ 0 _ _ _ hSz.1; have zA := hSz.2
                  go_simp
                  try with_reducible rfl
                simp only [List.getElem_toArray, List.getElem_cons_zero, List.getElem_cons_succ, Act.put, List.setIfInBounds_toArray, List.set_cons_zero, List.set_cons_succ]
                refine wpAnyH_take (i := 2) (v := ?_) rfl (by kernel_rfl) (by kernel_rfl) (by kernel_rfl) (fun _ _ _ h => h) (Or.inl ⟨by rfl, ?_⟩) hSS ?_
                rotate_left
                · intro wz hSz
                  go_simp
                  try with_reducible rfl
                simp only [List.getElem_toArray, List.getElem_cons_zero, List.getElem_cons_succ, Act.put, List.setIfInBounds_toArray, List.set_cons_zero, List.set_cons_succ]
                refine wpAnyH_take (i := 3) (v := ?_) rfl (by kernel_rfl) (by kernel_rfl) (by kernel_rfl) (fun _ _ _ h => h) (Or.inl ⟨by rfl, ?_⟩) hSS ?_
                rotate_left
                · intro wz hSz
                  have zF := cell_of_row _ _ 0 _ _ _ hSz.1; have zA := hSz.2
                  go_simp
                  try with_reducible rfl
                simp only [List.getElem_toArray, List.getElem_cons_zero, List.getElem_cons_succ, Act.put, List.setIfInBounds_toArray, List.set_cons_zero, List.set_cons_succ]
                refine wpAnyH_take (i := 4) (v := ?_) rfl (by kernel_rfl) (by kernel_rfl) (by kernel_rfl) (fun _ _ _ h => h) (Or.inl ⟨by rfl, ?_⟩) hSS ?_
                rotate_left
                · intro wz hSz
                  go_simp
                  try with_reducible rfl
                simp only [List.getElem_toArray, List.getElem_cons_zero, List.getElem_cons_succ, Act.put, List.setIfInBounds_toArray, List.set_cons_zero, List.set_cons_succ]
                refine wpAnyH_take (i := 5) (v := ?_) rfl (by kernel_rfl) (by kernel_rfl) (by kernel_rfl) (fun _ _ _ h => h) (Or.inl ⟨by rfl, ?_⟩) hSS ?_
                rotate_left
                · intro wz hSz
                  go_simp
                  try with_reducible rfl
                simp only [List.getElem_toArray, List.getElem_cons_zero, List.getElem_cons_succ, Act.put, List.setIfInBounds_toArray, List.set_cons_zero, List.set_cons_succ]
                refine wpAnyH_take (i := 6) (v := ?_) rfl (by kernel_rfl) (by kernel_rfl) (by kernel_rfl) (fun _ _ _ h => h) (Or.inl ⟨by rfl, ?_⟩) hSS ?_
                rotate_left
                · intro wz hSz
                  go_simp
                  try with_reducible rfl
                simp only [List.getElem_toArray, List.getElem_cons_zero, List.getElem_cons_succ, Act.put, List.setIfInBounds_toArray, List.set_cons_zero, List.set_cons_succ]
                refine wpAnyH_take (i := 7) (v := ?_) rfl (by kernel_rfl) (by kernel_rfl) (by kernel_rfl) (fun _ _ _ h => h) (Or.inl ⟨by rfl, ?_⟩) hSS ?_
                rotate_left
                · intro wz hSz
                  have zF := cell_of_row _ _ 0 _ _ _ hSz.1; have zA := hSz.2
                  go_simp
                  try with_reducible rfl
                simp only [List.getElem_toArray, List.getElem_cons_zero, List.getElem_cons_succ, Act.put, List.setIfInBounds_toArray, List.set_cons_zero, List.set_cons_succ]
                refine wpAnyH_take (i := 8) (v := ?_) rfl (by kernel_rfl) (by kernel_rfl) (by kernel_rfl) (fun _ _ _ h => h) (Or.inl ⟨by rfl, ?_⟩) hSS ?_
                rotate_left
                · intro wz hSz
                  have zF := cell_of_row _ _ 0 _ _ _ hSz.1; have zA := hSz.2
                  go_simp
                  try with_reducible rfl
                simp only [List.getElem_toArray, List.getElem_cons_zero, List.getElem_cons_succ, Act.put, List.setIfInBounds_toArray, List.set_cons_zero, List.set_cons_succ]
                refine wpAnyH_take (i := 9) (v := ?_) rfl (by kernel_rfl) (by kernel_rfl) (by kernel_rfl) (fun _ _ _ h => h) (Or.inl ⟨by rfl, ?_⟩) hSS ?_
                rotate_left
                · intro wz hSz
                  go_simp
                  try with_reducible rfl
                simp only [List.getElem_toArray, List.getElem_cons_zero, List.getElem_cons_succ, Act.put, List.setIfInBounds_toArray, List.set_cons_zero, List.set_cons_succ]
                refine wpAnyH_take (i := 10) (v := ?_) rfl (by kernel_rfl) (by kernel_rfl) (by kernel_rfl) (fun _ _ _ h => h) (Or.inl ⟨by rfl, ?_⟩) hSS ?_
                rotate_left
                · intro wz hSz
                  have zF := cell_of_row _ _ 0 _ _ _ hSz.1; have zA := hSz.2
                  go_simp
                  try with_reducible rfl
                simp only [List.getElem_toArray, List.getElem_cons_zero, List.getElem_cons_succ, Act.put, List.setIfInBounds_toArray, List.set_cons_zero, List.set_cons_succ]
                refine wpAnyH_take (i := 11) (v := ?_) rfl (by kernel_rfl) (by kernel_rfl) (by kernel_rfl) (fun _ _ _ h => h) (Or.inl ⟨by rfl, ?_⟩) hSS ?_
                rotate_left
                · intro wz hSz
                  go_simp
                  try with_reducible rfl
                simp only [List.getElem_toArray, List.getElem_cons_zero, List.getElem_cons_succ, Act.put, List.setIfInBounds_toArray, List.set_cons_zero, List.set_cons_succ]
                refine wpAnyH_ready (rs := [12]) (by kernel_rfl) (by simp) (AllReadyH.cons rfl (fun K hK => ?_) AllReadyH.nil)
                go_simp
                refine hK.out _ _ ⟨hbox9, hA9⟩ (fun hSS => ?_)
                clear hK
                refine wpAnyH_done (by kernel_rfl) ?_ _
                go_wp2_with fail
                go_roundw
                case rel => exact ⟨k, _, _, _, rfl, hS9⟩
                case measure => simp
              · have hbe : (((L[k].size : Nat) : Int) == ((q : Nat) : Int)) = false := beq_eq_false_iff_ne.2 (by omega)
                have hbig : Hid (∀ (j : Nat) (hj : j < L.length), j < k + 1 → q + 1 ≤ L[j].size) := by
                  intro j hj hjm
                  have h1 : L[k].size ≤ L[j].size := by
                    by_cases e : j = k
                    · subst e; exact Nat.le_refl _
                    · exact hLd.out j k hj hkL (by omega)
                  omega
                go_wp2_with fail
                go_roundw
                case rel => exact ⟨k + 1, q, q + 1, nv, N, M, Af, rfl, by go_num, rfl, by omega, hSm, hbig⟩
                case measure => simp [intOf]; omega
end Go.Proofs.Ytgknefpefeghcaa
