/- What the iterator that pieces hands back yields. Conditions: the slice shows bytes, fewer than 2^45; the limit is one; a round leaves the bytes and the iterator's two variables alone. -/
import Derived.Test.YtkcnpdcgonengaaFrB
import Derived.Deep.RegionHeld
namespace Go.Proofs.Ytkcnpdcgonengaa
open Go.RowKit Go.Shelf

attribute [local go_sem] Oper.semAt_some

/-- Of the blocks below n₀ all but some are as they were. -/
structure KpE (n₀ : Nat) (E : Nat → Prop) (W W' : World) : Prop where
  size : W.heap.size ≤ W'.heap.size
  block : ∀ k, k < n₀ → ¬ E k → W'.heap[k]? = W.heap[k]?
set_option maxRecDepth 100000 in
theorem KpE.refl (n₀ : Nat) (E : Nat → Prop) (W : World) : KpE n₀ E W W := ⟨Nat.le_refl _, fun _ _ _ => rfl⟩
set_option maxRecDepth 100000 in
theorem KpE.trans {n₀ : Nat} {E : Nat → Prop} {A B C : World} (h : KpE n₀ E A B) (k : KpE n₀ E B C) : KpE n₀ E A C := ⟨Nat.le_trans h.size k.size, fun i hi he => (k.block i hi he).trans (h.block i hi he)⟩
set_option maxRecDepth 100000 in
theorem KpE.below {n₀ B : Nat} {E : Nat → Prop} {W W' : World} (h : Below B W W') (hB : n₀ ≤ B) : KpE n₀ E W W' := ⟨h.size, fun k hk _ => h.block k (by omega)⟩
set_option maxRecDepth 100000 in
theorem KpE.grown {n₀ : Nat} {E : Nat → Prop} {W W' : World} {row : Option Nat} (hg : W.grownBy W' row) (hr : ∀ k, row = some k → n₀ ≤ k ∨ E k) (hn : n₀ ≤ W.heap.size) : KpE n₀ E W W' :=
  ⟨hg.size, fun k hk he => hg.block k (by omega) (fun e => by rcases hr k e.symm with h | h; omega; exact he h)⟩
set_option maxRecDepth 100000 in
theorem KpE.put {n₀ : Nat} {E : Nat → Prop} (W : World) (l : Nat) (o : Obj) (hl : n₀ ≤ l) : KpE n₀ E W (W.putObj l o) :=
  ⟨by simp [World.putObj], fun k hk _ => World.putObj_heap_other (by omega)⟩
set_option maxRecDepth 100000 in
theorem KpE.set {n₀ : Nat} {E : Nat → Prop} (W : World) (p : Addr) (u : Value) (hp : n₀ ≤ p.block ∨ E p.block) : KpE n₀ E W (W.setCell p u) :=
  ⟨by simp [World.setCell], fun k hk he => Below.heap_setCell _ _ _ _ (fun e => by subst e; rcases hp with h | h; omega; exact he h)⟩
set_option maxRecDepth 100000 in
theorem KpE.cell {n₀ : Nat} {E : Nat → Prop} {W W' : World} (h : KpE n₀ E W W') {p : Addr} (hp : p.block < n₀) (he : ¬ E p.block) : W'.cell? p = W.cell? p := World.cell?_of_block (w := W) (h.block _ hp he)
set_option maxRecDepth 100000 in
theorem Row.kpe {n₀ : Nat} {E : Nat → Prop} {w w' : World} {a : Option Addr} {zs : List Int} (h : Row w a zs) (hk : KpE n₀ E w w') (hE : zs ≠ [] → ∀ x, a = some x → x.block < n₀ ∧ ¬ E x.block) : Row w' a zs := by
  refine ⟨h.1, fun hz => ?_⟩
  obtain ⟨b, off, rfl, hc⟩ := h.2 hz
  obtain ⟨h1, h2⟩ := hE hz _ rfl
  exact ⟨b, off, rfl, fun j hj => (hk.cell (p := ⟨b, off + j, none⟩) h1 h2).trans (hc j hj)⟩

set_option maxHeartbeats 3200000 in
set_option maxRecDepth 100000 in
theorem pieces1_told (n : Nat) (n₀ : Nat) (E : Nat → Prop) (a : Option Addr) (zs : List Int) (cap : Nat) (L : Int) (Bb Bl : Nat) (w : World) (hn₀ : n₀ ≤ w.heap.size)
    (hr : Row w a zs) (hnil : a = none → zs.length = 0 ∧ cap = 0) (hlc : zs.length ≤ cap) (hlen : zs.length ≤ 35184372088832) (hL0 : 0 ≤ L) (hL1 : L ≤ 4096)
    (hE : zs ≠ [] → ∀ x, a = some x → x.block < n₀ ∧ ¬ E x.block) (hBb : w.cell? ⟨Bb, 0, none⟩ = some (.slice a zs.length cap)) (hBl : w.cell? ⟨Bl, 0, none⟩ = some (.int .i64 L))
    (hb1 : Bb < n₀ ∧ ¬ E Bb) (hb2 : Bl < n₀ ∧ ¬ E Bl) :
    SeqTold Fence.wide n Try.prog 112 #[.pointer (some ⟨Bb, 0, none⟩), .pointer (some ⟨Bl, 0, none⟩)] Piece.enc (Piece.told n₀) (KpE n₀ E) (fun xs => xs.map Piece.strip = pcs L zs) (fun pre => pre.map Piece.strip <+: pcs L zs) zs.length w := fun l J Jx W hW hJ hJx hY h0 => by
  have hKW : KpE n₀ E w W := KpE.below hW hn₀
  refine callsIn_of_wp Try.func112 rfl trivial ?_ rfl
  simp only [Try.ntmps112, List.size_toArray, List.length_cons, List.length_nil, Nat.reduceAdd, Nat.reduceSub, Array.replicate_succ, Array.replicate_zero, List.push_toArray, List.append_toArray, List.nil_append, List.cons_append]
  gi_wp2
  gi_loopw [4] (fun sk wr => ∃ (k f : Nat) (pre : List Piece), sk = .int .i64 k ∧ k ≤ zs.length ∧ Hid (pre.map Piece.strip ++ pcsF f L k (zs.drop k) = pcs L zs ∧ (zs.drop k).length ≤ f) ∧ J pre wr ∧ KpE n₀ E w wr) (fun sk _ => zs.length - (intOf sk).toNat)
  case atStart => exact ⟨0, zs.length, [], rfl, Nat.zero_le _, ⟨rfl, by simp⟩, h0, hKW⟩
  case round =>
    obtain ⟨k, f, pre, rfl, hk, hid, hJs, hK⟩ := hrel
    have c0 := (hK.cell (p := ⟨Bb, 0, none⟩) hb1.1 hb1.2).trans hBb
    have c1 := (hK.cell (p := ⟨Bl, 0, none⟩) hb2.1 hb2.2).trans hBl
    have hrw := hr.kpe hK hE
    by_cases hlt : k < zs.length
    · have hdne : zs.drop k ≠ [] := by intro e; have := congrArg List.length e; simp at this; omega
      obtain ⟨g, rfl⟩ : ∃ g, f = g + 1 := by
        cases f with
        | zero => have := hid.out.2; simp at this; omega
        | succ g => exact ⟨g, rfl⟩
      have hbz : Byt (zs.drop k) := Byt.drop hr.byte k
      have hsl := run_cut_l a zs.length cap k (k : Int) rfl hk
      have CF : Hid (∀ W, Row W a zs → Calls Try.prog 113 #[.slice (cutA a cap k) (zs.length - k) (cap - k), .int .i64 L] W fun e w' => ∃ fa fc, e = .returned (.tuple #[.slice fa (frst L (zs.drop k)).1.length fc, .int .i64 (frst L (zs.drop k)).2.1, .int .i64 (frst L (zs.drop k)).2.2]) ∧ Shown w' fa (frst L (zs.drop k)).1 fc ∧ (∀ x, fa = some x → W.heap.size ≤ x.block ∧ ∃ cur, w'.heap[x.block]? = some (.cells cur 5 (0, 0))) ∧ Below W.heap.size W w') := fun W h => by
        have h1 := cutA_row (cap := cap) k (zs.length - k) hlc W h
        have htk : (zs.drop k).take (zs.length - k) = zs.drop k := List.take_of_length_le (by simp)
        rw [htk] at h1
        have := first_any (cutA a cap k) (zs.drop k) (cap - k) L W h1 (fun hn => by have := cutA_nil k hnil hn; simp; omega) (by simp; omega) (by simp; omega) hL0 hL1
        rw [List.length_drop] at this; exact this
      have hpl : pre.length < zs.length := by
        have h1 := hid.out.1
        have h2 := congrArg List.length h1
        have h3 := pcsF_len zs.length L 0 zs
        have h4 : 0 < (pcsF (g + 1) L k (zs.drop k)).length := by
          by_cases he : (frst L (zs.drop k)).2.2 = 0
          · rw [pcsF_yes _ _ _ _ hdne he]; simp
          · rw [pcsF_no _ _ _ _ hdne he]; simp
        rw [List.length_append, List.length_map] at h2
        unfold pcs at h2
        omega
      by_cases he : (frst L (zs.drop k)).2.2 = 0
      · obtain ⟨o1, o2, o4, -, -⟩ := frst_ok L _ hbz he
        have hnx : Hid ((pre.map Piece.strip ++ [(k, (frst L (zs.drop k)).1, 0)]) ++ pcsF g L (k + (frst L (zs.drop k)).2.1.toNat) (zs.drop (k + (frst L (zs.drop k)).2.1.toNat)) = pcs L zs ∧ (zs.drop (k + (frst L (zs.drop k)).2.1.toNat)).length ≤ g) := by
          have h1 := hid.out.1
          rw [pcsF_yes _ _ _ _ hdne he, List.drop_drop] at h1
          refine ⟨by rw [List.append_assoc]; exact h1, ?_⟩
          have := drop_lt L _ hbz he g hid.out.2
          rw [List.drop_drop] at this; exact this
        generalize frst L (zs.drop k) = q at *
        obtain ⟨fb, sz, fe⟩ := q
        simp only at he o1 o2 o4
        subst he
        obtain ⟨s, rfl⟩ := Int.eq_ofNat_of_zero_le (show 0 ≤ sz by omega)
        simp only [Int.toNat_natCast] at hnx
        have o3 : k + s ≤ zs.length := by simp at o2; omega
        clear hid hdne hbz
        have hnr : n₀ ≤ wr.heap.size := Nat.le_trans hn₀ hK.size
        have hB1 : Bb < wr.heap.size := by omega
        have hB2 : Bl < wr.heap.size := by omega
        gi_wp2
        refine wpIn_wide.2 ?_
        go_region_held (fun w' => w'.cell? ⟨Bb, 0, none⟩ = some (.slice a zs.length cap) ∧ w'.cell? ⟨Bl, 0, none⟩ = some (.int .i64 L)) (first | go_keep | exact ⟨(hb.cell (p := ⟨Bb, 0, none⟩) hB1).trans c0, (hb.cell (p := ⟨Bl, 0, none⟩) hB2).trans c1⟩ | fail) ((go_at_call 113; refine (CF.out _ hrw.drew).mono ?_; rintro e w1 ⟨fa, fc, rfl, hsh, hfa, hb⟩))
        have hb' : Below wr.heap.size wr w1 := (Below.drew (Below.refl _ _)).trans hb
        have hJ1 : J pre w1 := hJ pre wr w1 none hJs ⟨hb'.os, hb'.tape, hb'.output, hb'.size, fun k hk _ => hb'.block k hk⟩ (fun r h => by cases h)
        have htold : Piece.told n₀ ⟨k, fb, 0, fa, fc⟩ w1 := ⟨hsh, by show fb.length ≤ 4096; omega, fun x hx => ⟨Nat.le_trans hnr (hfa x hx).1, (hfa x hx).2⟩⟩
        have hK1 : KpE n₀ E w w1 := hK.trans (KpE.below hb' hnr)
        obtain ⟨fn, tmps, assign, body, hy, hR⟩ := hY pre ⟨k, fb, 0, fa, fc⟩ w1 hJ1 htold hpl
        dsimp only [Piece.enc] at hy
        clear hb hsh hfa htold
        gi_wp2
        refine ⟨(fun h => by cases h), hR.mono ?_⟩
        rintro e W3 (⟨rfl, hJ3, hk3⟩ | ⟨rfl, hJx3⟩)
        · gi_wp2
          go_roundw
          case rel => exact ⟨k + s, g, pre ++ [⟨k, fb, 0, fa, fc⟩], by go_num, o3, by rw [List.map_append]; exact hnx, hJ3, hK1.trans hk3⟩
          case measure => simp [intOf]; omega
        · gi_wp2
          refine bodyPost_ret (results_none rfl _ _ _) rfl ?_
          refine ⟨⟨_, rfl⟩, .inr ⟨_, ?_, hJx3⟩⟩
          rw [List.map_append]
          exact ⟨_, hnx.out.1⟩
      · have hnx : Hid (pre.map Piece.strip ++ [(k, (frst L (zs.drop k)).1, (frst L (zs.drop k)).2.2)] = pcs L zs) := by
          have h1 := hid.out.1
          rw [pcsF_no _ _ _ _ hdne he] at h1
          rcases frst_err L (zs.drop k) with h2 | ⟨_, h2⟩
          · exact absurd h2 he
          · rw [h2]; exact h1
        have hne : ((frst L (zs.drop k)).2.2 != 0) = true := by simpa using he
        have o4 : (frst L (zs.drop k)).1.length ≤ 4096 := by
          rcases frst_err L (zs.drop k) with h2 | ⟨_, h2⟩
          · exact absurd h2 he
          · rw [h2]; simp
        generalize frst L (zs.drop k) = q at *
        obtain ⟨fb, sz, fe⟩ := q
        simp only at hne hnx o4
        clear hid hdne hbz he
        have hnr : n₀ ≤ wr.heap.size := Nat.le_trans hn₀ hK.size
        have hB1 : Bb < wr.heap.size := by omega
        have hB2 : Bl < wr.heap.size := by omega
        gi_wp2
        refine wpIn_wide.2 ?_
        go_region_held (fun w' => w'.cell? ⟨Bb, 0, none⟩ = some (.slice a zs.length cap) ∧ w'.cell? ⟨Bl, 0, none⟩ = some (.int .i64 L)) (first | go_keep | exact ⟨(hb.cell (p := ⟨Bb, 0, none⟩) hB1).trans c0, (hb.cell (p := ⟨Bl, 0, none⟩) hB2).trans c1⟩ | fail) ((go_at_call 113; refine (CF.out _ hrw.drew).mono ?_; rintro e w1 ⟨fa, fc, rfl, hsh, hfa, hb⟩))
        have hb' : Below wr.heap.size wr w1 := (Below.drew (Below.refl _ _)).trans hb
        have hJ1 : J pre w1 := hJ pre wr w1 none hJs ⟨hb'.os, hb'.tape, hb'.output, hb'.size, fun k hk _ => hb'.block k hk⟩ (fun r h => by cases h)
        have htold : Piece.told n₀ ⟨k, fb, fe, fa, fc⟩ w1 := ⟨hsh, by show fb.length ≤ 4096; omega, fun x hx => ⟨Nat.le_trans hnr (hfa x hx).1, (hfa x hx).2⟩⟩
        obtain ⟨fn, tmps, assign, body, hy, hR⟩ := hY pre ⟨k, fb, fe, fa, fc⟩ w1 hJ1 htold hpl
        dsimp only [Piece.enc] at hy
        clear hb hsh hfa htold
        gi_wp2
        refine ⟨(fun h => by cases h), hR.mono ?_⟩
        rintro e W3 (⟨rfl, hJ3, hk3⟩ | ⟨rfl, hJx3⟩)
        · gi_wp2
          refine bodyPost_ret (results_none rfl _ _ _) rfl ?_
          refine ⟨⟨_, rfl⟩, .inl ⟨_, ?_, hJ3⟩⟩
          rw [List.map_append]
          exact hnx.out
        · gi_wp2
          refine bodyPost_ret (results_none rfl _ _ _) rfl ?_
          refine ⟨⟨_, rfl⟩, .inr ⟨_, ?_, hJx3⟩⟩
          rw [List.map_append]
          exact ⟨[], by rw [List.append_nil]; exact hnx.out⟩
    · have hke : zs.drop k = [] := List.drop_eq_nil_of_le (by omega)
      have hnx : Hid (pre.map Piece.strip = pcs L zs) := by
        have h1 := hid.out.1
        rw [hke, pcsF_nil, List.append_nil] at h1
        exact h1
      clear hid hke
      gi_wp2
      go_end0
      exact ⟨⟨_, rfl⟩, .inl ⟨_, hnx.out, hJs⟩⟩
end Go.Proofs.Ytkcnpdcgonengaa
