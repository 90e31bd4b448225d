/- finderOf: the finder of a text's secrets. Conditions: the secrets lie in memory; they are not too many, nor too long. -/
import Derived.Test.YtgknefpefeghcaaMkS
namespace Go.Proofs.Ytgknefpefeghcaa
open Go.RowKit Go.Maps Go.ChangeMaps Go.WideShapes Go.WideMaps

/-- The last bytes of a text. -/
def tailB (s : ByteArray) (r : Nat) : List Int := (bsI s).drop (s.size - r)
set_option maxRecDepth 100000 in
theorem tail_zero (s : ByteArray) : tailB s 0 = [] := by
  unfold tailB
  exact List.drop_eq_nil_of_le (by rw [bsI_len]; omega)
set_option maxRecDepth 100000 in
theorem tail_succ (s : ByteArray) (r : Nat) (h : r < s.size) : ∃ hi : s.size - (r + 1) < (bsI s).length, tailB s (r + 1) = (bsI s)[s.size - (r + 1)] :: tailB s r := by
  have hi : s.size - (r + 1) < (bsI s).length := by rw [bsI_len]; omega
  refine ⟨hi, ?_⟩
  unfold tailB
  rw [List.drop_eq_getElem_cons hi]
  congr 2
  omega
set_option maxRecDepth 100000 in
theorem tail_len (s : ByteArray) (r : Nat) (h : r ≤ s.size) : (tailB s r).length = r := by
  unfold tailB
  rw [List.length_drop, bsI_len]; omega
set_option maxRecDepth 100000 in
theorem tail_all (s : ByteArray) : tailB s s.size = bsI s := by
  unfold tailB
  rw [Nat.sub_self, List.drop_zero]
/-- Of each text that is left the node of its last bytes. -/
def AtsOk (N : List Nd) (L : List ByteArray) (A : Nat → Nat) (r i m : Nat) : Prop := ∀ (j : Nat) (hj : j < L.length), j < m → ∃ x : Nd, N[A j]? = some x ∧ x.lab = tailB L[j] (if j < i then r + 1 else r)
set_option maxRecDepth 100000 in
theorem AtsOk.grown {N N' : List Nd} {L : List ByteArray} {A : Nat → Nat} {r i m k : Nat} (h : AtsOk N L A r i m) (hN : ∀ (i : Nat) (y : Nd), N[i]? = some y → N'[i]? = some y) (hi : i < L.length) {y : Nd} (hy : N'[k]? = some y) (hl : y.lab = tailB L[i] (r + 1)) :
    AtsOk N' L (fun j => if j = i then k else A j) r (i + 1) m := by
  intro j hj hm
  by_cases e : j = i
  · subst e
    refine ⟨y, by simpa using hy, ?_⟩
    rw [if_pos (by omega), hl]
  · obtain ⟨x, h1, h2⟩ := h j hj hm
    refine ⟨x, by simpa [e] using hN _ _ h1, ?_⟩
    rw [h2]
    by_cases e2 : j < i
    · rw [if_pos e2, if_pos (by omega)]
    · rw [if_neg e2, if_neg (by omega)]
set_option maxRecDepth 100000 in
theorem AtsOk.next {N : List Nd} {L : List ByteArray} {A : Nat → Nat} {r m : Nat} (h : AtsOk N L A r m m) : AtsOk N L A (r + 1) 0 m := by
  intro j hj hm
  obtain ⟨x, h1, h2⟩ := h j hj hm
  refine ⟨x, h1, ?_⟩
  rw [h2, if_pos hm, if_neg (by omega)]
set_option maxRecDepth 100000 in
theorem AtsOk.less {N : List Nd} {L : List ByteArray} {A : Nat → Nat} {r i m m' : Nat} (h : AtsOk N L A r i m) (hm : m' ≤ m) : AtsOk N L A r i m' := fun j hj h1 => h j hj (by omega)
set_option maxRecDepth 100000 in
theorem AtsOk.set {N : List Nd} {L : List ByteArray} {A : Nat → Nat} {r i m k : Nat} (h : AtsOk N L A r i m) {x : Nd} (hx : N[k]? = some x) (v : Nat) : AtsOk (N.set k ⟨x.lab, x.back, v⟩) L A r i m := by
  intro j hj hm
  obtain ⟨z, h1, h2⟩ := h j hj hm
  by_cases e : A j = k
  · rw [e] at h1 ⊢
    rw [hx] at h1
    obtain rfl := Option.some.inj h1
    exact ⟨_, List.getElem?_set_self (List.getElem?_eq_some_iff.1 hx).1, h2⟩
  · exact ⟨z, by rw [List.getElem?_set_ne (Ne.symm e)]; exact h1, h2⟩
set_option maxRecDepth 100000 in
/-- A node's number of bytes is stored into it. -/
theorem flatN_set : ∀ (N : List Nd) (k : Nat) (x : Nd) (v : Nat), N[k]? = some x → (flatN N).set (k * 2 + 1) (.int .i64 v) = flatN (N.set k ⟨x.lab, x.back, v⟩)
  | [], k, x, v, h => by simp at h
  | y :: r, 0, x, v, h => by
    obtain rfl := Option.some.inj h
    rfl
  | y :: r, k + 1, x, v, h => by
    have := flatN_set r k x v h
    rw [show (k + 1) * 2 + 1 = k * 2 + 1 + 2 by omega]
    simp only [flatN, List.set_cons_succ, this]
set_option maxRecDepth 100000 in
theorem ViewE.set {D : DataW Unit} {N : List Nd} (h : ViewE D N) {k : Nat} {x : Nd} (hx : N[k]? = some x) (v : Nat) : ViewE D (N.set k ⟨x.lab, x.back, v⟩) := by
  have hk := (List.getElem?_eq_some_iff.1 hx).1
  have hget : ∀ (j : Nat) (z : Nd), (N.set k ⟨x.lab, x.back, v⟩)[j]? = some z → ∃ z' : Nd, N[j]? = some z' ∧ z.lab = z'.lab := by
    intro j z hz
    by_cases e : j = k
    · subst e
      rw [List.getElem?_set_self hk] at hz
      obtain rfl := Option.some.inj hz
      exact ⟨x, hx, rfl⟩
    · rw [List.getElem?_set_ne (Ne.symm e)] at hz
      exact ⟨z, hz, rfl⟩
  have hput : ∀ (j : Nat) (z' : Nd), N[j]? = some z' → ∃ z : Nd, (N.set k ⟨x.lab, x.back, v⟩)[j]? = some z ∧ z.lab = z'.lab := by
    intro j z' hz
    by_cases e : j = k
    · subst e
      rw [hx] at hz
      obtain rfl := Option.some.inj hz
      exact ⟨_, List.getElem?_set_self hk, rfl⟩
    · exact ⟨z', by rw [List.getElem?_set_ne (Ne.symm e)]; exact hz, rfl⟩
  have hE : ∀ i b j, EdgeTo (N.set k ⟨x.lab, x.back, v⟩) i b j ↔ EdgeTo N i b j := by
    intro i b j
    constructor
    · rintro ⟨u, w, h1, h2, h3⟩
      obtain ⟨u', a1, a2⟩ := hget i u h1
      obtain ⟨w', b1, b2⟩ := hget j w h2
      exact ⟨u', w', a1, b1, by rw [← b2, ← a2]; exact h3⟩
    · rintro ⟨u, w, h1, h2, h3⟩
      obtain ⟨u', a1, a2⟩ := hput i u h1
      obtain ⟨w', b1, b2⟩ := hput j w h2
      exact ⟨u', w', a1, b1, by rw [b2, a2]; exact h3⟩
  intro i b hi hb
  obtain ⟨h1, h2⟩ := h i b hi hb
  exact ⟨fun j hj => h1 j ((hE i b j).1 hj), fun hn => h2 (fun j hj => hn j ((hE i b j).2 hj))⟩
set_option maxRecDepth 100000 in
theorem FIn.mark {W : World} {base F Mb g cap : Nat} {N : List Nd} (h : FIn W base F Mb (.slice (some ⟨g, 0, none⟩) N.length cap) N) {k : Nat} {x : Nd} (hx : N[k]? = some x) (v : Nat) :
    FIn (W.setCell ⟨g, k * 2 + 1, none⟩ (.int .i64 (v : Int))) base F Mb (.slice (some ⟨g, 0, none⟩) N.length cap) (N.set k ⟨x.lab, x.back, v⟩) := by
  obtain ⟨a1, a2, a3⟩ := h.apart
  have a2 : F ≠ g := fun e => a2 (by rw [e]; rfl)
  have a3 : Mb ≠ g := fun e => a3 (by rw [e]; rfl)
  obtain ⟨D, ⟨es, clock, h1, h2⟩, hv⟩ := h.map
  refine ⟨(Below.heap_setCell _ _ _ _ a2).trans h.box, ?_, ⟨D, ⟨es, clock, (Below.heap_setCell _ _ _ _ a3).trans h1, by rw [List.length_set]; exact h2⟩, hv.set hx v⟩, by rw [List.length_set]; exact h.small⟩
  have hst := h.row.stored (k * 2 + 1) (.int .i64 (v : Int))
  rw [List.length_set, ← flatN_set N k x v hx]
  exact hst.1
set_option maxRecDepth 100000 in
/-- All blocks but one stay. -/
theorem Kept3.setOwn {W w1 : World} {F Mb base g n cap : Nat} {N : List Nd} (h : Kept3 W w1 F Mb) (hf : FIn w1 base F Mb (.slice (some ⟨g, 0, none⟩) n cap) N) (j : Nat) (u : Value) : Kept3 W (w1.setCell ⟨g, j, none⟩ u) F Mb := by
  refine h.trans ⟨by simp, fun k o hk _ _ c => ?_⟩
  refine (Below.heap_setCell _ _ _ _ (fun e => ?_)).trans hk
  have e : k = g := e
  subst e
  rcases hf.row.2 with ⟨hv, -⟩ | ⟨g', cap', cur, hv, hg', hbk, -⟩
  · cases hv
  · injection hv with hv
    injection hv with hv
    injection hv with hv
    rw [hv] at hk
    rw [hbk] at hk
    exact c cur _ (Option.some.inj hk).symm
set_option maxRecDepth 100000 in
theorem row_kept {W w1 : World} {F Mb g n : Nat} {t : TypeId} {f : Nat → Value} (h : W.rowIs g t n f) (hk : Kept3 W w1 F Mb) (hF : g ≠ F) (hM : g ≠ Mb) (ht : t ≠ 111) : w1.rowIs g t n f := by
  obtain ⟨c, hb, hn, hc⟩ := h
  refine ⟨c, hk.2 g _ hb hF hM (fun cur fz e => ?_), hn, hc⟩
  injection e with e1 e2
  exact ht e2
/-- What finderOf answers: a finder that is right, of the secrets that a text has room for. -/
def FindIs (W : World) (base F : Nat) (T : ByteArray) (l : List ByteArray) : Prop := ∃ (Mb : Nat) (nv : Value) (N : List Nd) (M : List (List Int)), FIn W base F Mb nv N ∧ TreeOk N ∧ Known N M ∧ ∀ m, m ∈ M ↔ ∃ s ∈ left T l, bsI s = m

set_option maxRecDepth 100000 in
theorem infoN2 : (Try.prog.info? 111).map (fun i => (i.zero, i.size, i.bytes)) = some (some (.agg #[.int .i64 0, .int .i64 0]), 2, 16) := by kernel_rfl
set_option maxRecDepth 100000 in
theorem infoInt : (Try.prog.info? 3).map (fun i => (i.zero, i.size, i.bytes)) = some (some (.int .i64 0), 1, 8) := by kernel_rfl
set_option maxRecDepth 100000 in
theorem run_makeN (w : World) : (Instr.makeSlice 99 (.int .i64 1) (.int .i64 1)).run Try.prog w = .ok (.slice (some ⟨w.heap.size, 0, none⟩) 1 1) (w.alloc (.cells #[.int .i64 0, .int .i64 0] 111)) := by
  obtain ⟨i, hi, hz, hs, hb⟩ := info_parts infoN2
  have hr := run_make (P := Try.prog) w 99 111 i _ Try.underlying99 hi hz .i64 .i64 1 1 (by omega) (Int.le_refl _) (by rw [hb]; omega) (by omega)
  rw [hs] at hr
  have e : madeCells (Value.agg #[.int .i64 0, .int .i64 0]).cells (Int.toNat 1 * 2) = #[.int .i64 0, .int .i64 0] := by kernel_rfl
  rw [e] at hr
  exact hr
set_option maxRecDepth 100000 in
theorem run_makeI (n : Nat) (hn : n ≤ 100000) (w : World) : (Instr.makeSlice 108 (.int .i64 (n : Int)) (.int .i64 (n : Int))).run Try.prog w = .ok (.slice (some ⟨w.heap.size, 0, none⟩) n n) (w.alloc (.cells (madeCells #[.int .i64 0] n) 3)) := by
  obtain ⟨i, hi, hz, hs, hb⟩ := info_parts infoInt
  have hr := run_make (P := Try.prog) w 108 3 i _ Try.underlying108 hi hz .i64 .i64 n n (by omega) (Int.le_refl _) (by rw [hb]; omega) (by omega)
  simp only [Int.toNat_natCast, hs, Nat.mul_one] at hr
  exact hr
set_option maxRecDepth 100000 in
/-- A new finder. -/
theorem fin_start (W : World) (base : Nat) (hb : base ≤ W.heap.size) : FIn (((W.alloc (.cells #[.int .i64 0, .int .i64 0] 111)).alloc (.map #[] 0)).alloc (.cells #[.slice (some ⟨W.heap.size, 0, none⟩) 1 1, .map (some (W.heap.size + 1))] 102)) base (W.heap.size + 1 + 1) (W.heap.size + 1) (.slice (some ⟨W.heap.size, 0, none⟩) 1 1) [⟨[], 0, 0⟩] := by
  refine ⟨?_, ?_, ⟨.map [], ?_, ?_⟩, by simp⟩
  · have := heap_alloc_new ((W.alloc (.cells #[.int .i64 0, .int .i64 0] 111)).alloc (.map #[] 0)) (.cells #[.slice (some ⟨W.heap.size, 0, none⟩) 1 1, .map (some (W.heap.size + 1))] 102)
    simpa using this
  · refine ⟨rfl, Or.inr ⟨W.heap.size, 1, #[.int .i64 0, .int .i64 0], rfl, hb, ?_, Nat.le_refl _, by simp [maxLen], rfl, rfl⟩⟩
    rw [Below.heap_alloc _ _ _ (by simp; omega), Below.heap_alloc _ _ _ (by simp)]
    exact heap_alloc_new _ _
  · have := (World.ownsMap_made (H := Unit) (W.alloc (.cells #[.int .i64 0, .int .i64 0] 111)) Try.prog 135 (plainElem Try.prog 3)).mono (n' := 1) (by omega)
    simpa using this.alloc (.cells #[.slice (some ⟨W.heap.size, 0, none⟩) 1 1, .map (some (W.heap.size + 1))] 102)
  · intro i b _ _
    refine ⟨fun j ⟨x, y, h1, h2, h3⟩ => ?_, fun _ => rfl⟩
    have : y = ⟨[], 0, 0⟩ := by
      match j, h2 with
      | 0, h2 => exact (Option.some.inj h2).symm
      | j + 1, h2 => simp at h2
    rw [this] at h3
    cases h3
set_option maxRecDepth 100000 in
theorem left_size {T : ByteArray} {l : List ByteArray} {s : ByteArray} (h : s ∈ left T l) : 4 ≤ s.size ∧ s.size ≤ T.size := by
  have := (List.mem_filter.1 h).2
  simp [noSec] at this
  omega
set_option maxRecDepth 100000 in
theorem finder_nil {W : World} (T : ByteArray) : Calls Try.prog 26 #[.string T, .slice none 0 0] W fun e w' => ∃ F, e = .returned (.pointer (some ⟨F, 0, none⟩)) ∧ FindIs w' W.heap.size F T [] ∧ Below W.heap.size W w' := by
  have hmm := @run_makeMap Try.prog
  have hmn := run_makeN
  have hmi : ∀ w, (Instr.makeSlice 108 (.int .i64 0) (.int .i64 0)).run Try.prog w = .ok (.slice (some ⟨w.heap.size, 0, none⟩) 0 0) (w.alloc (.cells (madeCells #[.int .i64 0] 0) 3)) := fun w => run_makeI 0 (by omega) w
  have hfin := fin_start (W.alloc (.cells #[.string T] 9)) W.heap.size (by simp)
  have hb := (((((Below.refl W.heap.size W).alloc (Nat.le_refl _) (.cells #[.string T] 9)).alloc (by simp) (.cells #[.int .i64 0, .int .i64 0] 111)).alloc (by simp; omega) (.map #[] 0)).alloc (by simp; omega) (.cells #[.slice (some ⟨(W.alloc (.cells #[.string T] 9)).heap.size, 0, none⟩) 1 1, .map (some ((W.alloc (.cells #[.string T] 9)).heap.size + 1))] 102))
  go_enter Try.func26, Try.ntmps26
  go_upto_region 2 with fail
  have hsz : (W.alloc (.cells #[.string T] 9)).heap.size = W.heap.size + 1 := by simp
  rw [hsz] at hfin hb
  have hB : ((((W.alloc (.cells #[.string T] 9)).alloc (.cells #[.int .i64 0, .int .i64 0] 111)).alloc (.map #[] 0)).alloc (.cells #[.slice (some ⟨W.heap.size + 1, 0, none⟩) 1 1, .map (some (W.heap.size + 1 + 1))] 102)).cell? ⟨W.heap.size, 0, none⟩ = some (.string T) := by
    have h1 : (W.alloc (.cells #[.string T] 9)).heap[W.heap.size]? = some (.cells #[.string T] 9) := heap_alloc_new _ _
    rw [← Below.heap_alloc (W.alloc (.cells #[.string T] 9)) (.cells #[.int .i64 0, .int .i64 0] 111) _ (by simp), ← Below.heap_alloc _ (.map #[] 0) _ (by simp; omega), ← Below.heap_alloc _ (.cells #[.slice (some ⟨W.heap.size + 1, 0, none⟩) 1 1, .map (some (W.heap.size + 1 + 1))] 102) _ (by simp; omega)] at h1
    rw [cell_of_row _ _ _ _ _ _ h1]
    rfl
  generalize (((W.alloc (.cells #[.string T] 9)).alloc (.cells #[.int .i64 0, .int .i64 0] 111)).alloc (.map #[] 0)).alloc (.cells #[.slice (some ⟨W.heap.size + 1, 0, none⟩) 1 1, .map (some (W.heap.size + 1 + 1))] 102) = W3 at *
  clear hsz
  go_wp2_with fail
  refine (clone_nil _).mono ?_
  rintro e w' ⟨rfl, rfl⟩
  go_wp2_with fail
  refine (delf_nil hB).mono ?_
  rintro e w' ⟨rfl, rfl⟩
  go_wp2_with fail
  refine (sort_none _ _ _).mono ?_
  rintro e w' ⟨rfl, rfl⟩
  have hf : Hid (FIn (W3.alloc (.cells (madeCells #[.int .i64 0] 0) 3)) W.heap.size (W.heap.size + 1 + 1 + 1) (W.heap.size + 1 + 1) (.slice (some ⟨W.heap.size + 1, 0, none⟩) 1 1) [⟨[], 0, 0⟩] ∧ Below W.heap.size W (W3.alloc (.cells (madeCells #[.int .i64 0] 0) 3))) := by
    have hb2 := (Below.refl W3.heap.size W3).alloc (Nat.le_refl _) (.cells (madeCells #[.int .i64 0] 0) 3)
    exact ⟨hfin.below hb2, hb.trans (hb2.mono hb.size)⟩
  clear hfin hb hB
  go_wp2_with fail
  refine wp_loop_rounds 1 ?_
  rw [rounds_succ]
  go_wp2_with fail
  go_ret
  obtain ⟨t1, t2, -⟩ := tree_start
  exact ⟨_, rfl, ⟨_, _, _, [], hf.out.1, t1, t2, fun m => Iff.intro (fun h => by cases h) (fun h => by obtain ⟨s, h, -⟩ := h; simp [left] at h)⟩, hf.out.2⟩
end Go.Proofs.Ytgknefpefeghcaa
