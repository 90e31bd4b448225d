/- The law's own slices of items: where they lie, cuts, appends; find. Conditions: they lie in memory. -/
import Derived.Test.YtjgonfaniincbaaCkV
import Derived.Laws.AppendOwnNone
import Derived.Laws.OwnMore
namespace Go.Proofs.Ytjgonfaniincbaa
open Go.RowKit

set_option maxRecDepth 100000 in
theorem run_append_any (w : World) (base : Nat) (t ty e : TypeId) (i : TypeInfo) (z : Value) (size bytes : Nat) (ht : Try.prog.underlying t = some (.slice e)) (hi : Try.prog.info? e = some i) (hz : i.zero = some z)
    (hsize : i.size = size) (hby : i.bytes = bytes) (hzs : z.cells.size = size) (hsz : 0 < size)
    (v : Value) (n : Nat) (xs : List Value) (hown : w.ownsRow base e size v n xs)
    (a : Option Addr) (m c : Nat) (news : List Value) (hl : news.length = m * size) (hno : a = none → m = 0 ∧ c = 0) (hnews : ∀ ad, a = some ad → ∀ j u, news[j]? = some u → w.cell? (ad.add j) = some u) (h1 : ∀ u ∈ news, u.oneCell' = true)
    (h63 : n + m ≤ maxLen) (hbytes : (n + m) * bytes ≤ 140737488355328) (hbase : base ≤ w.heap.size) :
    ∃ v' w', (Builtin.append_ #[t, t] ty #[v, .slice a m c]).run Try.prog w = .ok v' w' ∧ w'.ownsRow base e size v' (n + m) (xs ++ news) ∧ w.grownBy w' v.ownBlock ∧ (v'.ownBlock = v.ownBlock ∨ v'.ownBlock = some w.heap.size) := by
  cases a with
  | none =>
    obtain ⟨rfl, rfl⟩ := hno rfl
    have hn : news = [] := List.eq_nil_of_length_eq_zero (by simpa using hl)
    subst hn
    exact ⟨v, w, run_append_owned_none (P := Try.prog) (w := w) base t ty e i size ht hi v n xs hown, by simpa using hown, ⟨rfl, rfl, rfl, Nat.le_refl _, fun _ _ _ => rfl⟩, Or.inl rfl⟩
  | some ad =>
    obtain ⟨v', w', h2, h3, h4, -, h5⟩ := run_append_own_at (P := Try.prog) w base t ty e i z size bytes ht hi hz hsize hby hzs hsz v n xs hown ad m c news hl (hnews ad rfl) h1 h63 hbytes hbase
    exact ⟨v', w', h2, h3, h4, h5⟩
set_option maxRecDepth 100000 in
/-- An append at a step of a region that draws its order. -/
theorem step_append_any {ops : Array Oper} {o : Oper} {a : Act} {w : World} {K : Act → World → Prop} {Q : Exit → Act → World → Prop} {E : Prop} (hgd : o.guard = none) (s x : Operand) (t : TypeId)
    (ho : o.op = .call { callee := .builtin .append, args := #[s, x], argTypes := #[t, t] }) (v u : Value) (hs : a.eval s = v) (hx : a.eval x = u) {v' : Value} {w' : World}
    (hr : (Builtin.append_ #[t, t] o.type #[v, u]).run Try.prog w = .ok v' w') (h : K (a.put o.dst v') w') :
    if Region.wanted o (yielded ops a.tmps) = true then Oper.wp Try.prog o a w K Q else E := by
  have hw : Region.wanted o (yielded ops a.tmps) = true := by simp [Region.wanted, hgd]
  rw [if_pos hw]
  unfold Oper.wp execOp
  simp only [ho, resolve, invoke, builtin, Sem.run_bind, Sem.run_pure, Result.andThen_ok, List.map_toArray, List.map_cons, List.map_nil, hs, hx, hr]
  exact h
/-- Cells of a row of items. -/
def flatI : List (Int × ByteArray) → List Value
  | [] => []
  | x :: r => .string x.2 :: .int .i64 x.1 :: flatI r
set_option maxRecDepth 100000 in
theorem flatI_app (l r : List (Int × ByteArray)) : flatI (l ++ r) = flatI l ++ flatI r := by
  induction l with
  | nil => rfl
  | cons y t ih => simp only [List.cons_append, flatI, ih]
set_option maxRecDepth 100000 in
theorem flatI_len (l : List (Int × ByteArray)) : (flatI l).length = l.length * 2 := by
  induction l with
  | nil => rfl
  | cons y r ih => simp only [flatI, List.length_cons, ih]; omega
set_option maxRecDepth 100000 in
theorem flatI_get : ∀ (l : List (Int × ByteArray)) (j : Nat) (hj : j < l.length), (flatI l)[j * 2]? = some (.string l[j].2) ∧ (flatI l)[j * 2 + 1]? = some (.int .i64 l[j].1)
  | x :: r, 0, _ => ⟨rfl, rfl⟩
  | x :: r, j + 1, hj => by
    have := flatI_get r j (by simpa using hj)
    rw [show (j + 1) * 2 = j * 2 + 2 by omega]
    exact this
/-- The cells from an address on show these items. -/
def LRow (W : World) (p : Option Addr) (l : List (Int × ByteArray)) : Prop := l ≠ [] → ∃ b off, p = some ⟨b, off, none⟩ ∧ ∀ (j : Nat) (hj : j < l.length), W.cell? ⟨b, off + j * 2, none⟩ = some (.string l[j].2) ∧ W.cell? ⟨b, off + j * 2 + 1, none⟩ = some (.int .i64 l[j].1)
set_option maxRecDepth 100000 in
theorem LRow.below {W W' : World} {p : Option Addr} {l : List (Int × ByteArray)} (h : LRow W p l) (hb : Below W.heap.size W W') : LRow W' p l := fun hz => by
  obtain ⟨b, off, rfl, hc⟩ := h hz
  refine ⟨b, off, rfl, fun j hj => ?_⟩
  obtain ⟨c0, c1⟩ := hc j hj
  exact ⟨(hb.cell (p := ⟨b, off + j * 2, none⟩) (World.block_lt_of_cell? _ _ c0)).trans c0, (hb.cell (p := ⟨b, off + j * 2 + 1, none⟩) (World.block_lt_of_cell? _ _ c1)).trans c1⟩
set_option maxRecDepth 100000 in
theorem LRow.news {W : World} {p : Option Addr} {l : List (Int × ByteArray)} (h : LRow W p l) : ∀ ad, p = some ad → ∀ j u, (flatI l)[j]? = some u → W.cell? (ad.add j) = some u := by
  intro ad had j u hu
  have hj : j < l.length * 2 := by have := (List.getElem?_eq_some_iff.1 hu).1; rwa [flatI_len] at this
  obtain ⟨b, off, e, hc⟩ := h (by intro e; rw [e] at hj; simp at hj)
  rw [e] at had
  obtain rfl := Option.some.inj had
  rw [Addr.add_lit]
  obtain ⟨i, k, hi, hk, rfl⟩ : ∃ i k, i < l.length ∧ k < 2 ∧ j = i * 2 + k := ⟨j / 2, j % 2, by omega, by omega, by omega⟩
  obtain ⟨y0, y1⟩ := flatI_get l i hi
  obtain ⟨c0, c1⟩ := hc i hi
  match k, hk with
  | 0, _ => rw [Nat.add_zero] at hu ⊢; rw [c0, ← y0, hu]
  | 1, _ => rw [← Nat.add_assoc, c1, ← y1, hu]
/-- Where a cut of a slice of items lies. -/
def cutI (a : Option Addr) (cap i : Nat) : Option Addr := if cap = i then a else a.map (·.add (i * 2))
set_option maxRecDepth 100000 in
theorem cutI_row {l : List (Int × ByteArray)} {a : Option Addr} {cap : Nat} (i k : Nat) (hc : l.length ≤ cap) (W : World) (h : LRow W a l) : LRow W (cutI a cap i) ((l.drop i).take k) := by
  intro hz
  have hz1 : l.drop i ≠ [] := by intro e; rw [e] at hz; simp at hz
  have hz2 : l ≠ [] := by intro e; rw [e] at hz1; simp at hz1
  have hi : i < l.length := by
    by_cases h : i < l.length
    · exact h
    · exact absurd (List.drop_eq_nil_of_le (by omega)) hz1
  unfold cutI
  rw [if_neg (by omega)]
  obtain ⟨b, off, rfl, hc'⟩ := h hz2
  refine ⟨b, off + i * 2, by simp [Addr.add_lit], fun j hj => ?_⟩
  have hj1 : j < k ∧ i + j < l.length := by simp at hj; omega
  obtain ⟨c0, c1⟩ := hc' (i + j) hj1.2
  have e : ((l.drop i).take k)[j] = l[i + j] := by simp
  rw [e, Nat.add_assoc off, show i * 2 + j * 2 = (i + j) * 2 by omega]
  exact ⟨c0, c1⟩
set_option maxRecDepth 100000 in
theorem cutI_nil {a : Option Addr} {cap n : Nat} (i : Nat) (hnil : a = none → n = 0 ∧ cap = 0) (h : cutI a cap i = none) : n = 0 ∧ cap = 0 := by
  unfold cutI at h
  split at h
  · exact hnil h
  · exact hnil (by simpa using h)
set_option maxRecDepth 100000 in
theorem sizeI : ∀ W, (sizeOf (Try.prog.elem 26)).run Try.prog W = .ok 2 W := fun W => by
  have e : Try.prog.elem 26 = 36 := by kernel_rfl
  rw [e]; simp [go_sem]
set_option maxRecDepth 100000 in
theorem run_cutI_h (a : Option Addr) (n cap j : Nat) (y : Int) (hy : y = j) (hj : j ≤ cap) (W : World) :
    (Instr.slice 26 (.slice a n cap) none (some (.int .i64 y)) none).run Try.prog W = .ok (.slice (cutI a cap 0) j cap) W := by
  subst hy
  rw [run_slice_h W 26 a n cap Try.underlying26 .i64 (j : Int) (by omega) (by omega), sizeI]
  simp [Result.andThen, sliced, cutI]
set_option maxRecDepth 100000 in
theorem run_cutI_l (a : Option Addr) (n cap i : Nat) (x : Int) (hx : x = i) (hi : i ≤ n) (W : World) :
    (Instr.slice 26 (.slice a n cap) (some (.int .i64 x)) none none).run Try.prog W = .ok (.slice (cutI a cap i) (n - i) (cap - i)) W := by
  subst hx
  rw [run_slice_l W 26 a n cap Try.underlying26 .i64 (i : Int) (by omega) (by omega), sizeI]
  simp [Result.andThen, sliced, cutI]
set_option maxRecDepth 100000 in
theorem infoI : (Try.prog.info? 36).map (fun i => (i.zero, i.size, i.bytes)) = some (some (.agg #[.string ByteArray.empty, .int .i64 0]), 2, 24) := by kernel_rfl
set_option maxRecDepth 100000 in
theorem append_items {W : World} {X : Nat} {sv : Value} {q : List (Int × ByteArray)} (h : W.ownsRow X 36 2 sv q.length (flatI q)) {a : Option Addr} {r : List (Int × ByteArray)} {m c : Nat} (hr : LRow W a r) (hm : r.length = m) (hno : a = none → m = 0 ∧ c = 0) (hX : X ≤ W.heap.size) (hl : q.length + m ≤ 100000) (ty : TypeId) :
    ∃ sv' W', (Builtin.append_ #[26, 26] ty #[sv, .slice a m c]).run Try.prog W = .ok sv' W' ∧ W'.ownsRow X 36 2 sv' (q ++ r).length (flatI (q ++ r)) ∧ W.grownBy W' sv.ownBlock := by
  obtain ⟨i0, hi, hz0, hz1, hz2⟩ := info_parts infoI
  subst hm
  obtain ⟨v', w', h2, h3, h4, -⟩ := run_append_any W X 26 ty 36 i0 _ 2 24 Try.underlying26 hi hz0 hz1 hz2 rfl (by omega) sv q.length _ h a r.length c (flatI r) (flatI_len r) hno hr.news (fun u hu => by
    clear hr hno hl h hX
    induction r with
    | nil => cases hu
    | cons x t ih =>
      simp only [flatI, List.mem_cons] at hu
      rcases hu with rfl | rfl | hu
      · rfl
      · rfl
      · exact ih hu) (by unfold maxLen; omega) (by omega) hX
  exact ⟨v', w', h2, by rw [List.length_append, flatI_app]; exact h3, h4⟩
/-- A slice of items. -/
def IIn (W : World) (v : Value) (l : List (Int × ByteArray)) : Prop := ∃ p c, v = .slice p l.length c ∧ l.length ≤ c ∧ (p = none → l.length = 0 ∧ c = 0) ∧ LRow W p l
set_option maxRecDepth 100000 in
theorem IIn.below {W W' : World} {v : Value} {l : List (Int × ByteArray)} (h : IIn W v l) (hb : Below W.heap.size W W') : IIn W' v l := by
  obtain ⟨p, c, h1, h2, h3, h4⟩ := h
  exact ⟨p, c, h1, h2, h3, h4.below hb⟩
set_option maxRecDepth 100000 in
theorem own_iin {W : World} {X : Nat} {v : Value} {l : List (Int × ByteArray)} (h : W.ownsRow X 36 2 v l.length (flatI l)) : IIn W v l := by
  rcases h.2 with ⟨rfl, h0⟩ | ⟨g, cap, cur, rfl, hg, hb, h1, h2, h3, h4⟩
  · exact ⟨none, 0, by rw [h0], by omega, fun _ => ⟨h0, rfl⟩, fun hz => absurd (List.eq_nil_of_length_eq_zero h0) hz⟩
  · refine ⟨some ⟨g, 0, none⟩, cap, rfl, h1, (fun e => by cases e), fun hz => ⟨g, 0, rfl, fun j hj => ?_⟩⟩
    obtain ⟨y0, y1⟩ := flatI_get l j hj
    have hl := flatI_len l
    have c0 := h.cellAt (j * 2) (by omega)
    have c1 := h.cellAt (j * 2 + 1) (by omega)
    rw [Nat.zero_add]
    exact ⟨c0.trans y0, c1.trans y1⟩
/-- A name's place. -/
def idxA (s : ByteArray) : List (Int × ByteArray) → Nat
  | [] => 0
  | x :: r => if x.2 = s then 0 else idxA s r + 1
def findI (l : List (Int × ByteArray)) (s : ByteArray) : Int := if hasA l s = true then (idxA s l : Int) else -1
set_option maxRecDepth 100000 in
theorem idx_at : ∀ (l : List (Int × ByteArray)) (s : ByteArray), hasA l s = true → ∃ h : idxA s l < l.length, l[idxA s l].2 = s
  | [], s, h => by simp [hasA] at h
  | x :: r, s, h => by
    by_cases e : x.2 = s
    · exact ⟨by simp [idxA, e], by simp [idxA, e]⟩
    · have h' : hasA r s = true := by simpa [hasA, e] using h
      obtain ⟨h1, h2⟩ := idx_at r s h'
      exact ⟨by simp [idxA, e]; omega, by simpa [idxA, e] using h2⟩
set_option maxRecDepth 100000 in
theorem idx_before : ∀ (l : List (Int × ByteArray)) (s : ByteArray) (j : Nat) (hj : j < l.length), j < (if hasA l s = true then idxA s l else l.length) → l[j].2 ≠ s
  | x :: r, s, 0, _, h => by
    intro e
    have e : x.2 = s := e
    simp [idxA, hasA, e] at h
  | x :: r, s, j + 1, hj, h => by
    by_cases e : x.2 = s
    · simp [idxA, hasA, e] at h
    · have hh : hasA (x :: r) s = hasA r s := by simp [hasA, e]
      have := idx_before r s j (by simpa using hj) (by rw [hh] at h; split at h <;> split <;> simp_all [idxA] <;> omega)
      simpa using this
end Go.Proofs.Ytjgonfaniincbaa
