/- Frames joined to frames; what Feed leaves of them. Conditions: fewer than 1,000,000 frames. -/
import Derived.Test.YtkcnpdcgonengaaFeed
import Derived.Test.YtkcnpdcgonengaaFrameB
namespace Go.Proofs.Ytkcnpdcgonengaa
open Go.RowKit

set_option maxRecDepth 100000 in
theorem own_of_block {w w' : World} {base n size : Nat} {e : TypeId} {v : Value} {xs : List Value} (h : w.ownsRow base e size v n xs) (hb : ∀ g, v.ownBlock = some g → w'.heap[g]? = w.heap[g]?) : w'.ownsRow base e size v n xs := by
  refine ⟨h.1, ?_⟩
  rcases h.2 with h0 | ⟨g, cap, cur, hv, hg, hgg, r⟩
  · exact Or.inl h0
  · exact Or.inr ⟨g, cap, cur, hv, hg, (hb g (by rw [hv]; rfl)).trans hgg, r⟩
set_option maxRecDepth 100000 in
/-- A row of slices is no row of bytes. -/
theorem rows_ne {w : World} {b1 b2 n1 n2 : Nat} {v u : Value} {xs ys : List Value} (h : w.ownsRow b1 29 1 v n1 xs) (k : w.ownsRow b2 5 1 u n2 ys) : v.ownBlock = none ∨ v.ownBlock ≠ u.ownBlock := by
  rcases k.2 with ⟨rfl, _⟩ | ⟨g, cap, cur, rfl, _, hg, _⟩
  · cases hv : v.ownBlock with
    | none => exact Or.inl rfl
    | some k => exact Or.inr (by simp [Value.ownBlock])
  · exact Or.inr (fun e => Tag8.ne_row ⟨cur, hg⟩ h e.symm)
set_option maxRecDepth 100000 in
theorem BTag.fed {w w' : World} {base : Nat} {v : Value} {ps : List (List Int × Option Addr × Nat)} {A : Nat} {r : Option Nat} (h : BTag w base v ps) (hF : Fed w w' A r) (hA : A < base) (h1 : v.ownBlock = none ∨ v.ownBlock ≠ r)
    (h2 : ∀ p ∈ ps, ∀ x, p.2.1 = some x → some x.block ≠ r) : BTag w' base v ps := by
  refine ⟨own_of_block h.own (fun g hg => ?_), fun p hp => ?_, fun p hp x hx => ?_⟩
  · have := h.own.lt g hg
    refine hF.block g this.2 (by omega) (fun e => ?_)
    rcases h1 with h1 | h1
    · rw [h1] at hg; cases hg
    · exact h1 (hg.trans e)
  · refine ⟨(h.sh p hp).1.fed hF (fun _ x hx => ⟨?_, h2 p hp x hx⟩), (h.sh p hp).2⟩
    have := (h.tg p hp x hx).1
    omega
  · obtain ⟨hb, cur, hc⟩ := h.tg p hp x hx
    refine ⟨hb, cur, (hF.block x.block (Array.getElem?_eq_some_iff.1 hc).1 (by omega) (h2 p hp x hx)).trans hc⟩
set_option maxRecDepth 100000 in
theorem BTag.lt {w : World} {base : Nat} {v : Value} {ps : List (List Int × Option Addr × Nat)} (h : BTag w base v ps) : ∀ p ∈ ps, ∀ x, p.2.1 = some x → x.block < w.heap.size := fun p hp x hx => by
  obtain ⟨cur, hc⟩ := (h.tg p hp x hx).2
  exact (Array.getElem?_eq_some_iff.1 hc).1
set_option maxRecDepth 100000 in
theorem BTag.join {w w' : World} {base bq : Nat} {v u v' : Value} {ps qs : List (List Int × Option Addr × Nat)} (h : BTag w base v ps) (k : BTag w bq u qs) (hb : base ≤ bq)
    (hown : w'.ownsRow base 29 1 v' (ps.length + qs.length) (ps.map bc ++ qs.map bc)) (hg : w.grownBy w' v.ownBlock) : BTag w' base v' (ps ++ qs) := by
  refine ⟨by rw [List.length_append, List.map_append]; exact hown, ?_, ?_⟩
  · intro q hq
    rcases List.mem_append.1 hq with hq | hq
    · exact (h.sh q hq).grown hg (fun x hx => (h.tg q hq x hx).2.ne_row h.own)
    · exact (k.sh q hq).grown hg (fun x hx => (k.tg q hq x hx).2.ne_row h.own)
  · intro q hq x hx
    rcases List.mem_append.1 hq with hq | hq
    · exact ⟨(h.tg q hq x hx).1, (h.tg q hq x hx).2.kept hg ((h.tg q hq x hx).2.ne_row h.own)⟩
    · exact ⟨Nat.le_trans hb (k.tg q hq x hx).1, (k.tg q hq x hx).2.kept hg ((k.tg q hq x hx).2.ne_row h.own)⟩
set_option maxRecDepth 100000 in
theorem below_fed {B A : Nat} {w W W' : World} {r : Option Nat} (h : Below B w W) (hF : Fed W W' A r) (hA : B ≤ A) (hr : ∀ k, r = some k → B ≤ k) (hs : B ≤ W.heap.size) : Below B w W' :=
  h.trans ⟨hF.os, hF.tape, hF.output, hF.size, fun k hk => hF.block k (by omega) (by omega) (fun e => by have := hr k e.symm; omega)⟩
set_option maxRecDepth 100000 in
/-- out = append(out, x...). -/
theorem wpList_append_frames {w : World} {ops : Array Oper} {rest : List Oper} {o : Oper} {a : Act} {Q : Exit → Act → World → Prop} (hgd : o.guard = none) (s x : Operand)
    (ho : o.op = .call { callee := .builtin .append, args := #[s, x], argTypes := #[32, 32] }) (base bq : Nat) (v : Value) (ps qs : List (List Int × Option Addr × Nat)) (hs : a.eval s = v) (hbt : BTag w base v ps)
    (la : Option Addr) (lc : Nat) (hx : a.eval x = .slice la qs.length lc) (hq : BTag w bq (.slice la qs.length lc) qs) (hbb : base ≤ bq) (hb : ps.length + qs.length ≤ 1000000) (hbase : base ≤ w.heap.size)
    (h : ∀ v' w', BTag w' base v' (ps ++ qs) → w.grownBy w' v.ownBlock → wpList Try.prog ops Q rest (a.put o.dst v') w') : wpList Try.prog ops Q (o :: rest) a w := by
  obtain ⟨i0, hi, hz0, hz1, hz2⟩ := info_parts infoB
  rcases hq.own.2 with ⟨hv, h0⟩ | ⟨g, cap, cur, hv, hg, hgg, r⟩
  · have hqs : qs = [] := List.eq_nil_of_length_eq_zero h0
    subst hqs
    simp only [Value.slice.injEq] at hv
    obtain ⟨rfl, -, rfl⟩ := hv
    refine wpList_append_own_none hgd s x 32 ho base 29 i0 1 Try.underlying32 hi v ps.length _ hs hbt.own hx (h v w ?_ (World.grownBy.refl _ _))
    rw [List.append_nil]; exact hbt
  · have hq' := hq
    simp only [Value.slice.injEq] at hv
    obtain ⟨rfl, -, rfl⟩ := hv
    refine wpList_append_own_at w hgd s x 32 ho base 29 i0 (.slice none 0 0) 1 24 Try.underlying32 hi hz0 hz1 hz2 rfl (by decide) v ps.length _ hs hbt.own ⟨g, 0, none⟩ qs.length lc (qs.map bc) hx (by simp) (hq'.own.cells rfl) ?_ (by unfold maxLen; omega) (by omega) hbase (fun v' w' h1 h2 _ _ => h v' w' (hbt.join hq hbb h1 h2) h2)
    intro u hu
    obtain ⟨p, -, rfl⟩ := List.mem_map.1 hu
    rfl
set_option maxRecDepth 100000 in
/-- The frames have no more bytes than there are. -/
theorem frst_len (L : Int) (zs : List Int) (hz : Byt zs) (h : (frst L zs).2.2 = 0) : ((frst L zs).1.length : Int) ≤ (frst L zs).2.1 := by
  rcases frst_ways L zs with ⟨h', e⟩ | ⟨_, _, e⟩ | ⟨_, _, _, e⟩ | ⟨h0, h1, h2, e⟩ <;> rw [e] at h ⊢
  · exact absurd h h'
  · simp at h
  · simp at h
  · obtain ⟨a, b, c, d, _⟩ := rd_size zs hz h0
    have hl : ((zs.drop (rd zs).2.1.toNat).take (rd zs).1.toNat).length ≤ (rd zs).1.toNat := List.length_take_le _ _
    simp only
    omega
set_option maxRecDepth 100000 in
theorem lens_cutF : ∀ (f : Nat) (L : Int) (zs : List Int), Byt zs → lens (cutF f L zs).1 ≤ (cutF f L zs).2.1
  | 0, L, zs, _ => by simp [cutF, lens]
  | f + 1, L, zs, hz => by
    by_cases h : zs = []
    · subst h; simp [cutF, lens]
    · by_cases h1 : (frst L zs).2.2 = 0
      · have h2 := frst_len L zs hz h1
        have h3 := lens_cutF f L _ (hz.drop (frst L zs).2.1.toNat)
        rw [cutF_yes _ _ _ h h1]
        simp only [lens, List.map_cons, List.sum_cons] at h3 ⊢
        omega
      · rw [cutF_no _ _ _ h h1]; simp [lens]
set_option maxRecDepth 100000 in
theorem lens_cut (L : Int) (zs : List Int) (hz : Byt zs) : lens (cut L zs).1 ≤ zs.length := Nat.le_trans (lens_cutF _ L zs hz) (cut_ok L zs hz).1
end Go.Proofs.Ytkcnpdcgonengaa
