/- A Map's new key, as the document's With lays it: the values and one more, the keys and one more, each a slice of the call's own. Conditions: as each says. -/
import Derived.Test.YtigdcnoggjcddaaVRWithA
import Derived.Test.YtigdcnoggjcddaaVRWithB
namespace Go.Proofs.Ytigdcnoggjcddaa
open Go.RowKit Go.Maps Go.WideMaps

set_option maxRecDepth 100000 in
theorem VL2.mono {W : World} {ok ok' : Nat → Prop} {X : Nat} {sv : Value} {l : List V} (h : VL2 W ok X sv l) (hm : ∀ b, ok b → ok' b) : VL2 W ok' X sv l := by
  obtain ⟨ps, h1, h2, h3⟩ := h
  exact ⟨ps, h1, h2, fun p hp => (h3 p hp).mono (fun b hb _ => ⟨hm b hb.1, hb.2⟩)⟩
set_option maxRecDepth 100000 in
/-- A row of one text. -/
theorem one_srowk {W : World} {b : Nat} {key : ByteArray} {T : TypeId} {fr : Nat × Nat} (hk : key.size ≤ maxLen) (h : W.heap[b]? = some (.cells #[.string key] T fr)) : SRow W (fun _ => True) (some ⟨b, 0, none⟩) [key] :=
  ⟨fun x hx => by simp at hx; subst hx; exact hk, fun _ => ⟨b, 0, rfl, trivial, fun j hj => by
    have hj0 : j = 0 := by simp at hj; omega
    subst hj0
    rw [cell_of_row _ _ _ _ _ _ h]; simp⟩⟩
/-- Which blocks what is laid may lead to. -/
def okN (ok : Nat → Prop) (n : Nat) (f : Bool) (c : Nat) (b : Nat) : Prop := (ok b ∧ b < n) ∨ (f = true ∧ b = c)
/-- What is laid so far: the values' slice (sv, once f0), the new value (block b5, once f5), the keys' slice (sq, once f7), the new key (block b15, once f15); what they are made of; none lies in another one's block. -/
structure NK (W0 : World) (ok : Nat → Prop) (n : Nat) (la ka : Option Addr) (L0 : List V) (Q0 : List ByteArray) (x : V) (xp : VP) (key : ByteArray) (f0 f5 f7 f15 : Bool) (l : List V) (q : List ByteArray) (W : World) (sv : Value) (b5 : Nat) (sq : Value) (b15 : Nat) : Prop where
  hn : n ≤ W0.heap.size
  hb : Below W0.heap.size W0 W
  hks : key.size ≤ maxLen
  vrow : VRow W (fun b => ok b ∧ b < n) la L0
  srow : SRow W (fun b => ok b ∧ b < n) ka Q0
  xin : VIn W (fun b => ok b ∧ b < n) x xp
  v : f0 = true → VL2 W (okN ok n f5 b5) W0.heap.size sv l
  five : f5 = true → W0.heap.size ≤ b5 ∧ W.heap[b5]? = some (.cells #[.int .i64 x.k, .bool x.b, .int .i64 x.n, .int .i64 x.m, .string x.s, .slice xp.la x.l.length xp.lc, .slice xp.ka x.keys.length xp.kc] 25)
  qs : f7 = true → SOwn W W0.heap.size sq q
  fif : f15 = true → W0.heap.size ≤ b15 ∧ W.heap[b15]? = some (.cells #[.string key] 9)
  d05 : f0 = true → f5 = true → sv.ownBlock ≠ some b5
  d07 : f0 = true → f7 = true → ∀ k, sv.ownBlock = some k → sq.ownBlock ≠ some k
  d015 : f0 = true → f15 = true → sv.ownBlock ≠ some b15
  d57 : f5 = true → f7 = true → sq.ownBlock ≠ some b5
  d715 : f7 = true → f15 = true → sq.ownBlock ≠ some b15
section
variable {W0 : World} {ok : Nat → Prop} {n : Nat} {la ka : Option Addr} {L0 : List V} {Q0 : List ByteArray} {x : V} {xp : VP} {key : ByteArray} {f0 f5 f7 f15 : Bool} {l : List V} {q : List ByteArray} {W : World} {sv : Value} {b5 : Nat} {sq : Value} {b15 : Nat}
set_option maxRecDepth 100000 in
theorem NK.size (h : NK W0 ok n la ka L0 Q0 x xp key f0 f5 f7 f15 l q W sv b5 sq b15) : W0.heap.size ≤ W.heap.size := h.hb.size
set_option maxRecDepth 100000 in
theorem NK.lt5 (h : NK W0 ok n la ka L0 Q0 x xp key f0 f5 f7 f15 l q W sv b5 sq b15) (e : f5 = true) : b5 < W.heap.size := (Array.getElem?_eq_some_iff.1 (h.five e).2).1
set_option maxRecDepth 100000 in
theorem NK.lt15 (h : NK W0 ok n la ka L0 Q0 x xp key f0 f5 f7 f15 l q W sv b5 sq b15) (e : f15 = true) : b15 < W.heap.size := (Array.getElem?_eq_some_iff.1 (h.fif e).2).1
set_option maxRecDepth 100000 in
theorem NK.ltv (h : NK W0 ok n la ka L0 Q0 x xp key f0 f5 f7 f15 l q W sv b5 sq b15) (e : f0 = true) : ∀ k, sv.ownBlock = some k → W0.heap.size ≤ k ∧ k < W.heap.size := (h.v e).own
set_option maxRecDepth 100000 in
theorem NK.ltq (h : NK W0 ok n la ka L0 Q0 x xp key f0 f5 f7 f15 l q W sv b5 sq b15) (e : f7 = true) : ∀ k, sq.ownBlock = some k → W0.heap.size ≤ k ∧ k < W.heap.size := (h.qs e).own
set_option maxRecDepth 100000 in
theorem NK.a0 (h : NK W0 ok n la ka L0 Q0 x xp key false f5 f7 f15 l q W sv b5 sq b15) : NK W0 ok n la ka L0 Q0 x xp key true f5 f7 f15 [] q (W.alloc (.cells #[] 25)) (.slice (some ⟨W.heap.size, 0, none⟩) 0 0) b5 sq b15 := by
  have hB : Below W.heap.size W (W.alloc (.cells #[] 25)) := (Below.refl _ _).alloc (Nat.le_refl _) _
  exact ⟨h.hn, h.hb.trans (hB.mono h.size), h.hks, h.vrow.below hB, h.srow.below hB, h.xin.stays hB,
    fun _ => VL2.none _ _ _ _ h.size _ (0, 0) rfl (heap_alloc_new _ _) rfl,
    fun e => ⟨(h.five e).1, (hB.block _ (h.lt5 e)).trans (h.five e).2⟩, fun e => (h.qs e).below hB, fun e => ⟨(h.fif e).1, (hB.block _ (h.lt15 e)).trans (h.fif e).2⟩,
    fun _ e e2 => by have := h.lt5 e; simp [Value.ownBlock] at e2; omega,
    fun _ e k hk e2 => by have := (h.ltq e k e2).2; simp [Value.ownBlock] at hk; omega,
    fun _ e e2 => by have := h.lt15 e; simp [Value.ownBlock] at e2; omega, h.d57, h.d715⟩
set_option maxRecDepth 100000 in
theorem NK.a5 (h : NK W0 ok n la ka L0 Q0 x xp key f0 false f7 f15 l q W sv b5 sq b15) : NK W0 ok n la ka L0 Q0 x xp key f0 true f7 f15 l q (W.alloc (.cells #[.int .i64 x.k, .bool x.b, .int .i64 x.n, .int .i64 x.m, .string x.s, .slice xp.la x.l.length xp.lc, .slice xp.ka x.keys.length xp.kc] 25)) sv W.heap.size sq b15 := by
  generalize hO : (Obj.cells #[.int .i64 x.k, .bool x.b, .int .i64 x.n, .int .i64 x.m, .string x.s, .slice xp.la x.l.length xp.lc, .slice xp.ka x.keys.length xp.kc] 25) = O
  have hB : Below W.heap.size W (W.alloc O) := (Below.refl _ _).alloc (Nat.le_refl _) _
  exact ⟨h.hn, h.hb.trans (hB.mono h.size), h.hks, h.vrow.below hB, h.srow.below hB, h.xin.stays hB,
    fun e => ((h.v e).mono (fun b hb => by rcases hb with hb | hb; exact Or.inl hb; exact absurd hb.1 (by simp))).below hB,
    fun _ => ⟨h.size, by rw [hO]; exact heap_alloc_new _ _⟩, fun e => (h.qs e).below hB, fun e => ⟨(h.fif e).1, (hB.block _ (h.lt15 e)).trans (h.fif e).2⟩,
    fun e _ e2 => by have := (h.ltv e _ e2).2; omega, h.d07, h.d015, fun _ e e2 => by have := (h.ltq e _ e2).2; omega, h.d715⟩
set_option maxRecDepth 100000 in
theorem NK.a7 (h : NK W0 ok n la ka L0 Q0 x xp key f0 f5 false f15 l q W sv b5 sq b15) : NK W0 ok n la ka L0 Q0 x xp key f0 f5 true f15 l [] (W.alloc (.cells #[] 9)) sv b5 (.slice (some ⟨W.heap.size, 0, none⟩) 0 0) b15 := by
  have hB : Below W.heap.size W (W.alloc (.cells #[] 9)) := (Below.refl _ _).alloc (Nat.le_refl _) _
  exact ⟨h.hn, h.hb.trans (hB.mono h.size), h.hks, h.vrow.below hB, h.srow.below hB, h.xin.stays hB, fun e => (h.v e).below hB,
    fun e => ⟨(h.five e).1, (hB.block _ (h.lt5 e)).trans (h.five e).2⟩, fun _ => SOwn.none _ _ _ h.size (heap_alloc_new _ _), fun e => ⟨(h.fif e).1, (hB.block _ (h.lt15 e)).trans (h.fif e).2⟩,
    h.d05, fun e _ k hk e2 => by have := (h.ltv e k hk).2; simp [Value.ownBlock] at e2; omega, h.d015,
    fun e _ e2 => by have := h.lt5 e; simp [Value.ownBlock] at e2; omega, fun _ e e2 => by have := h.lt15 e; simp [Value.ownBlock] at e2; omega⟩
set_option maxRecDepth 100000 in
theorem NK.a15 (h : NK W0 ok n la ka L0 Q0 x xp key f0 f5 f7 false l q W sv b5 sq b15) : NK W0 ok n la ka L0 Q0 x xp key f0 f5 f7 true l q (W.alloc (.cells #[.string key] 9)) sv b5 sq W.heap.size := by
  have hB : Below W.heap.size W (W.alloc (.cells #[.string key] 9)) := (Below.refl _ _).alloc (Nat.le_refl _) _
  exact ⟨h.hn, h.hb.trans (hB.mono h.size), h.hks, h.vrow.below hB, h.srow.below hB, h.xin.stays hB, fun e => (h.v e).below hB,
    fun e => ⟨(h.five e).1, (hB.block _ (h.lt5 e)).trans (h.five e).2⟩, fun e => (h.qs e).below hB, fun _ => ⟨h.size, heap_alloc_new _ _⟩,
    h.d05, h.d07, fun e _ e2 => by have := (h.ltv e _ e2).2; omega, h.d57, fun e _ e2 => by have := (h.ltq e _ e2).2; omega⟩
set_option maxRecDepth 100000 in
/-- The values' slice has been appended to. -/
theorem NK.growv (h : NK W0 ok n la ka L0 Q0 x xp key true f5 f7 f15 l q W sv b5 sq b15) {W' : World} {sv' : Value} {l' : List V} (hv : VL2 W' (okN ok n f5 b5) W0.heap.size sv' l') (hg : W.grownBy W' sv.ownBlock) (ha : sv'.ownBlock = sv.ownBlock ∨ sv'.ownBlock = some W.heap.size) :
    NK W0 ok n la ka L0 Q0 x xp key true f5 f7 f15 l' q W' sv' b5 sq b15 ∧ Below W0.heap.size W W' := by
  have hB : Below W0.heap.size W W' := (Below.refl _ _).grown hg h.size (fun k hk => (h.ltv rfl k hk).1)
  have hag : Agree (fun b => ok b ∧ b < n) W W' := fun b hb _ => hB.block b (by have := h.hn; omega)
  refine ⟨⟨h.hn, h.hb.trans hB, h.hks, h.vrow.agree hag, h.srow.agree hag, h.xin.agree hag, fun _ => hv,
    fun e => ⟨(h.five e).1, (hg.block _ (h.lt5 e) (fun e2 => h.d05 rfl e e2.symm)).trans (h.five e).2⟩,
    fun e => (h.qs e).grown hg (fun k hk => h.d07 rfl e k hk), fun e => ⟨(h.fif e).1, (hg.block _ (h.lt15 e) (fun e2 => h.d015 rfl e e2.symm)).trans (h.fif e).2⟩,
    fun _ e e2 => ?_, fun _ e k hk e2 => ?_, fun _ e e2 => ?_, h.d57, h.d715⟩, hB⟩
  · rcases ha with ha | ha
    · exact h.d05 rfl e (ha ▸ e2)
    · have := h.lt5 e; rw [ha] at e2; injection e2 with e2; omega
  · rcases ha with ha | ha
    · exact h.d07 rfl e k (ha ▸ hk) e2
    · have := (h.ltq e k e2).2; rw [ha] at hk; injection hk with hk; omega
  · rcases ha with ha | ha
    · exact h.d015 rfl e (ha ▸ e2)
    · have := h.lt15 e; rw [ha] at e2; injection e2 with e2; omega
set_option maxRecDepth 100000 in
/-- The keys' slice has been appended to. -/
theorem NK.growq (h : NK W0 ok n la ka L0 Q0 x xp key f0 f5 true f15 l q W sv b5 sq b15) {W' : World} {sq' : Value} {q' : List ByteArray} (hq : SOwn W' W0.heap.size sq' q') (hg : W.grownBy W' sq.ownBlock) (ha : sq'.ownBlock = sq.ownBlock ∨ sq'.ownBlock = some W.heap.size) :
    NK W0 ok n la ka L0 Q0 x xp key f0 f5 true f15 l q' W' sv b5 sq' b15 ∧ Below W0.heap.size W W' := by
  have hB : Below W0.heap.size W W' := (Below.refl _ _).grown hg h.size (fun k hk => (h.ltq rfl k hk).1)
  have hag : Agree (fun b => ok b ∧ b < n) W W' := fun b hb _ => hB.block b (by have := h.hn; omega)
  refine ⟨⟨h.hn, h.hb.trans hB, h.hks, h.vrow.agree hag, h.srow.agree hag, h.xin.agree hag,
    fun e => (h.v e).grown hg (fun k hk => ⟨fun e2 => h.d07 e rfl k e2 hk, fun hN => ?_⟩),
    fun e => ⟨(h.five e).1, (hg.block _ (h.lt5 e) (fun e2 => h.d57 e rfl e2.symm)).trans (h.five e).2⟩,
    fun _ => hq, fun e => ⟨(h.fif e).1, (hg.block _ (h.lt15 e) (fun e2 => h.d715 rfl e e2.symm)).trans (h.fif e).2⟩,
    h.d05, fun e _ k hk e2 => ?_, h.d015, fun e _ e2 => ?_, fun _ e e2 => ?_⟩, hB⟩
  · rcases hN with ⟨-, hN⟩ | ⟨hf, hN⟩
    · have := (h.ltq rfl k hk).1; have := h.hn; omega
    · subst hN; exact h.d57 hf rfl hk
  · rcases ha with ha | ha
    · exact h.d07 e rfl k hk (ha ▸ e2)
    · have := (h.ltv e k hk).2; rw [ha] at e2; injection e2 with e2; omega
  · rcases ha with ha | ha
    · exact h.d57 e rfl (ha ▸ e2)
    · have := h.lt5 e; rw [ha] at e2; injection e2 with e2; omega
  · rcases ha with ha | ha
    · exact h.d715 rfl e (ha ▸ e2)
    · have := h.lt15 e; rw [ha] at e2; injection e2 with e2; omega
set_option maxRecDepth 100000 in
theorem NK.p3 (h : NK W0 ok n la ka L0 Q0 x xp key true f5 f7 f15 [] q W sv b5 sq b15) {c : Nat} (hno : la = none → L0.length = 0 ∧ c = 0) (hl : L0.length ≤ 1048576) (ty : TypeId) :
    ∃ sv' W', (Builtin.append_ #[22, 22] ty #[sv, .slice la L0.length c]).run Try.prog W = .ok sv' W' ∧ NK W0 ok n la ka L0 Q0 x xp key true f5 f7 f15 L0 q W' sv' b5 sq b15 ∧ Below W0.heap.size W W' := by
  have hr : VRow W (fun b => okN ok n f5 b5 b ∧ sv.ownBlock ≠ some b) la L0 := h.vrow.mono (fun b hb _ => ⟨Or.inl hb, fun e => by have := (h.ltv rfl b e).1; have := h.hn; omega⟩)
  obtain ⟨sv', W', h1, h2, h3, h4⟩ := append_vals (h.v rfl) hr rfl hno h.size (by simp; omega) ty
  rw [List.nil_append] at h2
  exact ⟨sv', W', h1, h.growv h2 h3 h4⟩
set_option maxRecDepth 100000 in
theorem NK.p6 (h : NK W0 ok n la ka L0 Q0 x xp key true true f7 f15 l q W sv b5 sq b15) (hl : l.length ≤ 1048576) (ty : TypeId) :
    ∃ sv' W', (Builtin.append_ #[22, 22] ty #[sv, .slice (some ⟨b5, 0, none⟩) 1 1]).run Try.prog W = .ok sv' W' ∧ NK W0 ok n la ka L0 Q0 x xp key true true f7 f15 (l ++ [x]) q W' sv' b5 sq b15 ∧ Below W0.heap.size W W' := by
  have hx : VIn W (fun b => okN ok n true b5 b ∧ sv.ownBlock ≠ some b) x xp := h.xin.mono (fun b hb _ => ⟨Or.inl hb, fun e => by have := (h.ltv rfl b e).1; have := h.hn; omega⟩)
  obtain ⟨sv', W', h1, h2, h3, h4⟩ := append_vals (h.v rfl) (one_vrow (h.five rfl).2 ⟨Or.inr ⟨rfl, rfl⟩, h.d05 rfl rfl⟩ hx) rfl (by intro e; cases e) h.size (by simp; omega) ty
  exact ⟨sv', W', h1, h.growv h2 h3 h4⟩
set_option maxRecDepth 100000 in
theorem NK.p10 (h : NK W0 ok n la ka L0 Q0 x xp key f0 f5 true f15 l [] W sv b5 sq b15) {c : Nat} (hno : ka = none → Q0.length = 0 ∧ c = 0) (hl : Q0.length ≤ 1048576) (ty : TypeId) :
    ∃ sq' W', (Builtin.append_ #[23, 23] ty #[sq, .slice ka Q0.length c]).run Try.prog W = .ok sq' W' ∧ NK W0 ok n la ka L0 Q0 x xp key f0 f5 true f15 l Q0 W' sv b5 sq' b15 ∧ Below W0.heap.size W W' := by
  obtain ⟨sq', W', h1, h2, h3, h4⟩ := append_texts (h.qs rfl) h.srow rfl hno h.size (by simp; omega) ty
  rw [List.nil_append] at h2
  exact ⟨sq', W', h1, h.growq h2 h3 h4⟩
set_option maxRecDepth 100000 in
theorem NK.p16 (h : NK W0 ok n la ka L0 Q0 x xp key f0 f5 true true l q W sv b5 sq b15) (hl : q.length ≤ 1048576) (ty : TypeId) :
    ∃ sq' W', (Builtin.append_ #[23, 23] ty #[sq, .slice (some ⟨b15, 0, none⟩) 1 1]).run Try.prog W = .ok sq' W' ∧ NK W0 ok n la ka L0 Q0 x xp key f0 f5 true true l (q ++ [key]) W' sv b5 sq' b15 ∧ Below W0.heap.size W W' := by
  obtain ⟨sq', W', h1, h2, h3, h4⟩ := append_texts (h.qs rfl) (one_srowk h.hks (h.fif rfl).2) rfl (by intro e; cases e) h.size (by simp; omega) ty
  exact ⟨sq', W', h1, h.growq h2 h3 h4⟩
set_option maxRecDepth 100000 in
/-- All is laid: the Map that is to be cleaned. -/
theorem NK.fin (h : NK W0 ok n la ka L0 Q0 x xp key true true true true l q W sv b5 sq b15) : ∃ a c a' c', sv = .slice a l.length c ∧ sq = .slice a' q.length c' ∧ VIn W (fun _ => True) (V.mk 7 false 0 0 ByteArray.empty l q) ⟨a, c, a', c'⟩ := by
  obtain ⟨a, c, e, hs, hr⟩ := vl2_row2 ((h.v rfl).mono (ok' := fun _ => True) (fun _ _ => trivial)) (fun _ _ => trivial)
  obtain ⟨a', c', e', hs', hr'⟩ := (h.qs rfl).row (ok := fun _ => True) (fun _ _ => trivial)
  obtain ⟨P, hc, hin⟩ := hr
  exact ⟨a, c, a', c', e, e', VIn.mk 7 false 0 0 ByteArray.empty l q ⟨a, c, a', c'⟩ P (by unfold I64; omega) (by unfold I64; omega) (by unfold I64; omega) (by decide) hs hs' hr' hc hin⟩
end
set_option maxRecDepth 100000 in
/-- One goal for several ways to a place: it is shown once. -/
theorem share {A : Prop} {INV : World → Value → Value → Value → Nat → Value → Value → Value → Nat → Prop} (G : World → Value → Value → Value → Nat → Value → Value → Value → Nat → Prop) (main : (∀ W u0 u3 u6 b5 q7 q10 q16 b15, INV W u0 u3 u6 b5 q7 q10 q16 b15 → G W u0 u3 u6 b5 q7 q10 q16 b15) → A) (key : ∀ W u0 u3 u6 b5 q7 q10 q16 b15, INV W u0 u3 u6 b5 q7 q10 q16 b15 → G W u0 u3 u6 b5 q7 q10 q16 b15) : A := main key
end Go.Proofs.Ytigdcnoggjcddaa

