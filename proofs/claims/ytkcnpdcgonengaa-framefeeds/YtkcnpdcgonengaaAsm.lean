/- An assembler in memory: its four cells, and the bytes that it holds; what New makes; what add and drop make of it. Conditions: the slices show bytes, fewer than 2^45. -/
import Derived.Test.YtkcnpdcgonengaaFrA
import Derived.Test.YtkcnpdcgonengaaBTag
import Derived.Test.YtkcnpdcgonengaaVarC
import Derived.Deep.DeepMust
namespace Go.Proofs.Ytkcnpdcgonengaa
open Go.RowKit

/-- Of two blocks alone what was there has changed. -/
structure Fed (w w' : World) (A : Nat) (r : Option Nat) : Prop where
  os : w'.os = w.os
  tape : w'.tape = w.tape
  output : w'.output = w.output
  size : w.heap.size ≤ w'.heap.size
  block : ∀ k, k < w.heap.size → k ≠ A → some k ≠ r → w'.heap[k]? = w.heap[k]?
set_option maxRecDepth 100000 in
theorem Fed.refl (w : World) (A : Nat) (r : Option Nat) : Fed w w A r := ⟨rfl, rfl, rfl, Nat.le_refl _, fun _ _ _ _ => rfl⟩
set_option maxRecDepth 100000 in
/-- .. and then of it and of one that is the same or new. -/
theorem Fed.trans {w w1 w2 : World} {A : Nat} {r r1 : Option Nat} (h : Fed w w1 A r) (k : Fed w1 w2 A r1) (hr : r1 = r ∨ ∀ j, r1 = some j → w.heap.size ≤ j) : Fed w w2 A r :=
  ⟨k.os.trans h.os, k.tape.trans h.tape, k.output.trans h.output, Nat.le_trans h.size k.size, fun i hi h1 h2 => by
    refine (k.block i (Nat.lt_of_lt_of_le hi h.size) h1 (fun e => ?_)).trans (h.block i hi h1 h2)
    rcases hr with hr | hr
    · rw [hr] at e; exact h2 e
    · have := hr i e.symm; omega⟩
set_option maxRecDepth 100000 in
theorem Fed.below {w w' : World} (A : Nat) (r : Option Nat) (h : Below w.heap.size w w') : Fed w w' A r := ⟨h.os, h.tape, h.output, h.size, fun k hk _ _ => h.block k hk⟩
set_option maxRecDepth 100000 in
theorem Fed.grown {w w' : World} (A : Nat) {r : Option Nat} (h : w.grownBy w' r) : Fed w w' A r := ⟨h.os, h.tape, h.output, h.size, fun k hk _ h2 => h.block k hk h2⟩
set_option maxRecDepth 100000 in
theorem Fed.set (w : World) (A o : Nat) (r : Option Nat) (u : Value) : Fed w (w.setCell ⟨A, o, none⟩ u) A r := ⟨rfl, rfl, rfl, by simp [World.setCell], fun k _ h1 _ => Below.heap_setCell _ _ _ _ h1⟩
set_option maxRecDepth 100000 in
theorem Row.fed {w w' : World} {A : Nat} {r : Option Nat} {a : Option Addr} {zs : List Int} (h : Row w a zs) (hf : Fed w w' A r) (hne : zs ≠ [] → ∀ x, a = some x → x.block ≠ A ∧ some x.block ≠ r) : Row w' a zs := by
  refine ⟨h.1, fun hz => ?_⟩
  have hlt : ∀ b off, a = some ⟨b, off, none⟩ → b < w.heap.size := fun b off e => by subst e; exact Row.lt h hz
  obtain ⟨b, off, rfl, hc⟩ := h.2 hz
  have hl := hlt b off rfl
  obtain ⟨h1, h2⟩ := hne hz _ rfl
  exact ⟨b, off, rfl, fun j hj => (World.cell?_of_block (w := w) (a := ⟨b, off + j, none⟩) (hf.block b hl h1 h2)).trans (hc j hj)⟩

set_option maxRecDepth 100000 in
/-- Cells of a block are written. -/
theorem cells_set {w : World} {A o : Nat} {cs : Array Value} {t : TypeId} {m : Nat × Nat} (u : Value) (h : w.heap[A]? = some (.cells cs t m)) : (w.setCell ⟨A, o, none⟩ u).heap[A]? = some (.cells (cs.setIfInBounds o u) t m) := by
  obtain ⟨hlt, hk⟩ := Array.getElem?_eq_some_iff.1 h
  show (w.heap.modify A _)[A]? = _
  rw [Array.getElem?_eq_getElem (by rw [Array.size_modify]; exact hlt), Array.getElem_modify_self, hk]
  rfl
set_option maxRecDepth 100000 in
theorem cells_frozen {w : World} {A o : Nat} {cs : Array Value} {t : TypeId} (h : w.heap[A]? = some (.cells cs t (0, 0))) : w.frozen? ⟨A, o, none⟩ = false := by simp [World.frozen?, h]

/-- An assembler: at A its cells; it holds H. -/
structure Asm (w : World) (A base : Nat) (v : Value) (H : List Int) (L f t : Int) : Prop where
  blk : w.heap[A]? = some (.cells #[v, .int .i64 L, .int .i64 f, .int .i64 t] 110 (0, 0))
  own : w.ownsRow base 5 1 v H.length (H.map (Value.int .u8))
  byt : Byt H
  lo : A < base
  hi : base ≤ w.heap.size
set_option maxRecDepth 100000 in
theorem Asm.lt {w : World} {A base : Nat} {v : Value} {H : List Int} {L f t : Int} (h : Asm w A base v H L f t) : A < w.heap.size := Nat.lt_of_lt_of_le h.lo h.hi
set_option maxRecDepth 100000 in
theorem Asm.ne {w : World} {A base : Nat} {v : Value} {H : List Int} {L f t : Int} (h : Asm w A base v H L f t) : some A ≠ v.ownBlock := fun e => by
  have := (h.own.lt A e.symm).1
  have := h.lo
  omega
set_option maxRecDepth 100000 in
theorem Asm.cells {w : World} {A base : Nat} {v : Value} {H : List Int} {L f t : Int} (h : Asm w A base v H L f t) :
    w.cell? ⟨A, 0, none⟩ = some v ∧ w.cell? ⟨A, 1, none⟩ = some (.int .i64 L) ∧ w.cell? ⟨A, 2, none⟩ = some (.int .i64 f) ∧ w.cell? ⟨A, 3, none⟩ = some (.int .i64 t) := by
  refine ⟨?_, ?_, ?_, ?_⟩ <;> rw [cell_of_row _ _ _ _ _ _ h.blk] <;> rfl
set_option maxRecDepth 100000 in
theorem Asm.frozen {w : World} {A base : Nat} {v : Value} {H : List Int} {L f t : Int} (h : Asm w A base v H L f t) (o : Nat) : w.frozen? ⟨A, o, none⟩ = false := cells_frozen h.blk
set_option maxRecDepth 100000 in
theorem Asm.below {w w' : World} {A base : Nat} {v : Value} {H : List Int} {L f t : Int} (h : Asm w A base v H L f t) (hb : Below w.heap.size w w') : Asm w' A base v H L f t :=
  ⟨(hb.block A h.lt).trans h.blk, own_below h.own hb, h.byt, h.lo, Nat.le_trans h.hi hb.size⟩

/-- Where a new value lies: where the old one lay, or in a new block. -/
def Moved (n : Nat) (v v' : Value) : Prop := v'.ownBlock = v.ownBlock ∨ ∀ k, v'.ownBlock = some k → n ≤ k
set_option maxRecDepth 100000 in
theorem Moved.refl (n : Nat) (v : Value) : Moved n v v := Or.inl rfl
set_option maxRecDepth 100000 in
theorem Moved.trans {n m : Nat} {v v1 v2 : Value} (h : Moved n v v1) (k : Moved m v1 v2) (hm : n ≤ m) : Moved n v v2 := by
  rcases k with k | k
  · rcases h with h | h
    · exact Or.inl (k.trans h)
    · exact Or.inr (fun j hj => h j (by rw [← k]; exact hj))
  · exact Or.inr (fun j hj => Nat.le_trans hm (k j hj))

set_option maxRecDepth 100000 in
theorem new_no (L : Int) (w : World) (h : mayL L = false) : Calls Try.prog 20 #[.int .i64 L] w fun e w' => e = .returned (.tuple #[.pointer none, .int .i64 1]) ∧ w = w' := by
  have CM : Hid (∀ W, Calls Try.prog 67 #[.int .i64 L] W fun e w' => e = .returned (.bool false) ∧ W = w') := fun W => by have := mayL_any L W; rw [h] at this; exact this
  clear h
  go_enter Try.func20, Try.ntmps20
  go_wp2_with fail
  refine (CM.out _).mono ?_
  rintro e w1 ⟨rfl, rfl⟩
  go_wp2
  go_ret2
  exact ⟨rfl, rfl⟩
set_option maxRecDepth 100000 in
theorem new_yes (L : Int) (w : World) (h : mayL L = true) : Calls Try.prog 20 #[.int .i64 L] w fun e w' => e = .returned (.tuple #[.pointer (some ⟨w.heap.size, 0, none⟩), .int .i64 0]) ∧ Asm w' w.heap.size (w.heap.size + 1) (.slice none 0 0) [] L 0 0 ∧ Below w.heap.size w w' := by
  have CM : Hid (∀ W, Calls Try.prog 67 #[.int .i64 L] W fun e w' => e = .returned (.bool true) ∧ W = w') := fun W => by have := mayL_any L W; rw [h] at this; exact this
  clear h
  go_enter Try.func20, Try.ntmps20
  go_wp2_with fail
  refine (CM.out _).mono ?_
  rintro e w1 ⟨rfl, rfl⟩
  go_wp2
  go_ret2
  exact ⟨rfl, ⟨World.alloc_heap_new w _, World.ownsRow_nil _ _ _ _, (fun c hc => by cases hc), Nat.lt_succ_self _, by simp⟩, (Below.refl _ _).alloc (Nat.le_refl _) _⟩

set_option maxRecDepth 100000 in
/-- append of bytes to a row of the call's own, and where it lies then. -/
theorem wpList_append_bytes_at {w : World} {ops : Array Oper} {rest : List Oper} {o : Oper} {a : Act} {Q : Exit → Act → World → Prop} (hgd : o.guard = none) (s x : Operand)
    (ho : o.op = .call { callee := .builtin .append, args := #[s, x], argTypes := #[29, 29] }) (base : Nat) (v : Value) (n : Nat) (xs : List Value) (hs : a.eval s = v) (hown : w.ownsRow base 5 1 v n xs)
    (ao : Option Addr) (zs : List Int) (m cap : Nat) (hx : a.eval x = .slice ao m cap) (hm : zs.length = m) (hrow : Row w ao zs) (hnil : ao = none → zs.length = 0 ∧ cap = 0)
    (hb : n + m ≤ 70368744177664) (hbase : base ≤ w.heap.size)
    (h : ∀ v' w', w'.ownsRow base 5 1 v' (n + m) (xs ++ zs.map (Value.int .u8)) → w.grownBy w' v.ownBlock → Moved w.heap.size v v' → wpList Try.prog ops Q rest (a.put o.dst v') w') : wpList Try.prog ops Q (o :: rest) a w := by
  obtain ⟨i0, hi, hz0, hz1, hz2⟩ := info_parts info8
  cases ao with
  | none =>
    obtain ⟨h1, rfl⟩ := hnil rfl
    have hm0 : m = 0 := by omega
    subst hm0
    have hz : zs = [] := List.eq_nil_of_length_eq_zero h1
    subst hz
    refine wpList_append_own_none hgd s x 29 ho base 5 i0 1 Try.underlying29 hi v n xs hs hown hx (h v w ?_ (World.grownBy.refl _ _) (Moved.refl _ _))
    simpa using hown
  | some ad =>
    exact wpList_append_own_at w hgd s x 29 ho base 5 i0 (.int .u8 0) 1 1 Try.underlying29 hi hz0 hz1 hz2 rfl (by decide) v n xs hs hown ad m cap (zs.map (Value.int .u8)) hx (by simp [hm]) (hrow.news ad rfl) (ints_oneCell _ _)
      (by unfold maxLen; omega) (by omega) hbase (fun v' w' h1 h2 _ h4 => h v' w' h1 h2 (h4.elim Or.inl (fun e => Or.inr (fun k hk => by rw [e] at hk; cases hk; exact Nat.le_refl _))))

set_option maxRecDepth 100000 in
set_option maxHeartbeats 1600000 in
theorem add_any (A base : Nat) (v : Value) (H : List Int) (L f t : Int) (ca : Option Addr) (cs : List Int) (cc : Nat) (w : World) (h : Asm w A base v H L f t) (hc : Shown w ca cs cc) (hlen : H.length + cs.length ≤ 35184372088832) :
    Calls Try.prog 68 #[.pointer (some ⟨A, 0, none⟩), .slice ca cs.length cc] w fun e w' => e = .returned (.tuple #[]) ∧ ∃ v', Asm w' A base v' (H ++ cs) L f t ∧ Fed w w' A v.ownBlock ∧ Moved w.heap.size v v' := by
  obtain ⟨c0, -, -, -⟩ := h.cells
  have hlt := h.lt
  obtain ⟨va, vc, hv, -, -, -, -, -⟩ := own_view h.own h.byt
  subst hv
  have hby : Byt (H ++ cs) := h.byt.append hc.1.byte
  go_enter Try.func68, Try.ntmps68
  go_wp2_with (at_builtin; go_must (refine wpList_append_bytes_at rfl (.tmp 8) (.tmp 9) rfl base _ _ _ rfl h.own ca cs cs.length cc rfl rfl hc.1 hc.2.1 (by omega) h.hi ?_; intro v1 w1 hown1 hgrow1 hmov1; have hblk := (hgrow1.block A hlt h.ne).trans h.blk; rw [← List.map_append, ← List.length_append] at hown1; obtain ⟨va1, vc1, hv1, -, -, -, -, -⟩ := own_view hown1 hby; have hf1 := cells_frozen (o := 0) hblk; have hc1 := cell_of_row w1 A 0 _ _ _ hblk; simp only [List.getElem?_toArray, List.getElem?_cons_zero] at hc1; have hlt1 : A < w1.heap.size := Nat.lt_of_lt_of_le hlt hgrow1.size; subst hv1))
  go_end0
  refine ⟨rfl, _, ⟨?_, ?_, hby, h.lo, ?_⟩, ?_, hmov1⟩
  · rw [cells_set _ hblk, List.length_append]; rfl
  · refine hown1.kept (row := some A) ⟨rfl, rfl, rfl, by simp [World.setCell], fun k _ hk => Below.heap_setCell _ _ _ _ (fun e => hk (by rw [e]))⟩ (Or.inr (fun e => ?_))
    have := (hown1.lt A e).1
    have := h.lo
    omega
  · have := hgrow1.size
    have := h.hi
    simp [World.setCell]; omega
  · exact (Fed.grown A hgrow1).trans (Fed.set w1 A 0 _ _) (Or.inl rfl)

set_option maxRecDepth 100000 in
set_option maxHeartbeats 1600000 in
theorem drop_any (A base : Nat) (v : Value) (H : List Int) (L f t : Int) (n : Nat) (w : World) (h : Asm w A base v H L f t) (hn : n ≤ H.length) (hlen : H.length ≤ 35184372088832) :
    Calls Try.prog 70 #[.pointer (some ⟨A, 0, none⟩), .int .i64 (n : Nat)] w fun e w' => e = .returned (.tuple #[]) ∧ ∃ v', Asm w' A base v' (H.drop n) L f t ∧ Fed w w' A none ∧ Moved w.heap.size v v' := by
  by_cases h0 : n = 0
  · subst h0
    go_enter Try.func70, Try.ntmps70
    go_wp2
    first | go_end0 | refine bodyPost_ret (results_none rfl _ _ _) rfl ?_
    exact ⟨rfl, v, by simpa using h, Fed.refl _ _ _, Moved.refl _ _⟩
  · have h0' : ((n : Int) == 0) = false := by rw [beq_eq_false_iff_ne]; omega
    obtain ⟨c0, -, -, -⟩ := h.cells
    have hlt := h.lt
    obtain ⟨va, vc, hv, -, hrow, hnil, hvc, hvm⟩ := own_view h.own h.byt
    subst hv
    have hsl := run_cut_l va H.length vc n (n : Int) rfl hn
    have hr1 := cutA_row (cap := vc) n (H.length - n) hvc w hrow
    have htk : (H.drop n).take (H.length - n) = H.drop n := List.take_of_length_le (by simp)
    rw [htk] at hr1
    have hnil1 : cutA va vc n = none → (H.drop n).length = 0 ∧ vc - n = 0 := fun hz => by have := cutA_nil n hnil hz; simp; omega
    have hby : Byt (H.drop n) := h.byt.drop n
    have hld : (H.drop n).length = H.length - n := by simp
    have HLD : Hid ((H.drop n).length = H.length - n) := hld
    clear htk hld
    go_enter Try.func70, Try.ntmps70
    go_wp2_with (at_builtin; go_must (refine wpList_append_bytes_at rfl (.const (.slice none 0 0)) (.tmp 12) rfl w.heap.size (.slice none 0 0) 0 [] rfl (World.ownsRow_nil _ _ _ _) (cutA va vc n) (H.drop n) (H.length - n) (vc - n) rfl HLD.out hr1 hnil1 (by omega) (Nat.le_refl _) ?_; intro v1 w1 hown1 hgrow1 hmov1; have hblk := (hgrow1.block A hlt (by simp [Value.ownBlock])).trans h.blk; rw [Nat.zero_add, List.nil_append, ← HLD.out] at hown1; obtain ⟨va1, vc1, hv1, -, -, -, -, -⟩ := own_view hown1 hby; have hf1 := cells_frozen (o := 0) hblk; have hc1 := cell_of_row w1 A 0 _ _ _ hblk; simp only [List.getElem?_toArray, List.getElem?_cons_zero] at hc1; have hlt1 : A < w1.heap.size := Nat.lt_of_lt_of_le hlt hgrow1.size; subst hv1))
    go_end0
    refine ⟨rfl, .slice va1 (H.drop n).length vc1, ⟨?_, ?_, hby, h.lo, ?_⟩, ?_, Or.inr (fun k hk => ?_)⟩
    · rw [cells_set _ hblk, List.length_drop]; rfl
    · have := hown1.kept (w' := w1.setCell ⟨A, 0, none⟩ (.slice va1 (H.length - n) vc1)) (row := some A) ⟨rfl, rfl, rfl, by simp [World.setCell], fun k _ hk => Below.heap_setCell _ _ _ _ (fun e => hk (by rw [e]))⟩ (Or.inr (fun e => by
        have := (hown1.lt A e).1
        omega))
      have h2 := h.hi
      refine ⟨this.1, ?_⟩
      rcases this.2 with h3 | ⟨g, cap, cur, hv, hg, r⟩
      · exact Or.inl h3
      · exact Or.inr ⟨g, cap, cur, hv, Nat.le_trans h2 hg, r⟩
    · have := hgrow1.size
      have := h.hi
      simp [World.setCell]; omega
    · exact (Fed.grown A hgrow1).trans (Fed.set w1 A 0 none _) (Or.inl rfl)
    · exact (hown1.lt k hk).1
end Go.Proofs.Ytkcnpdcgonengaa
