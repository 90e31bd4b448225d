/- Alarms in memory: a struct of a tick and a map; what New, Now, Len, At, Set, Drop do. Conditions: the alarms lie in memory. -/
import Derived.Test.YtjgonfaniincbaaCkC
import Derived.Deep.CutRange
namespace Go.Proofs.Ytjgonfaniincbaa
open Go.RowKit Go.Maps Go.ChangeMaps Go.WideShapes Go.WideMaps

set_option maxRecDepth 100000 in
theorem keyed : Keyed Try.prog 9 := string_keyed Try.underlying9
set_option maxRecDepth 100000 in
theorem zeroI (w : World) : (zeroValue 3).run Try.prog w = .ok (.int .i64 0) w := by kernel_rfl
set_option maxRecDepth 100000 in
theorem key_of {s : ByteArray} (hs : s.size ≤ maxLen) : keyOf Try.prog 9 (.string s) = some (keyS s) := keyOf_string_mk Try.underlying9 hs
/-- The map in its block. -/
def MapIn (W : World) (Mb : Nat) (l : List (Int × ByteArray)) : Prop := ∃ D : DataW Unit, W.ownsMap Try.prog 9 (plainElem Try.prog 3) Mb l.length D ∧ ViewA D l
set_option maxRecDepth 100000 in
theorem own_size {W : World} {R : Value → Option (DataW Unit × List MemPlace)} {b n : Nat} {D : DataW Unit} (h : W.ownsMap Try.prog 9 R b n D) : W.ownsMap Try.prog 9 R b (Maps.size D) D := by
  obtain ⟨es, clock, hb, F, hs, rfl⟩ := h
  exact ⟨es, clock, hb, F, by rw [size_eq, length_read]; exact Nat.le_refl _, rfl⟩
set_option maxRecDepth 100000 in
theorem MapIn.mk {W : World} {Mb n : Nat} {D : DataW Unit} {l : List (Int × ByteArray)} (h : W.ownsMap Try.prog 9 (plainElem Try.prog 3) Mb n D) (hv : ViewA D l) : MapIn W Mb l := by
  have := own_size h
  rw [hv.size] at this
  exact ⟨D, this, hv⟩
set_option maxRecDepth 100000 in
theorem MapIn.block {W W' : World} {Mb : Nat} {l : List (Int × ByteArray)} (h : MapIn W Mb l) (hb : W'.heap[Mb]? = W.heap[Mb]?) : MapIn W' Mb l := by
  obtain ⟨D, ⟨es, clock, h1, F, hs, rfl⟩, hv⟩ := h
  exact ⟨_, ⟨es, clock, hb.trans h1, F, hs, rfl⟩, hv⟩
set_option maxRecDepth 100000 in
theorem MapIn.lt {W : World} {Mb : Nat} {l : List (Int × ByteArray)} (h : MapIn W Mb l) : Mb < W.heap.size := by obtain ⟨D, h, -⟩ := h; exact h.lt
set_option maxRecDepth 100000 in
theorem MapIn.below {W W' : World} {Mb : Nat} {l : List (Int × ByteArray)} (h : MapIn W Mb l) (hb : Below W.heap.size W W') : MapIn W' Mb l := h.block (hb.block _ h.lt)
/-- The struct in its block. -/
def BoxA (W : World) (B Mb : Nat) (now : Int) : Prop := W.heap[B]? = some (.cells #[.int .i64 now, .map (some Mb)] 53)
set_option maxRecDepth 100000 in
theorem BoxA.lt {W : World} {B Mb : Nat} {now : Int} (h : BoxA W B Mb now) : B < W.heap.size := (Array.getElem?_eq_some_iff.1 h).1
set_option maxRecDepth 100000 in
theorem BoxA.below {W W' : World} {B Mb : Nat} {now : Int} (h : BoxA W B Mb now) (hb : Below W.heap.size W W') : BoxA W' B Mb now := (hb.block _ h.lt).trans h
def AlIn (W : World) (B Mb : Nat) (now : Int) (l : List (Int × ByteArray)) : Prop := BoxA W B Mb now ∧ MapIn W Mb l
set_option maxRecDepth 100000 in
theorem AlIn.below {W W' : World} {B Mb : Nat} {now : Int} {l : List (Int × ByteArray)} (h : AlIn W B Mb now l) (hb : Below W.heap.size W W') : AlIn W' B Mb now l := ⟨h.1.below hb, h.2.below hb⟩
set_option maxRecDepth 100000 in
theorem AlIn.drew {W : World} {B Mb : Nat} {now : Int} {l : List (Int × ByteArray)} (h : AlIn W B Mb now l) : AlIn W.drew B Mb now l := h.below (Below.drew (Below.refl _ _))
set_option maxRecDepth 100000 in
theorem BoxA.cells {W : World} {B Mb : Nat} {now : Int} (h : BoxA W B Mb now) : W.cell? ⟨B, 0, none⟩ = some (.int .i64 now) ∧ W.cell? ⟨B, 1, none⟩ = some (.map (some Mb)) ∧ ∀ j, W.frozen? ⟨B, j, none⟩ = false :=
  ⟨cell_of_row _ _ _ _ _ _ h, cell_of_row _ _ _ _ _ _ h, fun _ => frozen_of_row _ _ _ _ _ h⟩
set_option maxRecDepth 100000 in
theorem AlIn.cells {W : World} {B Mb : Nat} {now : Int} {l : List (Int × ByteArray)} (h : AlIn W B Mb now l) : W.cell? ⟨B, 0, none⟩ = some (.int .i64 now) ∧ W.cell? ⟨B, 1, none⟩ = some (.map (some Mb)) ∧ ∀ j, W.frozen? ⟨B, j, none⟩ = false :=
  ⟨cell_of_row _ _ _ _ _ _ h.1, cell_of_row _ _ _ _ _ _ h.1, fun _ => frozen_of_row _ _ _ _ _ h.1⟩
set_option maxRecDepth 100000 in
theorem AlIn.apart {W : World} {B Mb : Nat} {now : Int} {l : List (Int × ByteArray)} (h : AlIn W B Mb now l) : B ≠ Mb := by
  intro e
  subst e
  obtain ⟨h1, D, ⟨es, clock, h2, -⟩, -⟩ := h
  rw [h1] at h2
  cases h2
set_option maxRecDepth 100000 in
theorem turned_below {W W' : World} {Mb : Nat} (h : W.mapTurned W' Mb) (base : Nat) (hb : base ≤ Mb) (hs : base ≤ W.heap.size) : Below base W W' :=
  (Below.refl _ _).grown h.grown hs (fun k hk => by cases hk; exact hb)
set_option maxRecDepth 100000 in
theorem turned_block {W W' : World} {Mb : Nat} (h : W.mapTurned W' Mb) {k : Nat} (hk : k ≠ Mb) : k < W.heap.size → W'.heap[k]? = W.heap[k]? := fun hl => h.grown.block k hl (fun e => hk (by cases e; rfl))
set_option maxRecDepth 100000 in
theorem AlIn.turned {W W' : World} {B Mb : Nat} {now : Int} {l l' : List (Int × ByteArray)} (h : AlIn W B Mb now l) (ht : W.mapTurned W' Mb) (hm : MapIn W' Mb l') : AlIn W' B Mb now l' :=
  ⟨(turned_block ht h.apart h.1.lt).trans h.1, hm⟩
set_option maxRecDepth 100000 in
theorem AlIn.look {W : World} {B Mb : Nat} {now : Int} {l : List (Int × ByteArray)} (h : AlIn W B Mb now l) (hok : OkA l) (s : ByteArray) (hs : s.size ≤ maxLen) :
    ∃ c : Int, (Instr.lookup 51 (.map (some Mb)) (.string s) true).run Try.prog W = .ok (.tuple #[.int .i64 c, .bool (hasA l s)]) W ∧ (∀ n, (n, s) ∈ l → c = n) ∧ (hasA l s = false → c = 0) := by
  obtain ⟨-, D, hown, hv⟩ := h
  obtain ⟨v, ps, hrun, hR⟩ := hown.look_ok keyed Try.underlying51 (zeroI W) (plainElem_int Try.underlying3 (a := 0) (by decide)) (key_of hs)
  obtain ⟨c, rfl, hc, -⟩ := plainElem_int_inv Try.underlying3 hR
  rw [hv.has] at hrun
  have hc := congrArg Prod.fst hc
  refine ⟨c, hrun, fun n hn => ?_, fun hn => ?_⟩
  · rw [hv.at hok.2.1 hn] at hc
    cases hc; rfl
  · rw [hv.off hn] at hc
    cases hc; rfl
set_option maxRecDepth 100000 in
theorem AlIn.size {W : World} {B Mb : Nat} {now : Int} {l : List (Int × ByteArray)} (h : AlIn W B Mb now l) (ty : TypeId) : (Builtin.len_ #[51] ty #[.map (some Mb)]).run Try.prog W = .ok (.int .i64 l.length) W := by
  obtain ⟨-, D, hown, hv⟩ := h
  rw [hown.len Try.underlying51 ty, hv.size]
set_option maxRecDepth 100000 in
theorem AlIn.store {W : World} {B Mb : Nat} {now : Int} {l : List (Int × ByteArray)} (h : AlIn W B Mb now l) (hl : l.length ≤ 32) (s : ByteArray) (hs : s.size ≤ maxLen) (n : Int) (hn : 0 ≤ n ∧ n ≤ 1152921504606846976) (base : Nat) (hM : base ≤ Mb) :
    ∃ w', (Instr.mapUpdate 51 (.map (some Mb)) (.string s) (.int .i64 n)).run Try.prog W = .ok () w' ∧ AlIn w' B Mb now (insA (n, s) (delA s l)) ∧ Below base W w' := by
  have hlt := h.2.lt
  have hA := h
  obtain ⟨-, D, hown, hv⟩ := h
  obtain ⟨w', hrun, hown', ht⟩ := hown.store keyed Try.underlying51 (by unfold maxLen; omega) (key_of hs) (plainElem_int Try.underlying3 (q := .i64) (a := n) (WalkArith.wf_i64 (by omega)))
  exact ⟨w', hrun, hA.turned ht (MapIn.mk hown' (hv.put n s)), turned_below ht base hM (by omega)⟩
set_option maxRecDepth 100000 in
theorem AlIn.drop {W : World} {B Mb : Nat} {now : Int} {l : List (Int × ByteArray)} (h : AlIn W B Mb now l) (s : ByteArray) (hs : s.size ≤ maxLen) (base : Nat) (hM : base ≤ Mb) (ty : TypeId) :
    ∃ w', (Builtin.delete_ #[51, 9] ty #[.map (some Mb), .string s]).run Try.prog W = .ok (.tuple #[]) w' ∧ AlIn w' B Mb now (delA s l) ∧ Below base W w' := by
  have hlt := h.2.lt
  have hA := h
  obtain ⟨-, D, hown, hv⟩ := h
  obtain ⟨w', hrun, hown', ht⟩ := hown.drop keyed Try.underlying51 (key_of hs) ty
  exact ⟨w', hrun, hA.turned ht (MapIn.mk hown' (hv.del s)), turned_below ht base hM (by omega)⟩
set_option maxRecDepth 100000 in
theorem step_plain {ops : Array Oper} {o : Oper} {a : Act} {w : World} {K : Act → World → Prop} {Q : Exit → Act → World → Prop} {E : Prop} (hgd : o.guard = none) (h : Oper.wp Try.prog o a w K Q) :
    if Region.wanted o (yielded ops a.tmps) = true then Oper.wp Try.prog o a w K Q else E := by
  have hw : Region.wanted o (yielded ops a.tmps) = true := by simp [Region.wanted, hgd]
  rw [if_pos hw]
  exact h
set_option maxRecDepth 100000 in
theorem step_wanted {ops : Array Oper} {o : Oper} {a : Act} {w : World} {K : Act → World → Prop} {Q : Exit → Act → World → Prop} {E : Prop} (hw : Region.wanted o (yielded ops a.tmps) = true) (h : Oper.wp Try.prog o a w K Q) :
    if Region.wanted o (yielded ops a.tmps) = true then Oper.wp Try.prog o a w K Q else E := by
  rw [if_pos hw]
  exact h
set_option maxRecDepth 100000 in
theorem step_update {ops : Array Oper} {o : Oper} {a : Act} {w w' : World} {K : Act → World → Prop} {Q : Exit → Act → World → Prop} {E : Prop} (hgd : o.guard = none) (m x v : Operand) (t : TypeId) (hop : o.op = .mapUpdate t m x v) (hd : o.dst = none)
    (hrun : (Instr.mapUpdate t (a.eval m) (a.eval x) (a.eval v)).run Try.prog w = .ok () w') (h : K a w') :
    if Region.wanted o (yielded ops a.tmps) = true then Oper.wp Try.prog o a w K Q else E := by
  refine step_plain hgd ?_
  unfold Oper.wp
  simp [execOp, hop, hrun, Result.andThen]
  show K (a.put o.dst undef) w'
  rw [hd]
  exact h
set_option maxRecDepth 100000 in
theorem anew_any (w : World) : Calls Try.prog 8 #[] w fun e w' => ∃ B Mb, e = .returned (.pointer (some ⟨B, 0, none⟩)) ∧ w.heap.size ≤ B ∧ w.heap.size ≤ Mb ∧ AlIn w' B Mb 0 [] ∧ Below w.heap.size w w' := by
  have hmm := @run_makeMap Try.prog
  go_enter Try.func8, Try.ntmps8
  go_wp2
  go_ret
  refine ⟨w.heap.size + 1, w.heap.size, rfl, by omega, Nat.le_refl _, ⟨?_, ?_⟩, ((Below.refl _ _).alloc (Nat.le_refl _) _).alloc (by simp) _⟩
  · have := heap_alloc_new (w.alloc (.map #[] 0)) (.cells #[.int .i64 0, .map (some w.heap.size)] 53)
    simpa [BoxA] using this
  · have h0 : MapIn (w.alloc (.map #[] 0)) w.heap.size [] := ⟨_, World.ownsMap_made w Try.prog 9 _, ViewA.empty⟩
    exact h0.below ((Below.refl _ _).alloc (Nat.le_refl _) _)
set_option maxRecDepth 100000 in
theorem now_any {W : World} {B Mb : Nat} {now : Int} {l : List (Int × ByteArray)} (h : AlIn W B Mb now l) : Calls Try.prog 18 #[.pointer (some ⟨B, 0, none⟩)] W fun e w' => e = .returned (.int .i64 now) ∧ W = w' := by
  obtain ⟨z0, z1, zf⟩ := h.cells
  have hlt := h.1.lt
  go_enter Try.func18, Try.ntmps18
  go_wp2
  go_ret
  exact ⟨rfl, rfl⟩
set_option maxRecDepth 100000 in
theorem now_nil (W : World) : Calls Try.prog 18 #[.pointer none] W fun e w' => e = .returned (.int .i64 0) ∧ W = w' := by
  go_enter Try.func18, Try.ntmps18
  go_wp2
  go_ret
  exact ⟨rfl, rfl⟩
set_option maxRecDepth 100000 in
theorem alen_any {W : World} {B Mb : Nat} {now : Int} {l : List (Int × ByteArray)} (h : AlIn W B Mb now l) : Calls Try.prog 19 #[.pointer (some ⟨B, 0, none⟩)] W fun e w' => e = .returned (.int .i64 l.length) ∧ W = w' := by
  obtain ⟨z0, z1, zf⟩ := h.cells
  have hlt := h.1.lt
  have hsz := h.size
  go_enter Try.func19, Try.ntmps19
  go_wp2
  go_ret
  exact ⟨rfl, rfl⟩
set_option maxRecDepth 100000 in
theorem alen_nil (W : World) : Calls Try.prog 19 #[.pointer none] W fun e w' => e = .returned (.int .i64 0) ∧ W = w' := by
  go_enter Try.func19, Try.ntmps19
  go_wp2
  go_ret
  exact ⟨rfl, rfl⟩
set_option maxRecDepth 100000 in
theorem at_any {W : World} {B Mb : Nat} {now : Int} {l : List (Int × ByteArray)} (h : AlIn W B Mb now l) (hok : OkA l) (s : ByteArray) (hs : s.size ≤ maxLen) : Calls Try.prog 17 #[.pointer (some ⟨B, 0, none⟩), .string s] W fun e w' => (∃ c : Int, e = .returned (.tuple #[.int .i64 c, .bool (hasA l s)]) ∧ (∀ n, (n, s) ∈ l → c = n)) ∧ W = w' := by
  obtain ⟨z0, z1, zf⟩ := h.cells
  have hlt := h.1.lt
  obtain ⟨c, hrun, hc, -⟩ := h.look hok s hs
  go_enter Try.func17, Try.ntmps17
  go_wp2
  go_ret2
  exact ⟨⟨c, rfl, hc⟩, rfl⟩
set_option maxRecDepth 100000 in
theorem at_nil (s : ByteArray) (W : World) : Calls Try.prog 17 #[.pointer none, .string s] W fun e w' => e = .returned (.tuple #[.int .i64 0, .bool false]) ∧ W = w' := by
  go_enter Try.func17, Try.ntmps17
  go_wp2
  go_ret2
  exact ⟨rfl, rfl⟩
set_option maxRecDepth 100000 in
theorem set_nil (s : ByteArray) (n : Int) (W : World) : Calls Try.prog 10 #[.pointer none, .string s, .int .i64 n] W fun e w' => e = .returned (.int .i64 11) ∧ W = w' := by
  go_enter Try.func10, Try.ntmps10
  go_wp2
  go_ret
  exact ⟨rfl, rfl⟩
set_option maxRecDepth 100000 in
theorem drop_nil' (s : ByteArray) (W : World) : Calls Try.prog 14 #[.pointer none, .string s] W fun e w' => e = .returned (.bool false) ∧ W = w' := by
  go_enter Try.func14, Try.ntmps14
  go_wp2_with (go_at_call 17; refine (at_nil _ _).mono ?_; rintro e w' ⟨rfl, rfl⟩)
  go_ret
  exact ⟨rfl, rfl⟩
set_option maxRecDepth 100000 in
theorem drop_any {W : World} {B Mb : Nat} {now : Int} {l : List (Int × ByteArray)} (h : AlIn W B Mb now l) (hok : OkA l) (s : ByteArray) (hs : s.size ≤ maxLen) (base : Nat) (hB : base ≤ Mb) : Calls Try.prog 14 #[.pointer (some ⟨B, 0, none⟩), .string s] W fun e w' =>
    e = .returned (.bool (hasA l s)) ∧ AlIn w' B Mb now (delA s l) ∧ Below base W w' := by
  obtain ⟨z0, z1, zf⟩ := h.cells
  have hlt := h.1.lt
  have hml := h.2.lt
  cases hh : hasA l s
  · have CA : Hid (Calls Try.prog 17 #[.pointer (some ⟨B, 0, none⟩), .string s] W fun e w' => (∃ c : Int, e = .returned (.tuple #[.int .i64 c, .bool false])) ∧ W = w') := (at_any h hok s hs).mono (fun e w' ⟨⟨c, h1, _⟩, h2⟩ => ⟨⟨c, by rw [h1, hh]⟩, h2⟩)
    go_enter Try.func14, Try.ntmps14
    go_wp2_with (go_at_call 17; refine CA.out.mono ?_; rintro e w' ⟨⟨c, rfl⟩, rfl⟩)
    go_ret
    exact ⟨rfl, by rw [delA_same hh]; exact h, Below.refl _ _⟩
  · have CA : Hid (Calls Try.prog 17 #[.pointer (some ⟨B, 0, none⟩), .string s] W fun e w' => (∃ c : Int, e = .returned (.tuple #[.int .i64 c, .bool true])) ∧ W = w') := (at_any h hok s hs).mono (fun e w' ⟨⟨c, h1, _⟩, h2⟩ => ⟨⟨c, by rw [h1, hh]⟩, h2⟩)
    have hA := h
    obtain ⟨-, D, hown, hv⟩ := h
    have key := key_of hs
    go_enter Try.func14, Try.ntmps14
    go_wp2_with (first
      | (go_at_call 17; refine CA.out.mono ?_; rintro e w' ⟨⟨c, rfl⟩, rfl⟩)
      | (at_delete; refine wpList_delete_own _ rfl _ _ 51 9 rfl 3 keyed Try.underlying51 _ Mb l.length D rfl hown _ _ rfl key ?_; intro w1 hown1 hturn1))
    go_ret
    exact ⟨rfl, hA.turned hturn1 (MapIn.mk hown1 (hv.del s)), turned_below hturn1 base hB (by omega)⟩
/-- What Set answers, and what is there then. -/
def setE (l : List (Int × ByteArray)) (s : ByteArray) (n : Int) : Int := if n < 0 then 1 else if hasA l s = false ∧ 32 ≤ l.length then 10 else 0
def setA (now : Int) (l : List (Int × ByteArray)) (s : ByteArray) (n : Int) : List (Int × ByteArray) := if n < 0 ∨ (hasA l s = false ∧ 32 ≤ l.length) then l else insA (clp (now + clp n), s) (delA s l)
set_option maxRecDepth 100000 in
set_option maxHeartbeats 1600000 in
theorem set_any {W : World} {B Mb : Nat} {now : Int} {l : List (Int × ByteArray)} (h : AlIn W B Mb now l) (hok : OkA l) (hnow : 0 ≤ now ∧ now ≤ 1152921504606846976) (hl : l.length ≤ 32) (s : ByteArray) (hs : s.size ≤ maxLen) (n : Int) (hn : I64 n) (base : Nat) (hM : base ≤ Mb) :
    Calls Try.prog 10 #[.pointer (some ⟨B, 0, none⟩), .string s, .int .i64 n] W fun e w' => e = .returned (.int .i64 (setE l s n)) ∧ AlIn w' B Mb now (setA now l s n) ∧ Below base W w' := by
  obtain ⟨z0, z1, zf⟩ := h.cells
  have hlt := h.1.lt
  have hml := h.2.lt
  obtain ⟨hn0, hn1⟩ := hn
  by_cases hneg : n < 0
  · have hE : Hid (setE l s n = 1) := if_pos hneg
    have hS : Hid (setA now l s n = l) := if_pos (Or.inl hneg)
    go_enter Try.func10, Try.ntmps10
    go_wp2
    go_ret
    exact ⟨ret_int hE.out.symm, by rw [hS.out]; exact h, Below.refl _ _⟩
  · obtain ⟨c, hrun, -, -⟩ := h.look hok s hs
    have hsz := h.size
    by_cases hfull : hasA l s = false ∧ 32 ≤ l.length
    · obtain ⟨hf, h32⟩ := hfull
      have hE : Hid (setE l s n = 10) := (if_neg hneg).trans (if_pos ⟨hf, h32⟩)
      have hS : Hid (setA now l s n = l) := if_pos (Or.inr ⟨hf, h32⟩)
      rw [hf] at hrun
      clear hf
      go_enter Try.func10, Try.ntmps10
      go_wp2
      go_ret
      exact ⟨ret_int hE.out.symm, by rw [hS.out]; exact h, Below.refl _ _⟩
    · have hE : Hid (setE l s n = 0) := (if_neg hneg).trans (if_neg hfull)
      have hS : Hid (setA now l s n = insA (clp (now + clp n), s) (delA s l)) := if_neg (fun x => x.elim hneg hfull)
      have CA : Hid (∀ w, Calls Try.prog 21 #[.int .i64 now, .int .i64 n] w fun e w' => e = .returned (.int .i64 (clp (now + clp n))) ∧ w = w') := fun w => by have := add_any now n w; rwa [show clp now = now by simp only [clp, brought]; omega] at this
      cases hh : hasA l s
      · have h32 : ¬ 32 ≤ l.length := fun x => hfull ⟨hh, x⟩
        have h32' : ((l.length : Nat) : Int) < 32 := by omega
        rw [hh] at hrun
        clear hfull hh h32
        go_enter Try.func10, Try.ntmps10
        go_upto_region 8 with fail
        refine wp_region_held_drew (S := fun w' => BoxA w' B Mb now ∧ Below base W w') (by kernel_rfl) ⟨h.drew.1, Below.drew (Below.refl _ _)⟩ (fun hSS => ?_)
        refine wpAnyH_take (i := 0) (v := ?_) rfl (by kernel_rfl) (by kernel_rfl) (by kernel_rfl) (fun _ _ _ h => h) (Or.inl ⟨by rfl, ?_⟩) hSS ?_
        rotate_left
        · intro wz hSz
          go_simp
          try with_reducible rfl
        simp only [List.getElem_toArray, List.getElem_cons_zero, Act.put, List.setIfInBounds_toArray, List.set_cons_zero, List.set_cons_succ]
        refine wpAnyH_take (i := 1) (v := ?_) rfl (by kernel_rfl) (by kernel_rfl) (by kernel_rfl) (fun _ _ _ h => h) (Or.inl ⟨by rfl, ?_⟩) hSS ?_
        rotate_left
        · intro wz hSz
          obtain ⟨z0, z1, zf⟩ := hSz.1.cells
          go_simp
          try with_reducible rfl
        simp only [List.getElem_toArray, List.getElem_cons_zero, List.getElem_cons_succ, Act.put, List.setIfInBounds_toArray, List.set_cons_zero, List.set_cons_succ]
        refine wpAnyH_take (i := 2) (v := ?_) rfl (by kernel_rfl) (by kernel_rfl) (by kernel_rfl) (fun _ _ _ h => h) (Or.inl ⟨by rfl, ?_⟩) hSS ?_
        rotate_left
        · intro wz hSz
          go_simp
          try with_reducible rfl
        simp only [List.getElem_toArray, List.getElem_cons_zero, List.getElem_cons_succ, Act.put, List.setIfInBounds_toArray, List.set_cons_zero, List.set_cons_succ]
        refine wpAnyH_take (i := 3) (v := ?_) rfl (by kernel_rfl) (by kernel_rfl) (by kernel_rfl) (fun _ _ _ h => h) (Or.inl ⟨by rfl, ?_⟩) hSS ?_
        rotate_left
        · intro wz hSz
          obtain ⟨z0, z1, zf⟩ := hSz.1.cells
          go_simp
          try with_reducible rfl
        simp only [List.getElem_toArray, List.getElem_cons_zero, List.getElem_cons_succ, Act.put, List.setIfInBounds_toArray, List.set_cons_zero, List.set_cons_succ]
        refine wpAnyH_take (i := 4) (v := ?_) rfl (by kernel_rfl) (by kernel_rfl) (by kernel_rfl) (fun _ _ _ h => h) (Or.inl ⟨by rfl, ?_⟩) hSS ?_
        rotate_left
        · intro wz hSz
          go_simp
          try with_reducible rfl
        simp only [List.getElem_toArray, List.getElem_cons_zero, List.getElem_cons_succ, Act.put, List.setIfInBounds_toArray, List.set_cons_zero, List.set_cons_succ]
        refine wpAnyH_take (i := 5) (v := ?_) rfl (by kernel_rfl) (by kernel_rfl) (by kernel_rfl) (fun _ _ _ h => h) (Or.inl ⟨by rfl, ?_⟩) hSS ?_
        rotate_left
        · intro wz hSz
          go_simp
          try with_reducible rfl
        simp only [List.getElem_toArray, List.getElem_cons_zero, List.getElem_cons_succ, Act.put, List.setIfInBounds_toArray, List.set_cons_zero, List.set_cons_succ]
        refine wpAnyH_take (i := 6) (v := ?_) rfl (by kernel_rfl) (by kernel_rfl) (by kernel_rfl) (fun _ _ _ h => h) (Or.inl ⟨by rfl, ?_⟩) hSS ?_
        rotate_left
        · intro wz hSz
          obtain ⟨z0, z1, zf⟩ := hSz.1.cells
          go_simp
          try with_reducible rfl
        simp only [List.getElem_toArray, List.getElem_cons_zero, List.getElem_cons_succ, Act.put, List.setIfInBounds_toArray, List.set_cons_zero, List.set_cons_succ]
        refine wpAnyH_take (i := 7) (v := ?_) rfl (by kernel_rfl) (by kernel_rfl) (by kernel_rfl) (fun _ _ _ h => h) (Or.inl ⟨by rfl, ?_⟩) hSS ?_
        rotate_left
        · intro wz hSz
          go_simp
          try with_reducible rfl
        simp only [List.getElem_toArray, List.getElem_cons_zero, List.getElem_cons_succ, Act.put, List.setIfInBounds_toArray, List.set_cons_zero, List.set_cons_succ]
        refine wpAnyH_take (i := 8) (v := ?_) rfl (by kernel_rfl) (by kernel_rfl) (by kernel_rfl) (fun _ _ _ h => h) (Or.inl ⟨by rfl, ?_⟩) hSS ?_
        rotate_left
        · intro wz hSz
          obtain ⟨z0, z1, zf⟩ := hSz.1.cells
          go_simp
          try with_reducible rfl
        simp only [List.getElem_toArray, List.getElem_cons_zero, List.getElem_cons_succ, Act.put, List.setIfInBounds_toArray, List.set_cons_zero, List.set_cons_succ]
        refine wpAnyH_take (i := 9) (v := ?_) rfl (by kernel_rfl) (by kernel_rfl) (by kernel_rfl) (fun _ _ _ h => h) (Or.inl ⟨by rfl, ?_⟩) hSS ?_
        rotate_left
        · intro wz hSz
          go_simp
          try with_reducible rfl
        simp only [List.getElem_toArray, List.getElem_cons_zero, List.getElem_cons_succ, Act.put, List.setIfInBounds_toArray, List.set_cons_zero, List.set_cons_succ]
        refine wpAnyH_ready (rs := [10]) (by kernel_rfl) (by simp) (AllReadyH.cons rfl (fun K hK => ?_) AllReadyH.nil)
        go_simp
        go_at_call 21
        refine (CA.out _).mono ?_
        rintro e wk ⟨rfl, rfl⟩
        go_simp
        refine hK.out _ _ hSS (fun hSS => ?_)
        clear hK
        refine wpAnyH_ready (rs := [11]) (by kernel_rfl) (by simp) (AllReadyH.cons rfl (fun K hK => ?_) AllReadyH.nil)
        obtain ⟨w2, hrun2, hA2, hb2⟩ := h.drew.store hl s hs (clp (now + clp n)) (clp_range _) base hM
        refine step_update rfl (.tmp 35) (.tmp 36) (.tmp 42) _ rfl rfl hrun2 ?_
        refine hK.out _ _ ⟨hA2.1, (Below.drew (Below.refl base W)).trans hb2⟩ (fun hSS2 => ?_)
        clear hK
        refine wpAnyH_done (by kernel_rfl) ?_ _
        go_wp2_with fail
        go_ret
        exact ⟨ret_int hE.out.symm, by rw [hS.out]; exact hA2, hSS2.2⟩
      · rw [hh] at hrun
        clear hfull hh
        go_enter Try.func10, Try.ntmps10
        go_upto_region 8 with fail
        refine wp_region_held_drew (S := fun w' => BoxA w' B Mb now ∧ Below base W w') (by kernel_rfl) ⟨h.drew.1, Below.drew (Below.refl _ _)⟩ (fun hSS => ?_)
        refine wpAnyH_take (i := 0) (v := ?_) rfl (by kernel_rfl) (by kernel_rfl) (by kernel_rfl) (fun _ _ _ h => h) (Or.inl ⟨by rfl, ?_⟩) hSS ?_
        rotate_left
        · intro wz hSz
          go_simp
          try with_reducible rfl
        simp only [List.getElem_toArray, List.getElem_cons_zero, Act.put, List.setIfInBounds_toArray, List.set_cons_zero, List.set_cons_succ]
        refine wpAnyH_take (i := 1) (v := ?_) rfl (by kernel_rfl) (by kernel_rfl) (by kernel_rfl) (fun _ _ _ h => h) (Or.inl ⟨by rfl, ?_⟩) hSS ?_
        rotate_left
        · intro wz hSz
          obtain ⟨z0, z1, zf⟩ := hSz.1.cells
          go_simp
          try with_reducible rfl
        simp only [List.getElem_toArray, List.getElem_cons_zero, List.getElem_cons_succ, Act.put, List.setIfInBounds_toArray, List.set_cons_zero, List.set_cons_succ]
        refine wpAnyH_take (i := 2) (v := ?_) rfl (by kernel_rfl) (by kernel_rfl) (by kernel_rfl) (fun _ _ _ h => h) (Or.inl ⟨by rfl, ?_⟩) hSS ?_
        rotate_left
        · intro wz hSz
          go_simp
          try with_reducible rfl
        simp only [List.getElem_toArray, List.getElem_cons_zero, List.getElem_cons_succ, Act.put, List.setIfInBounds_toArray, List.set_cons_zero, List.set_cons_succ]
        refine wpAnyH_take (i := 3) (v := ?_) rfl (by kernel_rfl) (by kernel_rfl) (by kernel_rfl) (fun _ _ _ h => h) (Or.inl ⟨by rfl, ?_⟩) hSS ?_
        rotate_left
        · intro wz hSz
          obtain ⟨z0, z1, zf⟩ := hSz.1.cells
          go_simp
          try with_reducible rfl
        simp only [List.getElem_toArray, List.getElem_cons_zero, List.getElem_cons_succ, Act.put, List.setIfInBounds_toArray, List.set_cons_zero, List.set_cons_succ]
        refine wpAnyH_take (i := 4) (v := ?_) rfl (by kernel_rfl) (by kernel_rfl) (by kernel_rfl) (fun _ _ _ h => h) (Or.inl ⟨by rfl, ?_⟩) hSS ?_
        rotate_left
        · intro wz hSz
          go_simp
          try with_reducible rfl
        simp only [List.getElem_toArray, List.getElem_cons_zero, List.getElem_cons_succ, Act.put, List.setIfInBounds_toArray, List.set_cons_zero, List.set_cons_succ]
        refine wpAnyH_take (i := 5) (v := ?_) rfl (by kernel_rfl) (by kernel_rfl) (by kernel_rfl) (fun _ _ _ h => h) (Or.inl ⟨by rfl, ?_⟩) hSS ?_
        rotate_left
        · intro wz hSz
          go_simp
          try with_reducible rfl
        simp only [List.getElem_toArray, List.getElem_cons_zero, List.getElem_cons_succ, Act.put, List.setIfInBounds_toArray, List.set_cons_zero, List.set_cons_succ]
        refine wpAnyH_take (i := 6) (v := ?_) rfl (by kernel_rfl) (by kernel_rfl) (by kernel_rfl) (fun _ _ _ h => h) (Or.inl ⟨by rfl, ?_⟩) hSS ?_
        rotate_left
        · intro wz hSz
          obtain ⟨z0, z1, zf⟩ := hSz.1.cells
          go_simp
          try with_reducible rfl
        simp only [List.getElem_toArray, List.getElem_cons_zero, List.getElem_cons_succ, Act.put, List.setIfInBounds_toArray, List.set_cons_zero, List.set_cons_succ]
        refine wpAnyH_take (i := 7) (v := ?_) rfl (by kernel_rfl) (by kernel_rfl) (by kernel_rfl) (fun _ _ _ h => h) (Or.inl ⟨by rfl, ?_⟩) hSS ?_
        rotate_left
        · intro wz hSz
          go_simp
          try with_reducible rfl
        simp only [List.getElem_toArray, List.getElem_cons_zero, List.getElem_cons_succ, Act.put, List.setIfInBounds_toArray, List.set_cons_zero, List.set_cons_succ]
        refine wpAnyH_take (i := 8) (v := ?_) rfl (by kernel_rfl) (by kernel_rfl) (by kernel_rfl) (fun _ _ _ h => h) (Or.inl ⟨by rfl, ?_⟩) hSS ?_
        rotate_left
        · intro wz hSz
          obtain ⟨z0, z1, zf⟩ := hSz.1.cells
          go_simp
          try with_reducible rfl
        simp only [List.getElem_toArray, List.getElem_cons_zero, List.getElem_cons_succ, Act.put, List.setIfInBounds_toArray, List.set_cons_zero, List.set_cons_succ]
        refine wpAnyH_take (i := 9) (v := ?_) rfl (by kernel_rfl) (by kernel_rfl) (by kernel_rfl) (fun _ _ _ h => h) (Or.inl ⟨by rfl, ?_⟩) hSS ?_
        rotate_left
        · intro wz hSz
          go_simp
          try with_reducible rfl
        simp only [List.getElem_toArray, List.getElem_cons_zero, List.getElem_cons_succ, Act.put, List.setIfInBounds_toArray, List.set_cons_zero, List.set_cons_succ]
        refine wpAnyH_ready (rs := [10]) (by kernel_rfl) (by simp) (AllReadyH.cons rfl (fun K hK => ?_) AllReadyH.nil)
        go_simp
        go_at_call 21
        refine (CA.out _).mono ?_
        rintro e wk ⟨rfl, rfl⟩
        go_simp
        refine hK.out _ _ hSS (fun hSS => ?_)
        clear hK
        refine wpAnyH_ready (rs := [11]) (by kernel_rfl) (by simp) (AllReadyH.cons rfl (fun K hK => ?_) AllReadyH.nil)
        obtain ⟨w2, hrun2, hA2, hb2⟩ := h.drew.store hl s hs (clp (now + clp n)) (clp_range _) base hM
        refine step_update rfl (.tmp 35) (.tmp 36) (.tmp 42) _ rfl rfl hrun2 ?_
        refine hK.out _ _ ⟨hA2.1, (Below.drew (Below.refl base W)).trans hb2⟩ (fun hSS2 => ?_)
        clear hK
        refine wpAnyH_done (by kernel_rfl) ?_ _
        go_wp2_with fail
        go_ret
        exact ⟨ret_int hE.out.symm, by rw [hS.out]; exact hA2, hSS2.2⟩
end Go.Proofs.Ytjgonfaniincbaa
