/- Next and Tick: the alarm that rings first; ticks that go by. Conditions: the alarms lie in memory, at most 32. -/
import Derived.Test.YtjgonfaniincbaaCkB
import Derived.Lib.SmallJoins
namespace Go.Proofs.Ytjgonfaniincbaa
open Go.RowKit Go.Maps Go.ChangeMaps Go.WideShapes Go.WideMaps

set_option maxRecDepth 100000 in
theorem due_take {tick : Int} : ∀ {l : List (Int × ByteArray)}, l.Pairwise ltA → dueA tick l = l.take (dueA tick l).length
  | [], _ => rfl
  | x :: r, h => by
    obtain ⟨h1, h2⟩ := List.pairwise_cons.1 h
    by_cases hx : x.1 ≤ tick
    · have e : dueA tick (x :: r) = x :: dueA tick r := by simp [dueA, hx]
      rw [e, List.length_cons, List.take_succ_cons, ← due_take h2]
    · have e : dueA tick (x :: r) = [] := by
        unfold dueA
        rw [List.filter_eq_nil_iff]
        intro y hy
        rcases List.mem_cons.1 hy with rfl | hy
        · simpa using hx
        · rcases h1 y hy with g | ⟨g, -⟩
          · simp; omega
          · simp; omega
      rw [e]; rfl
set_option maxRecDepth 100000 in
theorem due_len {tick : Int} {l : List (Int × ByteArray)} : (dueA tick l).length ≤ l.length := List.length_filter_le _ _
set_option maxRecDepth 100000 in
theorem drop_del {l : List (Int × ByteArray)} (hn : (l.map Prod.snd).Nodup) {k : Nat} (hk : k < l.length) : delA l[k].2 (l.drop k) = l.drop (k + 1) := by
  have hd : l.drop k = l[k] :: l.drop (k + 1) := List.drop_eq_getElem_cons hk
  have hn' : ((l.drop k).map Prod.snd).Nodup := hn.sublist ((List.drop_sublist _ _).map _)
  rw [hd] at hn' ⊢
  have hn2 : (l[k].2 :: (l.drop (k + 1)).map Prod.snd).Nodup := hn'
  obtain ⟨h1, -⟩ := List.nodup_cons.1 hn2
  have e : delA l[k].2 (l[k] :: l.drop (k + 1)) = delA l[k].2 (l.drop (k + 1)) := List.filter_cons_of_neg (by simp)
  rw [e, delA_same]
  rw [Bool.eq_false_iff]
  intro hh
  obtain ⟨n, hm⟩ := hasA_mem hh
  exact h1 (List.mem_map.2 ⟨_, hm, rfl⟩)
set_option maxRecDepth 100000 in
theorem OkA.drop {l : List (Int × ByteArray)} (h : OkA l) (k : Nat) : OkA (l.drop k) :=
  ⟨h.1.sublist (List.drop_sublist _ _), h.2.1.sublist ((List.drop_sublist _ _).map _), fun x hx => h.2.2 x (List.mem_of_mem_drop hx)⟩
set_option maxRecDepth 100000 in
theorem due_all {l : List (Int × ByteArray)} (h : OkA l) : dueA 1152921504606846976 l = l := by
  unfold dueA
  rw [List.filter_eq_self]
  intro x hx
  have := (h.2.2 x hx).2.1
  simpa using this
/-- What Next answers. -/
def nextV : List (Int × ByteArray) → Value
  | [] => .tuple #[.string ByteArray.empty, .int .i64 0, .bool false]
  | x :: _ => .tuple #[.string x.2, .int .i64 x.1, .bool true]
set_option maxRecDepth 100000 in
theorem next_nil (W : World) : Calls Try.prog 16 #[.pointer none] W fun e w' => e = .returned (nextV []) ∧ W = w' := by
  go_enter Try.func16, Try.ntmps16
  go_wp2_with (go_at_call 22; refine (by_nil _ _).mono ?_; rintro e w' ⟨rfl, rfl⟩)
  go_ret3
  exact ⟨rfl, rfl⟩
set_option maxRecDepth 100000 in
set_option maxHeartbeats 800000 in
theorem next_any {W : World} {B Mb : Nat} {now : Int} {l : List (Int × ByteArray)} (h : AlIn W B Mb now l) (hok : OkA l) (hl : l.length ≤ 32) : Calls Try.prog 16 #[.pointer (some ⟨B, 0, none⟩)] W fun e w' => e = .returned (nextV l) ∧ Below W.heap.size W w' := by
  have CB : Hid (Calls Try.prog 22 #[.pointer (some ⟨B, 0, none⟩), .int .i64 1152921504606846976] W fun e w' => ∃ v, e = .returned v ∧ ARow w' W.heap.size v l ∧ Below W.heap.size W w') := by
    have := by_any h hok hl 1152921504606846976
    rwa [due_all hok] at this
  clear h hl hok
  go_enter Try.func16, Try.ntmps16
  go_wp2_with fail
  refine CB.out.mono ?_
  rintro e w1 ⟨v, rfl, hA, hb⟩
  clear CB
  rcases hA with ⟨rfl, p, c, rfl⟩ | ⟨g, c, hne, rfl, -, hg, hc⟩
  · go_wp2_with fail
    go_ret3
    exact ⟨rfl, hb⟩
  · cases l with
    | nil => exact absurd rfl hne
    | cons x r =>
      obtain ⟨c0, c1⟩ := hc 0 (by simp)
      simp only [List.getElem_cons_zero, Nat.zero_mul, Nat.zero_add] at c0 c1
      have hlen : ((x :: r).length : Int) = ((r.length : Nat) : Int) + 1 := by simp
      obtain ⟨xa, xs⟩ := x
      clear hc hne
      go_wp2_with fail
      go_region
      all_goals (go_wp2_with fail; go_ret3; exact ⟨rfl, hb.drew⟩)
set_option maxRecDepth 100000 in
/-- The row of names that Tick makes. -/
theorem infoN : (Try.prog.info? 9).map (fun i => (i.zero, i.size, i.bytes)) = some (some (.string ByteArray.empty), 1, 16) := by kernel_rfl
set_option maxRecDepth 100000 in
theorem AlIn.drop' {W : World} {B Mb : Nat} {now : Int} {l : List (Int × ByteArray)} (h : AlIn W B Mb now l) (s : ByteArray) (hs : s.size ≤ maxLen) (base : Nat) (hM : base ≤ Mb) (ty : TypeId) :
    ∃ w', (Builtin.delete_ #[51, 9] ty #[.map (some Mb), .string s]).run Try.prog W = .ok (.tuple #[]) w' ∧ AlIn w' B Mb now (delA s l) ∧ Below base W w' ∧ W.mapTurned w' Mb := by
  have hlt := h.2.lt
  have hA := h
  obtain ⟨-, D, hown, hv⟩ := h
  obtain ⟨w', hrun, hown', ht⟩ := hown.drop keyed Try.underlying51 (key_of hs) ty
  exact ⟨w', hrun, hA.turned ht (MapIn.mk hown' (hv.del s)), turned_below ht base hM (by omega), ht⟩
set_option maxRecDepth 100000 in
theorem step_delete {ops : Array Oper} {o : Oper} {a : Act} {w w' : World} {K : Act → World → Prop} {Q : Exit → Act → World → Prop} {E : Prop} (hgd : o.guard = none) (m x : Operand) (hop : o.op = .call { callee := .builtin .delete, args := #[m, x], argTypes := #[51, 9] }) (hd : o.dst = none) (hty : o.type = 0)
    (hrun : (Builtin.delete_ #[51, 9] 0 #[a.eval m, a.eval x]).run Try.prog w = .ok (.tuple #[]) w') (h : K a w') :
    if Region.wanted o (yielded ops a.tmps) = true then Oper.wp Try.prog o a w K Q else E := by
  refine step_plain hgd ?_
  rw [← hty] at hrun
  unfold Oper.wp
  simp [execOp, hop, resolve, invoke, builtin, hrun, Result.andThen]
  show K (a.put o.dst _) w'
  rw [hd]
  exact h
/-- The cells of a row of alarms. -/
def Shows (W : World) (g : Nat) (l : List (Int × ByteArray)) : Prop := ∀ (j : Nat) (hj : j < l.length), W.cell? ⟨g, j * 2, none⟩ = some (.int .i64 l[j].1) ∧ W.cell? ⟨g, j * 2 + 1, none⟩ = some (.string l[j].2)
set_option maxRecDepth 100000 in
theorem Shows.block {W W' : World} {g : Nat} {l : List (Int × ByteArray)} (h : Shows W g l) (hb : W'.heap[g]? = W.heap[g]?) : Shows W' g l := fun j hj => by
  obtain ⟨c0, c1⟩ := h j hj
  exact ⟨(World.cell?_of_block (a := ⟨g, j * 2, none⟩) hb).trans c0, (World.cell?_of_block (a := ⟨g, j * 2 + 1, none⟩) hb).trans c1⟩
set_option maxRecDepth 100000 in
theorem tick_none {W : World} {B : Nat} (n : Int) (hn : n < 1) : Calls Try.prog 15 #[.pointer (some ⟨B, 0, none⟩), .int .i64 n] W fun e w' => e = .returned (.slice none 0 0) ∧ W = w' := by
  go_enter Try.func15, Try.ntmps15
  go_wp2
  go_ret
  exact ⟨rfl, rfl⟩
set_option maxRecDepth 100000 in
theorem tick_nil (n : Int) (W : World) : Calls Try.prog 15 #[.pointer none, .int .i64 n] W fun e w' => e = .returned (.slice none 0 0) ∧ W = w' := by
  go_enter Try.func15, Try.ntmps15
  go_wp2
  go_ret
  exact ⟨rfl, rfl⟩
set_option maxRecDepth 100000 in
theorem names_snoc {l : List (Int × ByteArray)} {k : Nat} (hk : k < l.length) : (l.take (k + 1)).map (fun x => Value.string x.2) = (l.take k).map (fun x => Value.string x.2) ++ [.string l[k].2] := by
  rw [List.take_succ_eq_append_getElem hk, List.map_append]; rfl
set_option maxRecDepth 100000 in
set_option maxHeartbeats 3200000 in
theorem tick_any {W : World} {B Mb : Nat} {now : Int} {l : List (Int × ByteArray)} (h : AlIn W B Mb now l) (hok : OkA l) (hl : l.length ≤ 32) (hnow : 0 ≤ now ∧ now ≤ 1152921504606846976) (n : Int) (hn : 1 ≤ n) (base : Nat) (hB : base ≤ B) (hM : base ≤ Mb) :
    Calls Try.prog 15 #[.pointer (some ⟨B, 0, none⟩), .int .i64 n] W fun e w' => ∃ v, e = .returned v ∧ w'.ownsRow W.heap.size 9 1 v (dueA (clp (now + clp n)) l).length ((dueA (clp (now + clp n)) l).map (fun x => Value.string x.2)) ∧
      AlIn w' B Mb (clp (now + clp n)) (l.drop (dueA (clp (now + clp n)) l).length) ∧ Below base W w' := by
  obtain ⟨z0, z1, zf⟩ := h.cells
  have hlt := h.1.lt
  have hml := h.2.lt
  have hne := h.apart
  have CA : Hid (∀ w, Calls Try.prog 21 #[.int .i64 now, .int .i64 n] w fun e w' => e = .returned (.int .i64 (clp (now + clp n))) ∧ w = w') := fun w => by have := add_any now n w; rwa [show clp now = now by simp only [clp, brought]; omega] at this
  have hdp : Hid (dueA (clp (now + clp n)) l = l.take (dueA (clp (now + clp n)) l).length) := due_take (tick := clp (now + clp n)) hok.1
  have hdl := due_len (tick := clp (now + clp n)) (l := l)
  have hW1 : AlIn (W.setCell ⟨B, 0, none⟩ (.int .i64 (clp (now + clp n)))) B Mb (clp (now + clp n)) l :=
    ⟨heap_setCell_same _ _ 0 _ _ _ h.1, h.2.block (Below.heap_setCell _ _ _ _ (Ne.symm hne))⟩
  have hbW1 : Below base W (W.setCell ⟨B, 0, none⟩ (.int .i64 (clp (now + clp n)))) := (Below.refl _ _).setCell hB _
  have hszW1 : Hid ((W.setCell ⟨B, 0, none⟩ (.int .i64 (clp (now + clp n)))).heap.size = W.heap.size) := by show _ = _; simp
  have CB : Hid (∀ W1, AlIn W1 B Mb (clp (now + clp n)) l → Calls Try.prog 22 #[.pointer (some ⟨B, 0, none⟩), .int .i64 (clp (now + clp n))] W1 fun e w' => ∃ v, e = .returned v ∧ ARow w' W1.heap.size v (dueA (clp (now + clp n)) l) ∧ Below W1.heap.size W1 w') := fun W1 h1 => by_any h1 hok hl _
  obtain ⟨i0, hi, hz0, hz1, hz2⟩ := info_parts infoN
  generalize dueA (clp (now + clp n)) l = due at *
  generalize clp (now + clp n) = N at *
  go_enter Try.func15, Try.ntmps15
  go_wp2_with (go_at_call 21; refine (CA.out _).mono ?_; rintro e w' ⟨rfl, rfl⟩)
  refine (CB.out _ hW1).mono ?_
  rintro e w2 ⟨v, rfl, hA, hb2⟩
  have hA2 : AlIn w2 B Mb N l := hW1.below hb2
  have hbw2 : Below base W w2 := hbW1.trans (hb2.mono (by rw [hszW1.out]; omega))
  have hsz2 : W.heap.size ≤ w2.heap.size := by have := hb2.size; rw [hszW1.out] at this; exact this
  rw [hszW1.out] at hA
  clear CA CB hW1 hbW1 hszW1 hb2 z0 z1 zf h
  rcases hA with ⟨rfl, p, c, rfl⟩ | ⟨g, c, hne2, rfl, hgW, hg, hc⟩
  · go_wp2_with fail
    refine wp_loop_rounds 1 ?_
    rw [rounds_succ]
    go_wp2_with fail
    go_ret
    exact ⟨_, rfl, World.ownsRow_nil _ _ _ _, hA2, hbw2⟩
  · have hSh : Shows w2 g due := hc
    have hdl32 : due.length ≤ 32 := by omega
    clear hc hne2
    go_wp2_with fail
    go_loopw [5, 30] (fun s5 si wr => ∃ k : Nat, k ≤ due.length ∧ si = .int .i64 (k : Int) ∧ wr.ownsRow w2.heap.size 9 1 s5 k ((due.take k).map (fun x => Value.string x.2)) ∧ AlIn wr B Mb N (l.drop k) ∧ Shows wr g due ∧ Below base W wr ∧ w2.heap.size ≤ wr.heap.size) (fun _ si _ => due.length - (intOf si).toNat)
    case atStart => exact ⟨0, by omega, rfl, World.ownsRow_nil _ _ _ _, hA2, hSh, hbw2, Nat.le_refl _⟩
    case round =>
      clear hA2 hSh hbw2
      obtain ⟨k, hk, rfl, hrow, hAl, hSh, hbel, hsz⟩ := hrel
      by_cases hlt : k < due.length
      · obtain ⟨y0, y1⟩ := hSh k hlt
        have hkl : k < l.length := by omega
        have hdk : due[k] = l[k] := by
          have : due[k]? = l[k]? := by
            have h5 := List.getElem?_take_of_lt (l := l) hlt
            rwa [← hdp.out] at h5
          simpa [hlt, hkl] using this
        have hdel := drop_del hok.2.1 hkl
        have hns := names_snoc (l := due) hlt
        have hnm : due[k].2.size ≤ maxLen := by rw [hdk]; exact (hok.2.2 _ (List.getElem_mem hkl)).2.2
        rw [← hdk] at hdel
        have hmlr := hAl.2.lt
        have hltr := hAl.1.lt
        generalize due[k] = d at *
        obtain ⟨at_, nm⟩ := d
        simp only at y0 y1 hdel hnm hns
        clear hdk
        have hgM : g ≠ Mb := by omega
        have hgr : g < wr.heap.size := by omega
        have hMr : Mb < w2.heap.size := by omega
        have hA3 : AlIn (wr.alloc (.cells #[.int .i64 at_, .string nm] 57)).drew B Mb N (l.drop k) := (hAl.below ((Below.refl _ _).alloc (Nat.le_refl _) _)).drew
        have hX := heap_alloc_new wr (.cells #[.int .i64 at_, .string nm] 57)
        have hrow3 := (hrow.alloc (.cells #[.int .i64 at_, .string nm] 57)).drew
        have hSh3 : Shows (wr.alloc (.cells #[.int .i64 at_, .string nm] 57)).drew g due := hSh.block (Below.heap_alloc _ _ _ hgr)
        have hbel3 : Below base W (wr.alloc (.cells #[.int .i64 at_, .string nm] 57)).drew := Below.drew (hbel.alloc (by have := hbel.size; omega) _)
        have hsz3 : wr.heap.size < (wr.alloc (.cells #[.int .i64 at_, .string nm] 57)).heap.size := by simp
        have hXM : wr.heap.size ≠ Mb := by omega
        go_upto_region 8 with fail
        clear hrow hSh hAl hbel y0 y1
        generalize wr.alloc (.cells #[.int .i64 at_, .string nm] 57) = W3 at *
        generalize wr.heap.size = X at *
        refine wp_region_held_drew (S := fun w' => BoxA w' B Mb N ∧ w'.heap[X]? = some (.cells #[.int .i64 at_, .string nm] 57)) (by kernel_rfl) ⟨hA3.1, hX⟩ (fun hSS => ?_)
        refine wpAnyH_take (i := 0) (v := ?_) rfl (by kernel_rfl) (by kernel_rfl) (by kernel_rfl) (fun _ _ _ h => h) (Or.inl ⟨by rfl, ?_⟩) hSS ?_
        rotate_left
        · intro wz hSz
          go_simp
          try with_reducible rfl
        simp only [List.getElem_toArray, List.getElem_cons_zero, Act.put, List.setIfInBounds_toArray, List.set_cons_zero, List.set_cons_succ]
        refine wpAnyH_take (i := 1) (v := ?_) rfl (by kernel_rfl) (by kernel_rfl) (by kernel_rfl) (fun _ _ _ h => h) (Or.inl ⟨by rfl, ?_⟩) hSS ?_
        rotate_left
        · intro wz hSz
          obtain ⟨z0, z1, zf⟩ := hSz.1.cells; have z7 := cell_of_row _ _ 1 _ _ _ hSz.2
          go_simp
          try with_reducible rfl
        simp only [List.getElem_toArray, List.getElem_cons_zero, List.getElem_cons_succ, Act.put, List.setIfInBounds_toArray, List.set_cons_zero, List.set_cons_succ]
        refine wpAnyH_take (i := 2) (v := ?_) rfl (by kernel_rfl) (by kernel_rfl) (by kernel_rfl) (fun _ _ _ h => h) (Or.inl ⟨by rfl, ?_⟩) hSS ?_
        rotate_left
        · intro wz hSz
          go_simp
          try with_reducible rfl
        simp only [List.getElem_toArray, List.getElem_cons_zero, List.getElem_cons_succ, Act.put, List.setIfInBounds_toArray, List.set_cons_zero, List.set_cons_succ]
        refine wpAnyH_take (i := 3) (v := ?_) rfl (by kernel_rfl) (by kernel_rfl) (by kernel_rfl) (fun _ _ _ h => h) (Or.inl ⟨by rfl, ?_⟩) hSS ?_
        rotate_left
        · intro wz hSz
          obtain ⟨z0, z1, zf⟩ := hSz.1.cells; have z7 := cell_of_row _ _ 1 _ _ _ hSz.2
          go_simp
          try with_reducible rfl
        simp only [List.getElem_toArray, List.getElem_cons_zero, List.getElem_cons_succ, Act.put, List.setIfInBounds_toArray, List.set_cons_zero, List.set_cons_succ]
        refine wpAnyH_take (i := 4) (v := ?_) rfl (by kernel_rfl) (by kernel_rfl) (by kernel_rfl) (fun _ _ _ h => h) (Or.inl ⟨by rfl, ?_⟩) hSS ?_
        rotate_left
        · intro wz hSz
          go_simp
          try with_reducible rfl
        simp only [List.getElem_toArray, List.getElem_cons_zero, List.getElem_cons_succ, Act.put, List.setIfInBounds_toArray, List.set_cons_zero, List.set_cons_succ]
        refine wpAnyH_take (i := 5) (v := ?_) rfl (by kernel_rfl) (by kernel_rfl) (by kernel_rfl) (fun _ _ _ h => h) (Or.inl ⟨by rfl, ?_⟩) hSS ?_
        rotate_left
        · intro wz hSz
          obtain ⟨z0, z1, zf⟩ := hSz.1.cells; have z7 := cell_of_row _ _ 1 _ _ _ hSz.2
          go_simp
          try with_reducible rfl
        simp only [List.getElem_toArray, List.getElem_cons_zero, List.getElem_cons_succ, Act.put, List.setIfInBounds_toArray, List.set_cons_zero, List.set_cons_succ]
        refine wpAnyH_ready (rs := [6]) (by kernel_rfl) (by simp) (AllReadyH.cons rfl (fun K hK => ?_) AllReadyH.nil)
        obtain ⟨w4, hrun4, hA4, hb4, ht4⟩ := hA3.drop' nm hnm base hM 0
        refine step_delete rfl (.tmp 37) (.tmp 39) rfl rfl rfl hrun4 ?_
        refine hK.out _ _ ⟨hA4.1, (turned_block ht4 (by omega) (by have := (Array.getElem?_eq_some_iff.1 hSS.2).1; omega)).trans hSS.2⟩ (fun hSS4 => ?_)
        clear hK
        refine wpAnyH_done (by kernel_rfl) ?_ _
        have hrow4 := hrow3.kept ht4.grown (Or.inr (fun e => row_ne_low hrow3 hMr e.symm))
        have hSh4 : Shows w4 g due := hSh3.block (turned_block ht4 hgM (by show g < W3.heap.size; omega))
        have hbel4 := hbel3.trans hb4
        have hsz4 : X < w4.heap.size := (Array.getElem?_eq_some_iff.1 hSS4.2).1
        have z0 := cell_of_row _ _ 0 _ _ _ hSS4.2
        have z1 := cell_of_row _ _ 1 _ _ _ hSS4.2
        have hrow5 := hrow4.alloc (.cells #[.string nm] 9)
        rw [hdel] at hA4
        clear hA3 hX hrow3 hSh3 hbel3 hSS hSS4 ht4 hb4 hrun4
        go_wp2_with (at_builtin; go_must (refine wpList_append_own_at _ rfl (.tmp 40) (.tmp 43) 38 rfl w2.heap.size 9 i0 _ 1 16 Try.underlying38 hi hz0 hz1 hz2 rfl (by decide) _ _ _ rfl hrow5 ⟨w4.heap.size, 0, none⟩ 1 1 [.string nm] rfl rfl ?c1 ?c2 (by unfold maxLen; omega) (by omega) (by simp; omega) ?_))
        case c1 =>
          intro j u hj
          match j, hj with
          | 0, hj => simp at hj; subst hj; simp [Addr.add]
          | j + 1, hj => simp at hj
        case c2 =>
          intro u hu
          simp only [List.mem_singleton] at hu
          subst hu; rfl
        intro v6 w6 hown6 hgrow6 _ hat6
        rw [← List.map_take, ← hns] at hown6
        have hkeep : ∀ i, i < w2.heap.size → w6.heap[i]? = w4.heap[i]? := fun i hi' => by
          have h7 := hgrow6.block i (by simp; omega) (fun e => by have := (hrow5.lt i e.symm).1; omega)
          rw [h7, Below.heap_alloc _ _ _ (by omega)]
        have hA6 : AlIn w6 B Mb N (l.drop (k + 1)) := ⟨(hkeep B (by omega)).trans hA4.1, hA4.2.block (hkeep Mb hMr)⟩
        have hSh6 : Shows w6 g due := hSh4.block (hkeep g hg)
        have hbel6 : Below base W w6 := (hbel4.alloc (by have := hbel4.size; omega) _).grown hgrow6 (by have := hbel4.size; simp; omega) (fun q hq => by have := (hrow5.lt q hq).1; omega)
        have hsz6 : w2.heap.size ≤ w6.heap.size := by have := hgrow6.size; simp at this; omega
        clear hrow5 hrow4 hgrow6 hat6 hbel4 hA4 hSh4 hkeep
        go_wp2
        go_roundw
        case rel => exact ⟨k + 1, by omega, by go_num, by simpa using hown6, hA6, hSh6, hbel6, hsz6⟩
        case measure => simp [intOf]; omega
      · have hk2 : k = due.length := by omega
        subst hk2
        rw [List.take_length] at hrow
        go_wp2_with fail
        go_ret
        exact ⟨_, rfl, Joins.ownsRow_le hrow hsz2, hAl, hbel⟩
end Go.Proofs.Ytjgonfaniincbaa
