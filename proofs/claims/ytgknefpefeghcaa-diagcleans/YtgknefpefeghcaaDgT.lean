/- DiagCleans. No conditions. -/
import Derived.Test.YtgknefpefeghcaaDgS
namespace Go.Proofs.Ytgknefpefeghcaa
open Go.RowKit Go.ChangeShapes Go.WideShapes Go.ChangeAt

def zN : Obj := .cells #[.bool false, .string ByteArray.empty] 31
def setN (W : World) (B : Nat) (x : Bool) (y : ByteArray) : World := (W.setCell ⟨B, 0, none⟩ (.bool x)).setCell ⟨B, 1, none⟩ (.string y)
set_option maxRecDepth 100000 in
theorem setN_same {W : World} {B : Nat} (h : W.heap[B]? = some zN) (x : Bool) (y : ByteArray) : (setN W B x y).heap[B]? = some (.cells #[.bool x, .string y] 31) :=
  heap_setCell_same _ _ 1 _ _ _ (heap_setCell_same _ _ 0 _ _ _ h)
set_option maxRecDepth 100000 in
theorem setN_below {n : Nat} {w W : World} (hb : Below n w W) {B : Nat} (h : n ≤ B) (x : Bool) (y : ByteArray) : Below n w (setN W B x y) := (hb.setCell h _).setCell h _
set_option maxRecDepth 100000 in
theorem sizeN : (Try.prog.info? 31).map (fun i => i.size) = some 2 := by kernel_rfl
set_option maxRecDepth 100000 in
/-- A whole note, stored into an empty box, at a step of a region that draws its order. -/
theorem step_setN {ops : Array Oper} {o : Oper} {a : Act} {W : World} {K : Act → World → Prop} {Q : Exit → Act → World → Prop} {E : Prop} (hgd : o.guard = none) (x y : Operand) (ho : o.op = .store 31 x y) (hd : o.dst = none)
    {B : Nat} {b : Bool} {c : ByteArray} (hx : a.eval x = .pointer (some ⟨B, 0, none⟩)) (hy : a.eval y = .agg #[.bool b, .string c]) (hz : W.heap[B]? = some zN) (h : K a (setN W B b c)) :
    if Region.wanted o (yielded ops a.tmps) = true then Oper.wp Try.prog o a W K Q else E := by
  refine step_plain hgd ?_
  refine wp_store_mid 31 x y ho B 0 #[.bool b, .string c] hx hy ?_ sizeN (by simp [Value.oneCell']) ?_
  · intro j hj
    rw [Nat.zero_add]
    refine ⟨?_, frozen_of_row _ _ _ _ _ hz⟩
    rw [cell_of_row _ _ _ _ _ _ hz]
    have : j < 2 := hj
    match j, this with
    | 0, _ => rfl
    | 1, _ => rfl
  · rw [hd]
    exact h
set_option maxRecDepth 100000 in
set_option maxHeartbeats 3200000 in
theorem cleans_walk13 (a : Option Addr) (l : List (Bool × ByteArray)) (ca : Nat) (p : Option Addr) (s : List ByteArray) (cp : Nat) (W : World) (h : NotesArg W a l.length ca l) (hs : StrsArg W p s.length cp s) :
    Calls Try.prog 4 #[.slice a l.length ca, .slice p s.length cp] W fun e w' => e = .returned (.bool true) ∧ Below W.heap.size W w' := by
  have hin := h.hin
  have hsin := hs.hin
  have hlm : l.length ≤ 9223372036854775807 := by
    have h1 := h.hin.hcap
    have h2 := h.hmax
    unfold maxLen at h2
    omega
  have hsm : s.length ≤ 9223372036854775807 := by
    have h1 := hs.hin.hcap
    have h2 := hs.hcap
    unfold maxLen at h2
    omega
  clear h hs
  have CA : Hid (∀ W, Calls Try.prog 14 #[] W fun e w' => e = .returned (.bool true) ∧ Below W.heap.size W w') := awake13_any
  have CG : Hid (Calls Try.prog 13 #[.slice a l.length ca, .slice p s.length cp] W fun e w' => GreatTells e l s ∧ W = w') := great_any hin hsin hlm hsm
  go_enter Try.func4, Try.ntmps4
  go_wp2_with fail
  refine CG.out.mono ?_
  rintro e w0 ⟨⟨g, rfl, hg⟩, rfl⟩
  clear CG
  cases g with
  | true =>
    clear hg
    go_wp2_with fail
    refine (CA.out _).mono ?_
    rintro e w1 ⟨rfl, hb⟩
    go_wp2_with fail
    go_ret
    exact ⟨rfl, hb⟩
  | false =>
    obtain ⟨h3, h100, hl, hsl⟩ := hg rfl
    clear hg hlm hsm
    have h3 : Hid (∀ x ∈ l, x.2.size ≤ 300) := h3
    have h100 : Hid (∀ x ∈ s, x.size ≤ 100) := h100
    go_wp2_with fail
    refine (CA.out _).mono ?_
    rintro e w1 ⟨rfl, hb1⟩
    clear CA
    go_wp2_with fail
    go_loopw [5, 6, 7] (fun s5 s6 s7 wr => ∃ (i : Nat) (fl : Bool) (out : List (Bool × ByteArray)) (SV : Value), SV = s5 ∧ s6 = .bool fl ∧ i ≤ l.length ∧ s7 = .int .i64 (i : Int) ∧ out.length ≤ 8 ∧ Hid (wantGo s (l.drop i) out = wantGo s l []) ∧ Hid (fl = true ↔ ∃ x ∈ l.take i, x.1 = true) ∧ wr.ownsRow W.heap.size 31 2 SV out.length (flatQ out) ∧ Below W.heap.size W wr) (fun _ _ s7 _ => l.length - (intOf s7).toNat)
    case atStart => exact ⟨0, false, [], _, rfl, rfl, by omega, rfl, by simp, rfl, (by show _ ↔ _; simp), World.ownsRow_nil _ _ _ _, hb1⟩
    case round =>
      clear hb1
      obtain ⟨i, fl, out, SV, rfl, rfl, hi, rfl, ho8, hgo, hfl, hrow, hb⟩ := hrel
      have hcin := hin.below hb
      by_cases hlt : i < l.length
      · obtain ⟨b, off, rfl, c0, c1, hbl⟩ := note_cells hcin hlt
        have hsz := h3.out _ (List.getElem_mem hlt)
        have hdr : l.drop i = l[i] :: l.drop (i + 1) := List.drop_eq_getElem_cons hlt
        have htk : l.take (i + 1) = l.take i ++ [l[i]] := List.take_succ_eq_append_getElem hlt
        rw [hdr] at hgo
        clear hdr
        generalize l[i] = n at *
        obtain ⟨nb, ns⟩ := n
        simp only at c0 c1 hsz
        have hfl2 : Hid ((fl || nb) = true ↔ ∃ x ∈ l.take (i + 1), x.1 = true) := by
          show _ ↔ _
          rw [htk, Bool.or_eq_true, hfl.out]
          simp
        clear hfl htk
        obtain ⟨a5, c5, rfl⟩ := row_slice hrow
        have CL : Hid (∀ w', Below W.heap.size W w' → Calls Try.prog 15 #[.string ns, .slice p s.length cp] w' fun e w'' => e = .returned (.string (textD s ns)) ∧ Below w'.heap.size w' w'') := fun w' hb' => lclean_any ns (hsin.below hb') hsz hsl h100.out
        have hbd0 : Below wr.heap.size wr wr.drew := Below.drew (Below.refl _ _)
        have hbd : Below W.heap.size W wr.drew := hb.drew
        go_upto_region 8 with fail
        go_cut [6] from 27 to 34 (fun s6 wy => s6 = .bool (fl || nb) ∧ wy = wr)
        case first =>
          cases fl with
          | true =>
            go_wp2_with fail
            go_meet
            exact ⟨rfl, rfl⟩
          | false =>
            go_wp2_with fail
            go_meet
            exact ⟨rfl, rfl⟩
        case rest =>
          obtain ⟨rfl, ew⟩ := hcut
          have ew := ew.symm
          subst ew
          go_upto_region 9 with fail
          go_cut [8] from 35 to 47 (fun s8 wy => ∃ X : Nat, s8 = .pointer (some ⟨X, 0, none⟩) ∧ wr.heap.size ≤ X ∧ wy.heap[X]? = some (.cells #[.bool nb, .string (textD s ns)] 31) ∧ Below wr.heap.size wr wy)
          case first =>
            refine wp_region_held_drew (S := fun wz => wz.cell? ⟨b, off + i * 2, none⟩ = some (.bool nb) ∧ wz.cell? ⟨b, off + i * 2 + 1, none⟩ = some (.string ns)) (by kernel_rfl) ⟨c0, c1⟩ (fun hSS => ?_)
            refine wpAnyH_take (i := 0) (v := ?_) rfl (by kernel_rfl) (by kernel_rfl) (by kernel_rfl) (fun _ _ _ h => h) (Or.inl ⟨by rfl, ?_⟩) hSS ?_
            rotate_left
            · intro wz hSz
              go_simp
              try with_reducible rfl
            simp only [List.getElem_toArray, List.getElem_cons_zero, Act.put, List.setIfInBounds_toArray, List.set_cons_zero, List.set_cons_succ]
            refine wpAnyH_take (i := 1) (v := ?_) rfl (by kernel_rfl) (by kernel_rfl) (by kernel_rfl) (fun _ _ _ h => h) (Or.inl ⟨by rfl, ?_⟩) hSS ?_
            rotate_left
            · intro wz hSz
              go_simp
              try with_reducible rfl
            simp only [List.getElem_toArray, List.getElem_cons_zero, List.getElem_cons_succ, Act.put, List.setIfInBounds_toArray, List.set_cons_zero, List.set_cons_succ]
            refine wpAnyH_take (i := 2) (v := ?_) rfl (by kernel_rfl) (by kernel_rfl) (by kernel_rfl) (fun _ _ _ h => h) (Or.inl ⟨by rfl, ?_⟩) hSS ?_
            rotate_left
            · intro wz hSz
              have y0 := hSz.1; have y1 := hSz.2
              go_simp
              try with_reducible rfl
            simp only [List.getElem_toArray, List.getElem_cons_zero, List.getElem_cons_succ, Act.put, List.setIfInBounds_toArray, List.set_cons_zero, List.set_cons_succ]
            refine wpAnyH_take (i := 3) (v := ?_) rfl (by kernel_rfl) (by kernel_rfl) (by kernel_rfl) (fun _ _ _ h => h) (Or.inl ⟨by rfl, ?_⟩) hSS ?_
            rotate_left
            · intro wz hSz
              go_simp
              try with_reducible rfl
            simp only [List.getElem_toArray, List.getElem_cons_zero, List.getElem_cons_succ, Act.put, List.setIfInBounds_toArray, List.set_cons_zero, List.set_cons_succ]
            refine wpAnyH_take (i := 4) (v := ?_) rfl (by kernel_rfl) (by kernel_rfl) (by kernel_rfl) (fun _ _ _ h => h) (Or.inl ⟨by rfl, ?_⟩) hSS ?_
            rotate_left
            · intro wz hSz
              have y0 := hSz.1; have y1 := hSz.2
              go_simp
              try with_reducible rfl
            simp only [List.getElem_toArray, List.getElem_cons_zero, List.getElem_cons_succ, Act.put, List.setIfInBounds_toArray, List.set_cons_zero, List.set_cons_succ]
            refine wpAnyH_take (i := 5) (v := ?_) rfl (by kernel_rfl) (by kernel_rfl) (by kernel_rfl) (fun _ _ _ h => h) (Or.inl ⟨by rfl, ?_⟩) hSS ?_
            rotate_left
            · intro wz hSz
              go_simp
              try with_reducible rfl
            simp only [List.getElem_toArray, List.getElem_cons_zero, List.getElem_cons_succ, Act.put, List.setIfInBounds_toArray, List.set_cons_zero, List.set_cons_succ]
            refine wpAnyH_take (i := 6) (v := ?_) rfl (by kernel_rfl) (by kernel_rfl) (by kernel_rfl) (fun _ _ _ h => h) (Or.inl ⟨by rfl, ?_⟩) hSS ?_
            rotate_left
            · intro wz hSz
              go_simp
              try with_reducible rfl
            simp only [List.getElem_toArray, List.getElem_cons_zero, List.getElem_cons_succ, Act.put, List.setIfInBounds_toArray, List.set_cons_zero, List.set_cons_succ]
            refine wpAnyH_take (i := 7) (v := ?_) rfl (by kernel_rfl) (by kernel_rfl) (by kernel_rfl) (fun _ _ _ h => h) (Or.inl ⟨by rfl, ?_⟩) hSS ?_
            rotate_left
            · intro wz hSz
              have y0 := hSz.1; have y1 := hSz.2
              go_simp
              try with_reducible rfl
            simp only [List.getElem_toArray, List.getElem_cons_zero, List.getElem_cons_succ, Act.put, List.setIfInBounds_toArray, List.set_cons_zero, List.set_cons_succ]
            refine wpAnyH_take (i := 8) (v := ?_) rfl (by kernel_rfl) (by kernel_rfl) (by kernel_rfl) (fun _ _ _ h => h) (Or.inl ⟨by rfl, ?_⟩) hSS ?_
            rotate_left
            · intro wz hSz
              go_simp
              try with_reducible rfl
            simp only [List.getElem_toArray, List.getElem_cons_zero, List.getElem_cons_succ, Act.put, List.setIfInBounds_toArray, List.set_cons_zero, List.set_cons_succ]
            refine wpAnyH_take (i := 9) (v := ?_) rfl (by kernel_rfl) (by kernel_rfl) (by kernel_rfl) (fun _ _ _ h => h) (Or.inl ⟨by rfl, ?_⟩) hSS ?_
            rotate_left
            · intro wz hSz
              have y0 := hSz.1; have y1 := hSz.2
              go_simp
              try with_reducible rfl
            simp only [List.getElem_toArray, List.getElem_cons_zero, List.getElem_cons_succ, Act.put, List.setIfInBounds_toArray, List.set_cons_zero, List.set_cons_succ]
            refine wpAnyH_take (i := 10) (v := ?_) rfl (by kernel_rfl) (by kernel_rfl) (by kernel_rfl) (fun _ _ _ h => h) (Or.inl ⟨by rfl, ?_⟩) hSS ?_
            rotate_left
            · intro wz hSz
              go_simp
              try with_reducible rfl
            simp only [List.getElem_toArray, List.getElem_cons_zero, List.getElem_cons_succ, Act.put, List.setIfInBounds_toArray, List.set_cons_zero, List.set_cons_succ]
            refine wpAnyH_ready (rs := [11, 13]) (by kernel_rfl) (by simp) (AllReadyH.cons rfl (fun K hK => ?_) (AllReadyH.cons rfl (fun K hK => ?_) AllReadyH.nil))
            · skip
              go_simp
              go_at_call 15
              refine (CL.out _ (by exact hbd)).mono ?_
              rintro e w4 ⟨rfl, hb4⟩
              go_simp
              have k0 := (hb4.cell (p := ⟨b, off + i * 2, none⟩) (hbl)).trans c0
              have k1 := (hb4.cell (p := ⟨b, off + i * 2 + 1, none⟩) (hbl)).trans c1
              refine hK.out _ _ ⟨k0, k1⟩ (fun hSS => ?_)
              clear hK
              have hb5 : Below wr.heap.size wr w4 := hbd0.trans (hb4.mono hbd0.size)
              refine wpAnyH_take (i := 12) (v := ?_) rfl (by kernel_rfl) (by kernel_rfl) (by kernel_rfl) (fun _ _ _ h => h) (Or.inl ⟨by rfl, ?_⟩) hSS ?_
              rotate_left
              · intro wz hSz
                go_simp
                try with_reducible rfl
              simp only [List.getElem_toArray, List.getElem_cons_zero, List.getElem_cons_succ, Act.put, List.setIfInBounds_toArray, List.set_cons_zero, List.set_cons_succ]
              refine wpAnyH_ready (rs := [13]) (by kernel_rfl) (by simp) (AllReadyH.cons rfl (fun K hK => ?_) AllReadyH.nil)
              go_simp
              have hbA := (Below.refl w4.heap.size w4).alloc (Nat.le_refl _) (.cells #[.bool false, .string ByteArray.empty] 31)
              have j0 := (hbA.cell (p := ⟨b, off + i * 2, none⟩) (World.block_lt_of_cell? _ _ k0)).trans k0
              have j1 := (hbA.cell (p := ⟨b, off + i * 2 + 1, none⟩) (World.block_lt_of_cell? _ _ k1)).trans k1
              refine hK.out _ _ ⟨j0, j1⟩ (fun hSS => ?_)
              clear hK
              have hXq := heap_alloc_new w4 (.cells #[.bool false, .string ByteArray.empty] 31)
              have hX4 := hXq
              have hb5 := hb5.trans (hbA.mono hb5.size)
              refine wpAnyH_ready (rs := [14]) (by kernel_rfl) (by simp) (AllReadyH.cons rfl (fun K hK => ?_) AllReadyH.nil)
              have hXw : wr.heap.size ≤ w4.heap.size := hb4.size
              have hb6 := setN_below hb5 hXw nb (textD s ns)
              have hXs := setN_same hX4 nb (textD s ns)
              refine step_setN rfl (.tmp 8) (.tmp 47) rfl rfl rfl rfl hX4 ?_
              refine hK.out _ _ ⟨(hb6.cell (p := ⟨b, off + i * 2, none⟩) hbl).trans c0, (hb6.cell (p := ⟨b, off + i * 2 + 1, none⟩) hbl).trans c1⟩ (fun hSS => ?_)
              clear hK
              refine wpAnyH_done (by kernel_rfl) ?_ _
              go_wp2_with fail
              go_meet
              exact ⟨_, rfl, hXw, hXs, hb6⟩
            · skip
              go_simp
              have hbA := (Below.refl wr.drew.heap.size wr.drew).alloc (Nat.le_refl _) (.cells #[.bool false, .string ByteArray.empty] 31)
              have j0 := (hbA.cell (p := ⟨b, off + i * 2, none⟩) (hbl)).trans c0
              have j1 := (hbA.cell (p := ⟨b, off + i * 2 + 1, none⟩) (hbl)).trans c1
              refine hK.out _ _ ⟨j0, j1⟩ (fun hSS => ?_)
              clear hK
              have hXq := heap_alloc_new wr.drew (.cells #[.bool false, .string ByteArray.empty] 31)
              have hbq0 := hbd0.trans (hbA.mono (Nat.le_refl _))
              have hbq := hb.trans (hbq0.mono hb.size)
              have hblq := World.block_lt_of_cell? _ _ j0
              have hXl := (Array.getElem?_eq_some_iff.1 hXq).1
              refine wpAnyH_ready (rs := [11]) (by kernel_rfl) (by simp) (AllReadyH.cons rfl (fun K hK => ?_) AllReadyH.nil)
              go_simp
              go_at_call 15
              refine (CL.out _ (by exact hbq)).mono ?_
              rintro e w4 ⟨rfl, hb4⟩
              go_simp
              have k0 := (hb4.cell (p := ⟨b, off + i * 2, none⟩) (hblq)).trans j0
              have k1 := (hb4.cell (p := ⟨b, off + i * 2 + 1, none⟩) (hblq)).trans j1
              refine hK.out _ _ ⟨k0, k1⟩ (fun hSS => ?_)
              clear hK
              have hX4 := (hb4.block _ hXl).trans hXq
              have hb5 := hbq0.trans (hb4.mono hbq0.size)
              refine wpAnyH_take (i := 12) (v := ?_) rfl (by kernel_rfl) (by kernel_rfl) (by kernel_rfl) (fun _ _ _ h => h) (Or.inl ⟨by rfl, ?_⟩) hSS ?_
              rotate_left
              · intro wz hSz
                go_simp
                try with_reducible rfl
              simp only [List.getElem_toArray, List.getElem_cons_zero, List.getElem_cons_succ, Act.put, List.setIfInBounds_toArray, List.set_cons_zero, List.set_cons_succ]
              refine wpAnyH_ready (rs := [14]) (by kernel_rfl) (by simp) (AllReadyH.cons rfl (fun K hK => ?_) AllReadyH.nil)
              have hXw : wr.heap.size ≤ wr.drew.heap.size := Nat.le_refl _
              have hb6 := setN_below hb5 hXw nb (textD s ns)
              have hXs := setN_same hX4 nb (textD s ns)
              refine step_setN rfl (.tmp 8) (.tmp 47) rfl rfl rfl rfl hX4 ?_
              refine hK.out _ _ ⟨(hb6.cell (p := ⟨b, off + i * 2, none⟩) hbl).trans c0, (hb6.cell (p := ⟨b, off + i * 2 + 1, none⟩) hbl).trans c1⟩ (fun hSS => ?_)
              clear hK
              refine wpAnyH_done (by kernel_rfl) ?_ _
              go_wp2_with fail
              go_meet
              exact ⟨_, rfl, hXw, hXs, hb6⟩

          case rest =>
            obtain ⟨X, rfl, hXw, hX, hb9⟩ := hcut
            have hrow9 := nrow_below hrow (hb9)
            have hown : ∀ q, (Value.slice a5 out.length c5).ownBlock = some q → q < X := fun q hq => by have := (hrow.lt q hq).2; omega
            have hbb9 := hb.trans (hb9.mono hb.size)
            have hgo : Hid (wantGo s (l.drop (i + 1)) (if (textD s ns).size ≠ 0 ∧ out.length < 8 ∧ memN (nb, textD s ns) out = false then out ++ [(nb, textD s ns)] else out) = wantGo s l []) := hgo
            clear hrow hb hb9 hcin c0 c1 hbl CL hbd hbd0
            generalize textD s ns = y at *
            have z0 := cell_of_row _ _ 0 _ _ _ hX
            have z1 := cell_of_row _ _ 1 _ _ _ hX
            have hXl := (Array.getElem?_eq_some_iff.1 hX).1
            obtain ⟨f0, hf0⟩ : ∃ f0 : Bool, Hid (f0 = true ↔ (y.size ≠ 0 ∧ out.length < 8)) := ⟨decide (y.size ≠ 0 ∧ out.length < 8), decide_eq_true_iff⟩
            go_upto_region 10 with fail
            go_cut [9] from 48 to 55 (fun s9 wy => s9 = .bool f0 ∧ wy = wc)
            case first =>
              have hbe0 : y.size ≠ 0 → y.toList.isEmpty = false := fun hem => List.isEmpty_eq_false_iff.2 fun e => by
                rw [ByteArray.toList_eq] at e
                have e2 := congrArg List.length e
                rw [Array.length_toList] at e2
                exact hem e2
              cases f0 with
              | true =>
                obtain ⟨hy, h8⟩ := hf0.out.1 rfl
                have hbe := hbe0 hy
                have h8i : ((out.length : Nat) : Int) < 8 := by omega
                clear hbe0
                go_wp2_with fail
                go_meet
                exact ⟨rfl, rfl⟩
              | false =>
                by_cases he : y.size = 0
                · clear hbe0
                  obtain rfl : y = ⟨#[]⟩ := by
                    apply ByteArray.ext
                    exact Array.eq_empty_of_size_eq_zero he
                  go_wp2_with fail
                  go_meet
                  exact ⟨rfl, rfl⟩
                · have hbe := hbe0 he
                  have h8i : ¬ ((out.length : Nat) : Int) < 8 := fun h => by have := hf0.out.2 ⟨he, by omega⟩; cases this
                  clear hbe0
                  go_wp2_with fail
                  go_meet
                  exact ⟨by simp, rfl⟩
            case rest =>
              obtain ⟨rfl, ew⟩ := hcut
              have ew := ew.symm
              subst ew
              clear z0 z1
              go_wp2_with fail
              go_loopw [9, 10] (fun s9 s10 wv => ∃ (k : Nat) (fr : Bool), k ≤ out.length ∧ s9 = .bool fr ∧ s10 = .int .i64 (k : Int) ∧ Hid (fr = true ↔ f0 = true ∧ (nb, y) ∉ out.take k) ∧ Below wc.heap.size wc wv) (fun _ s10 _ => out.length - (intOf s10).toNat)
              case atStart => exact ⟨0, f0, by omega, rfl, rfl, (by show _ ↔ _; simp), Below.refl _ _⟩
              case round =>
                obtain ⟨k, fr, hk, rfl, rfl, hfr, hbv⟩ := hrel
                have hXv := (hbv.block _ hXl).trans hX
                have hrowv := nrow_below hrow9 hbv
                have hbbv := hbb9.trans (hbv.mono hbb9.size)
                by_cases hkl : k < out.length
                · obtain ⟨g, og, rfl, e0, e1, hgl⟩ := note_cells (row_notes hrowv rfl) hkl
                  have hbv2 := hbv.drew
                  have hXlv := (Array.getElem?_eq_some_iff.1 hXv).1
                  have htk : out.take (k + 1) = out.take k ++ [out[k]] := List.take_succ_eq_append_getElem hkl
                  go_upto_region 14 with fail
                  cases fr with
                  | false =>
                    have hfr2 : Hid (false = true ↔ f0 = true ∧ (nb, y) ∉ out.take (k + 1)) := ⟨fun h => (by cases h), fun ⟨h1, h2⟩ => hfr.out.2 ⟨h1, fun hm => h2 (by rw [htk]; exact List.mem_append_left _ hm)⟩⟩
                    clear hfr
                    refine wp_region_held_drew (S := fun _ => True) (by kernel_rfl) trivial (fun hSS => ?_)
                    refine wpAnyH_take (i := 0) (v := ?_) rfl (by kernel_rfl) (by kernel_rfl) (by kernel_rfl) (fun _ _ _ h => h) (Or.inl ⟨by rfl, ?_⟩) hSS ?_
                    rotate_left
                    · intro wz hSz
                      go_simp
                      try with_reducible rfl
                    simp only [List.getElem_toArray, List.getElem_cons_zero, Act.put, List.setIfInBounds_toArray, List.set_cons_zero, List.set_cons_succ]
                    refine wpAnyH_take (i := 1) (v := .bool false) rfl (by kernel_rfl) (by kernel_rfl) (by kernel_rfl) (fun _ _ _ h => h) (Or.inl ⟨by rfl, ?_⟩) hSS ?_
                    · intro wz hSz
                      go_simp
                    simp only [List.getElem_toArray, List.getElem_cons_zero, List.getElem_cons_succ, Act.put, List.setIfInBounds_toArray, List.set_cons_zero, List.set_cons_succ]
                    refine wpAnyH_take (i := 2) (v := undef) rfl (by kernel_rfl) (by kernel_rfl) (by kernel_rfl) (fun _ _ _ h => h) (Or.inr ⟨by rfl, rfl⟩) hSS ?_
                    simp only [List.getElem_toArray, List.getElem_cons_zero, List.getElem_cons_succ, Act.put, List.setIfInBounds_toArray, List.set_cons_zero, List.set_cons_succ]
                    refine wpAnyH_take (i := 3) (v := undef) rfl (by kernel_rfl) (by kernel_rfl) (by kernel_rfl) (fun _ _ _ h => h) (Or.inr ⟨by rfl, rfl⟩) hSS ?_
                    simp only [List.getElem_toArray, List.getElem_cons_zero, List.getElem_cons_succ, Act.put, List.setIfInBounds_toArray, List.set_cons_zero, List.set_cons_succ]
                    refine wpAnyH_take (i := 4) (v := undef) rfl (by kernel_rfl) (by kernel_rfl) (by kernel_rfl) (fun _ _ _ h => h) (Or.inr ⟨by rfl, rfl⟩) hSS ?_
                    simp only [List.getElem_toArray, List.getElem_cons_zero, List.getElem_cons_succ, Act.put, List.setIfInBounds_toArray, List.set_cons_zero, List.set_cons_succ]
                    refine wpAnyH_take (i := 5) (v := undef) rfl (by kernel_rfl) (by kernel_rfl) (by kernel_rfl) (fun _ _ _ h => h) (Or.inr ⟨by rfl, rfl⟩) hSS ?_
                    simp only [List.getElem_toArray, List.getElem_cons_zero, List.getElem_cons_succ, Act.put, List.setIfInBounds_toArray, List.set_cons_zero, List.set_cons_succ]
                    refine wpAnyH_take (i := 6) (v := undef) rfl (by kernel_rfl) (by kernel_rfl) (by kernel_rfl) (fun _ _ _ h => h) (Or.inr ⟨by rfl, rfl⟩) hSS ?_
                    simp only [List.getElem_toArray, List.getElem_cons_zero, List.getElem_cons_succ, Act.put, List.setIfInBounds_toArray, List.set_cons_zero, List.set_cons_succ]
                    refine wpAnyH_take (i := 7) (v := undef) rfl (by kernel_rfl) (by kernel_rfl) (by kernel_rfl) (fun _ _ _ h => h) (Or.inr ⟨by rfl, rfl⟩) hSS ?_
                    simp only [List.getElem_toArray, List.getElem_cons_zero, List.getElem_cons_succ, Act.put, List.setIfInBounds_toArray, List.set_cons_zero, List.set_cons_succ]
                    refine wpAnyH_take (i := 8) (v := .bool false) rfl (by kernel_rfl) (by kernel_rfl) (by kernel_rfl) (fun _ _ _ h => h) (Or.inl ⟨by rfl, ?_⟩) hSS ?_
                    · intro wz hSz
                      go_simp
                    simp only [List.getElem_toArray, List.getElem_cons_zero, List.getElem_cons_succ, Act.put, List.setIfInBounds_toArray, List.set_cons_zero, List.set_cons_succ]
                    refine wpAnyH_take (i := 9) (v := ?_) rfl (by kernel_rfl) (by kernel_rfl) (by kernel_rfl) (fun _ _ _ h => h) (Or.inl ⟨by rfl, ?_⟩) hSS ?_
                    rotate_left
                    · intro wz hSz
                      go_simp
                      try with_reducible rfl
                    simp only [List.getElem_toArray, List.getElem_cons_zero, List.getElem_cons_succ, Act.put, List.setIfInBounds_toArray, List.set_cons_zero, List.set_cons_succ]
                    refine wpAnyH_done (by kernel_rfl) ?_ _
                    go_wp2_with fail
                    go_roundw
                    case rel => exact ⟨k + 1, false, by omega, rfl, by go_num, hfr2, hbv2⟩
                    case measure => simp [intOf]; omega
                  | true =>
                    have hfr2 : Hid ((!sameNt out[k] (nb, y)) = true ↔ f0 = true ∧ (nb, y) ∉ out.take (k + 1)) := by
                      obtain ⟨h1, h2⟩ := hfr.out.1 rfl
                      show _ ↔ _
                      rw [htk, List.mem_append, Bool.not_eq_true', ← Bool.not_eq_true, sameNt_iff]
                      exact ⟨fun h => ⟨h1, fun hm => hm.elim h2 (fun hm => h (by simp only [List.mem_singleton] at hm; exact hm.symm))⟩, fun h e => h.2 (Or.inr (by simp [e]))⟩
                    clear hfr
                    refine wp_region_held_drew (S := fun wz => wz.heap[X]? = some (.cells #[.bool nb, .string y] 31) ∧ wz.cell? ⟨g, og + k * 2, none⟩ = some (.bool out[k].1) ∧ wz.cell? ⟨g, og + k * 2 + 1, none⟩ = some (.string out[k].2)) (by kernel_rfl) ⟨hXv, e0, e1⟩ (fun hSS => ?_)
                    refine wpAnyH_take (i := 0) (v := ?_) rfl (by kernel_rfl) (by kernel_rfl) (by kernel_rfl) (fun _ _ _ h => h) (Or.inl ⟨by rfl, ?_⟩) hSS ?_
                    rotate_left
                    · intro wz hSz
                      go_simp
                      try with_reducible rfl
                    simp only [List.getElem_toArray, List.getElem_cons_zero, Act.put, List.setIfInBounds_toArray, List.set_cons_zero, List.set_cons_succ]
                    refine wpAnyH_take (i := 1) (v := .bool true) rfl (by kernel_rfl) (by kernel_rfl) (by kernel_rfl) (fun _ _ _ h => h) (Or.inl ⟨by rfl, ?_⟩) hSS ?_
                    · intro wz hSz
                      go_simp
                    simp only [List.getElem_toArray, List.getElem_cons_zero, List.getElem_cons_succ, Act.put, List.setIfInBounds_toArray, List.set_cons_zero, List.set_cons_succ]
                    refine wpAnyH_take (i := 2) (v := ?_) rfl (by kernel_rfl) (by kernel_rfl) (by kernel_rfl) (fun _ _ _ h => h) (Or.inl ⟨by rfl, ?_⟩) hSS ?_
                    rotate_left
                    · intro wz hSz
                      go_simp
                      try with_reducible rfl
                    simp only [List.getElem_toArray, List.getElem_cons_zero, List.getElem_cons_succ, Act.put, List.setIfInBounds_toArray, List.set_cons_zero, List.set_cons_succ]
                    refine wpAnyH_take (i := 3) (v := ?_) rfl (by kernel_rfl) (by kernel_rfl) (by kernel_rfl) (fun _ _ _ h => h) (Or.inl ⟨by rfl, ?_⟩) hSS ?_
                    rotate_left
                    · intro wz hSz
                      go_simp
                      try with_reducible rfl
                    simp only [List.getElem_toArray, List.getElem_cons_zero, List.getElem_cons_succ, Act.put, List.setIfInBounds_toArray, List.set_cons_zero, List.set_cons_succ]
                    refine wpAnyH_take (i := 4) (v := ?_) rfl (by kernel_rfl) (by kernel_rfl) (by kernel_rfl) (fun _ _ _ h => h) (Or.inl ⟨by rfl, ?_⟩) hSS ?_
                    rotate_left
                    · intro wz hSz
                      have y0 := cell_of_row _ _ 0 _ _ _ hSz.1; have y1 := cell_of_row _ _ 1 _ _ _ hSz.1; have u0 := hSz.2.1; have u1 := hSz.2.2; have hgz := World.block_lt_of_cell? _ _ u0
                      go_simp
                      try with_reducible rfl
                    simp only [List.getElem_toArray, List.getElem_cons_zero, List.getElem_cons_succ, Act.put, List.setIfInBounds_toArray, List.set_cons_zero, List.set_cons_succ]
                    refine wpAnyH_take (i := 5) (v := ?_) rfl (by kernel_rfl) (by kernel_rfl) (by kernel_rfl) (fun _ _ _ h => h) (Or.inl ⟨by rfl, ?_⟩) hSS ?_
                    rotate_left
                    · intro wz hSz
                      have y0 := cell_of_row _ _ 0 _ _ _ hSz.1; have y1 := cell_of_row _ _ 1 _ _ _ hSz.1; have u0 := hSz.2.1; have u1 := hSz.2.2; have hgz := World.block_lt_of_cell? _ _ u0
                      go_simp
                      try with_reducible rfl
                    simp only [List.getElem_toArray, List.getElem_cons_zero, List.getElem_cons_succ, Act.put, List.setIfInBounds_toArray, List.set_cons_zero, List.set_cons_succ]
                    refine wpAnyH_take (i := 6) (v := ?_) rfl (by kernel_rfl) (by kernel_rfl) (by kernel_rfl) (fun _ _ _ h => h) (Or.inl ⟨by rfl, ?_⟩) hSS ?_
                    rotate_left
                    · intro wz hSz
                      have y0 := cell_of_row _ _ 0 _ _ _ hSz.1; have y1 := cell_of_row _ _ 1 _ _ _ hSz.1; have u0 := hSz.2.1; have u1 := hSz.2.2; have hgz := World.block_lt_of_cell? _ _ u0
                      go_simp
                      try with_reducible rfl
                    simp only [List.getElem_toArray, List.getElem_cons_zero, List.getElem_cons_succ, Act.put, List.setIfInBounds_toArray, List.set_cons_zero, List.set_cons_succ]
                    refine wpAnyH_take (i := 7) (v := .bool (!sameNt out[k] (nb, y))) rfl (by kernel_rfl) (by kernel_rfl) (by kernel_rfl) (fun _ _ _ h => h) (Or.inl ⟨by rfl, ?_⟩) hSS ?_
                    · intro wz hSz
                      go_simp
                      exact (same_ite out[k] (nb, y) _ _).trans (by cases sameNt out[k] (nb, y) <;> rfl)
                    simp only [List.getElem_toArray, List.getElem_cons_zero, List.getElem_cons_succ, Act.put, List.setIfInBounds_toArray, List.set_cons_zero, List.set_cons_succ]
                    refine wpAnyH_take (i := 8) (v := ?_) rfl (by kernel_rfl) (by kernel_rfl) (by kernel_rfl) (fun _ _ _ h => h) (Or.inl ⟨by rfl, ?_⟩) hSS ?_
                    rotate_left
                    · intro wz hSz
                      go_simp
                      try with_reducible rfl
                    simp only [List.getElem_toArray, List.getElem_cons_zero, List.getElem_cons_succ, Act.put, List.setIfInBounds_toArray, List.set_cons_zero, List.set_cons_succ]
                    refine wpAnyH_take (i := 9) (v := ?_) rfl (by kernel_rfl) (by kernel_rfl) (by kernel_rfl) (fun _ _ _ h => h) (Or.inl ⟨by rfl, ?_⟩) hSS ?_
                    rotate_left
                    · intro wz hSz
                      go_simp
                      try with_reducible rfl
                    simp only [List.getElem_toArray, List.getElem_cons_zero, List.getElem_cons_succ, Act.put, List.setIfInBounds_toArray, List.set_cons_zero, List.set_cons_succ]
                    refine wpAnyH_done (by kernel_rfl) ?_ _
                    go_wp2_with fail
                    go_roundw
                    case rel => exact ⟨k + 1, _, by omega, rfl, by go_num, hfr2, hbv2⟩
                    case measure => simp [intOf]; omega
                · have hkn : k = out.length := by omega
                  subst hkn
                  rw [List.take_length] at hfr
                  cases fr with
                  | false =>
                    have hgo2 : Hid (wantGo s (l.drop (i + 1)) out = wantGo s l []) := by
                      show _ = _
                      rw [← hgo.out, if_neg (fun ⟨q1, q2, q3⟩ => by
                        have := hfr.out.2 ⟨hf0.out.2 ⟨q1, q2⟩, fun hm => by rw [(memN_iff _ _).2 hm] at q3; cases q3⟩
                        cases this)]
                    clear hgo hfr hf0
                    go_wp2_with fail
                    go_roundw
                    case rel => exact ⟨i + 1, fl || nb, out, _, rfl, rfl, by omega, by go_num, ho8, hgo2, hfl2, hrowv, hbbv⟩
                    case measure => simp [intOf]; omega
                  | true =>
                    obtain ⟨h1, h2⟩ := hfr.out.1 rfl
                    obtain ⟨q1, q2⟩ := hf0.out.1 h1
                    have hgo2 : Hid (wantGo s (l.drop (i + 1)) (out ++ [(nb, y)]) = wantGo s l []) := by
                      show _ = _
                      rw [← hgo.out, if_pos ⟨q1, q2, Bool.eq_false_iff.2 (fun hm => h2 ((memN_iff _ _).1 hm))⟩]
                    have zv0 := cell_of_row _ _ 0 _ _ _ hXv
                    have zv1 := cell_of_row _ _ 1 _ _ _ hXv
                    have hXlv := (Array.getElem?_eq_some_iff.1 hXv).1
                    have hXA := heap_alloc_new wr (.cells #[.bool nb, .string y] 31)
                    have hrow6 := hrowv.alloc (.cells #[.bool nb, .string y] 31)
                    have hbb6 := hbbv.alloc hbbv.size (.cells #[.bool nb, .string y] 31)
                    obtain ⟨v7, w7, hr7, hown7, hg7⟩ := append_note (q := (nb, y)) hrow6 hXA hbb6.size (by omega) 28
                    have hbb7 := hbb6.grown hg7 hbb6.size (fun q hq => (hrow6.lt q hq).1)
                    have ho9 : (out ++ [(nb, y)]).length ≤ 8 := by simp; omega
                    clear hgo hfr hf0 hrowv hrow6 hrow9 hbb6 hXA hg7 hbv hXv hX
                    go_wp2_with (at_builtin; refine wpList_append_run rfl (.tmp 72) (.tmp 74) 28 rfl _ _ rfl rfl hr7 ?_)
                    clear hr7
                    go_wp2_with fail
                    go_roundw
                    case rel => exact ⟨i + 1, fl || nb, out ++ [(nb, y)], _, rfl, rfl, by omega, by go_num, ho9, hgo2, hfl2, hown7, hbb7⟩
                    case measure => simp [intOf]; omega
      · have hil : i = l.length := by omega
        subst hil
        rw [List.drop_length] at hgo
        rw [List.take_length] at hfl
        have hgo2 : out = cleanGo s l [] [] := (show wantGo s [] out = wantGo s l [] from hgo.out).trans (want_clean s l [] [] (fun x hx => by cases hx) (by simp))
        obtain ⟨a5, c5, rfl⟩ := row_slice hrow
        have CD : Hid (Calls Try.prog 16 #[.slice a l.length ca, .slice p s.length cp] wr fun e w' => (∃ a6 c6, e = .returned (.slice a6 out.length c6) ∧ NotesIn w' a6 c6 out) ∧ NotesIn w' a5 c5 out ∧ Below W.heap.size W w') := by
          refine (nclean_any hcin (hsin.below hb) h3.out hl hsl).mono ?_
          rintro e w' ⟨⟨v, rfl, hrow2⟩, hb'⟩
          rw [← hgo2] at hrow2
          obtain ⟨a6, c6, rfl⟩ := row_slice hrow2
          exact ⟨⟨a6, c6, rfl, row_notes hrow2 rfl⟩, (row_notes hrow rfl).below hb', hb.trans (hb'.mono hb.size)⟩
        clear hgo hgo2 hrow hcin h3 hb
        go_wp2_with fail
        refine CD.out.mono ?_
        rintro e w2 ⟨⟨a6, c6, rfl, hn6⟩, hn5, hb2⟩
        clear CD
        go_wp2_with fail
        go_loopw [12] (fun s12 wv => ∃ k : Nat, k ≤ out.length ∧ s12 = .int .i64 (k : Int) ∧ NotesIn wv a6 c6 out ∧ NotesIn wv a5 c5 out ∧ Below W.heap.size W wv) (fun s12 _ => out.length - (intOf s12).toNat)
        case atStart => exact ⟨0, by omega, rfl, hn6, hn5, hb2⟩
        case round =>
          clear hn6 hn5 hb2
          obtain ⟨k, hk, rfl, hn6, hn5, hbv⟩ := hrel
          by_cases hkl : k < out.length
          · obtain ⟨g6, o6, rfl, e0, e1, hgl⟩ := note_cells hn6 hkl
            obtain ⟨g5, o5, rfl, f0, f1, hgl5⟩ := note_cells hn5 hkl
            have hn6' := hn6.below (Below.drew (Below.refl wr.heap.size wr))
            have hn5' := hn5.below (Below.drew (Below.refl wr.heap.size wr))
            have hbv' := hbv.drew
            clear hn6 hn5 hbv
            go_upto_region 23 with fail
            refine wp_region_held_drew (S := fun wz => (wz.cell? ⟨g6, o6 + k * 2, none⟩ = some (.bool out[k].1) ∧ wz.cell? ⟨g6, o6 + k * 2 + 1, none⟩ = some (.string out[k].2)) ∧ wz.cell? ⟨g5, o5 + k * 2, none⟩ = some (.bool out[k].1) ∧ wz.cell? ⟨g5, o5 + k * 2 + 1, none⟩ = some (.string out[k].2)) (by kernel_rfl) ⟨⟨e0, e1⟩, f0, f1⟩ (fun hSS => ?_)
            refine wpAnyH_take (i := 0) (v := ?_) rfl (by kernel_rfl) (by kernel_rfl) (by kernel_rfl) (fun _ _ _ h => h) (Or.inl ⟨by rfl, ?_⟩) hSS ?_
            rotate_left
            · intro wz hSz
              go_simp
              try with_reducible rfl
            simp only [List.getElem_toArray, List.getElem_cons_zero, Act.put, List.setIfInBounds_toArray, List.set_cons_zero, List.set_cons_succ]
            refine wpAnyH_take (i := 1) (v := ?_) rfl (by kernel_rfl) (by kernel_rfl) (by kernel_rfl) (fun _ _ _ h => h) (Or.inl ⟨by rfl, ?_⟩) hSS ?_
            rotate_left
            · intro wz hSz
              go_simp
              try with_reducible rfl
            simp only [List.getElem_toArray, List.getElem_cons_zero, List.getElem_cons_succ, Act.put, List.setIfInBounds_toArray, List.set_cons_zero, List.set_cons_succ]
            refine wpAnyH_take (i := 2) (v := ?_) rfl (by kernel_rfl) (by kernel_rfl) (by kernel_rfl) (fun _ _ _ h => h) (Or.inl ⟨by rfl, ?_⟩) hSS ?_
            rotate_left
            · intro wz hSz
              have y0 := hSz.1.1; have y1 := hSz.1.2; have u0 := hSz.2.1; have u1 := hSz.2.2; have hz6 := World.block_lt_of_cell? _ _ y0; have hz5 := World.block_lt_of_cell? _ _ u0
              go_simp
              try with_reducible rfl
            simp only [List.getElem_toArray, List.getElem_cons_zero, List.getElem_cons_succ, Act.put, List.setIfInBounds_toArray, List.set_cons_zero, List.set_cons_succ]
            refine wpAnyH_take (i := 3) (v := ?_) rfl (by kernel_rfl) (by kernel_rfl) (by kernel_rfl) (fun _ _ _ h => h) (Or.inl ⟨by rfl, ?_⟩) hSS ?_
            rotate_left
            · intro wz hSz
              have y0 := hSz.1.1; have y1 := hSz.1.2; have u0 := hSz.2.1; have u1 := hSz.2.2; have hz6 := World.block_lt_of_cell? _ _ y0; have hz5 := World.block_lt_of_cell? _ _ u0
              go_simp
              try with_reducible rfl
            simp only [List.getElem_toArray, List.getElem_cons_zero, List.getElem_cons_succ, Act.put, List.setIfInBounds_toArray, List.set_cons_zero, List.set_cons_succ]
            refine wpAnyH_take (i := 4) (v := ?_) rfl (by kernel_rfl) (by kernel_rfl) (by kernel_rfl) (fun _ _ _ h => h) (Or.inl ⟨by rfl, ?_⟩) hSS ?_
            rotate_left
            · intro wz hSz
              go_simp
              try with_reducible rfl
            simp only [List.getElem_toArray, List.getElem_cons_zero, List.getElem_cons_succ, Act.put, List.setIfInBounds_toArray, List.set_cons_zero, List.set_cons_succ]
            refine wpAnyH_take (i := 5) (v := ?_) rfl (by kernel_rfl) (by kernel_rfl) (by kernel_rfl) (fun _ _ _ h => h) (Or.inl ⟨by rfl, ?_⟩) hSS ?_
            rotate_left
            · intro wz hSz
              go_simp
              try with_reducible rfl
            simp only [List.getElem_toArray, List.getElem_cons_zero, List.getElem_cons_succ, Act.put, List.setIfInBounds_toArray, List.set_cons_zero, List.set_cons_succ]
            refine wpAnyH_take (i := 6) (v := ?_) rfl (by kernel_rfl) (by kernel_rfl) (by kernel_rfl) (fun _ _ _ h => h) (Or.inl ⟨by rfl, ?_⟩) hSS ?_
            rotate_left
            · intro wz hSz
              have y0 := hSz.1.1; have y1 := hSz.1.2; have u0 := hSz.2.1; have u1 := hSz.2.2; have hz6 := World.block_lt_of_cell? _ _ y0; have hz5 := World.block_lt_of_cell? _ _ u0
              go_simp
              try with_reducible rfl
            simp only [List.getElem_toArray, List.getElem_cons_zero, List.getElem_cons_succ, Act.put, List.setIfInBounds_toArray, List.set_cons_zero, List.set_cons_succ]
            refine wpAnyH_take (i := 7) (v := ?_) rfl (by kernel_rfl) (by kernel_rfl) (by kernel_rfl) (fun _ _ _ h => h) (Or.inl ⟨by rfl, ?_⟩) hSS ?_
            rotate_left
            · intro wz hSz
              have y0 := hSz.1.1; have y1 := hSz.1.2; have u0 := hSz.2.1; have u1 := hSz.2.2; have hz6 := World.block_lt_of_cell? _ _ y0; have hz5 := World.block_lt_of_cell? _ _ u0
              go_simp
              try with_reducible rfl
            simp only [List.getElem_toArray, List.getElem_cons_zero, List.getElem_cons_succ, Act.put, List.setIfInBounds_toArray, List.set_cons_zero, List.set_cons_succ]
            refine wpAnyH_take (i := 8) (v := .bool false) rfl (by kernel_rfl) (by kernel_rfl) (by kernel_rfl) (fun _ _ _ h => h) (Or.inl ⟨by rfl, ?_⟩) hSS ?_
            · intro wz hSz
              go_simp
            simp only [List.getElem_toArray, List.getElem_cons_zero, List.getElem_cons_succ, Act.put, List.setIfInBounds_toArray, List.set_cons_zero, List.set_cons_succ]
            refine wpAnyH_done (by kernel_rfl) ?_ _
            go_wp2_with fail
            go_roundw
            case rel => exact ⟨k + 1, by omega, by go_num, hn6', hn5', hbv'⟩
            case measure => simp [intOf]; omega
          · have CF : Hid (Calls Try.prog 17 #[.slice a l.length ca] wr fun e w' => e = .returned (.bool fl) ∧ Below W.heap.size W w') := by
              refine (nfails_any (hin.below hbv) (by omega)).mono ?_
              rintro e w' ⟨⟨t, rfl, ht⟩, hb'⟩
              have e : decide (0 ≤ t) = fl := by
                rw [Bool.eq_iff_iff, decide_eq_true_iff, ht.out, hfl.out]
              rw [e]
              exact ⟨rfl, hbv.trans (hb'.mono hbv.size)⟩
            have hkn : k = out.length := by omega
            subst hkn
            clear hn6 hn5 hbv
            go_wp2_with fail
            refine CF.out.mono ?_
            rintro e w3 ⟨rfl, hb3⟩
            go_wp2_with fail
            go_ret
            exact ⟨by simp, hb3⟩
set_option maxRecDepth 100000 in
theorem diagCleans_lifted (os : Os) (started : os.Started) (H : Type) (tok : TypeId × Value → H) :
    ReturnsInHanded {} Try.checked os 4 .any (Rows.diagCleansSpec.pre6 tok Try.prog Try.f4 Rows.diagCleansRow.domain false) (Rows.diagCleansSpec.post tok Try.prog Try.f4 false true false false) := by
  refine returnsInHanded_of_change (C := Try.checked) own_knob started (by kernel_rfl) Try.func4
    (ChangeSpec.witness6 (enc := tok) (C := Try.checked) false ⟨#[], #[.slice none 0 0, .slice none 0 0], []⟩ 8 (by kernel_rfl) (by kernel_rfl) (by kernel_rfl) (by kernel_rfl)) ?_
  intro W base args ds gs before hval0 hW hcnd _
  have hval : ∀ (j : Nat) t v, Try.f4.params[j]? = some t → args[j]? = some v → Value.okWide Try.prog W .any base t v := hval0
  have hW' := hW
  obtain ⟨p, q, hA0, hV, rfl, hfz, hnd⟩ := hW
  have hA : DataW.TrodAll tok Try.prog W 0 (fun _ => true) true Try.f4.params.toList args.toList ds p := hA0
  rw [Try.params4] at hA hval
  obtain ⟨v0, vs0, d0, ds0, p0, q0, hargs, rfl, rfl, h0, r0⟩ := trodAll_cons hA
  obtain ⟨v1, vs1, d1, ds1, p1, q1, rfl, rfl, rfl, h1, r1⟩ := trodAll_cons r0
  obtain ⟨rfl, rfl, rfl⟩ := trodAll_nil r1
  obtain rfl : args = #[v0, v1] := by cases args; simp_all
  obtain ⟨rfl, rfl⟩ := trodVars_none hV
  obtain ⟨a0, len0, cap0, rfl⟩ := okWide_slice Try.underlying28 (hval 0 28 v0 rfl rfl)
  have k0 := h0
  have lt0 : ∀ x ∈ p0, x.block < W.heap.size := by obtain ⟨m, hm⟩ := k0; exact DataW.trod_lt m _ _ _ hm
  obtain ⟨z0, w0⟩ : ∃ zs, NotesArg W a0 len0 cap0 zs := by obtain ⟨fuel, hf⟩ := h0; exact notes_in hf
  obtain rfl := w0.hlen
  obtain ⟨a1, len1, cap1, rfl⟩ := okWide_slice Try.underlying22 (hval 1 22 v1 rfl rfl)
  have k1 := h1
  have lt1 : ∀ x ∈ p1, x.block < W.heap.size := by obtain ⟨m, hm⟩ := k1; exact DataW.trod_lt m _ _ _ hm
  obtain ⟨z1, w1⟩ : ∃ zs, StrsArg W a1 len1 cap1 zs := by obtain ⟨fuel, hf⟩ := h1; exact strs_in hf
  obtain rfl := w1.hlen
  clear hA0 hval0
  refine (cleans_walk13 a0 z0 cap0 a1 z1 cap1 W w0 w1).mono fun e W' ⟨he, bel⟩ => ?_
  subst he
  exact ⟨_, rfl, _, _, _, [], _, [], hW', trodAll_mk1 (shut_bool Try.underlying4 _), (trodAll_cons_mk (Below.trod laid_out (by kernel_rfl) (of_decide_eq_true (by kernel_rfl)) k0 bel lt0) (trodAll_cons_mk (Below.trod laid_out (by kernel_rfl) (of_decide_eq_true (by kernel_rfl)) k1 bel lt1) trodAll_mk0)), rfl, bel.frame _, fun h => by cases h⟩

set_option maxRecDepth 100000 in
theorem diagCleans_holds : Rows.DiagCleansSaid :=
  OpenClaim.holds_of_wide 4 Try.f4 rfl rfl rfl rfl rfl rfl rfl ⟨rfl, rfl, rfl, rfl, rfl⟩ rfl rfl rfl rfl rfl (by kernel_rfl) Try.func4 (by kernel_rfl)
    (of_decide_eq_true (by kernel_rfl)) (by unfold Func.isWrapper; first | (rw [if_pos (by decide +kernel)]; kernel_rfl) | (rw [if_neg (by decide +kernel)]; exact ⟨rfl, rfl⟩))
    (fun os started H tok _ => diagCleans_lifted os started H tok)
#print axioms diagCleans_holds
end Go.Proofs.Ytgknefpefeghcaa
