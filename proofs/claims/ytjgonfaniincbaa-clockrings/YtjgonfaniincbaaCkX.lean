/- ClockNext: of any bytes the law answers true: what rings next rings just when its tick is there. No conditions. -/
import Derived.Test.YtjgonfaniincbaaCkD
import Derived.Test.YtjgonfaniincbaaRow
namespace Go.Proofs.Ytjgonfaniincbaa
open Go.RowKit Go.ChangeShapes Go.WideShapes Go.ChangeAt

set_option maxRecDepth 100000 in
theorem Row.one (W : World) (x : Int) (h0 : 0 ≤ x) (h1 : x ≤ 255) : Row (W.alloc (.cells #[.int .u8 x] 5)) (some ⟨W.heap.size, 0, none⟩) [x] := by
  refine ⟨fun c hc => ?_, fun _ => ⟨W.heap.size, 0, rfl, fun j hj => ?_⟩⟩
  · simp at hc; omega
  · simp at hj
    subst hj
    simp
set_option maxRecDepth 100000 in
theorem one_size (x : Int) : (strOfNums [x]).size = 1 := by
  show (strOfNums [x]).data.size = 1
  rw [← Array.length_toList, strOfNums_data]; rfl
set_option maxRecDepth 100000 in
theorem set_mem {now : Int} {l : List (Int × ByteArray)} {s : ByteArray} {n : Int} : ∀ x ∈ setA now l s n, x ∈ l ∨ x = (clp (now + clp n), s) := fun x hx => by
  unfold setA at hx
  split at hx
  · exact Or.inl hx
  · rcases List.mem_cons.1 ((insA_perm _ _).mem_iff.1 hx) with h | h
    · exact Or.inr h
    · exact Or.inl (List.mem_filter.1 h).1
set_option maxRecDepth 100000 in
theorem set_len {now : Int} {l : List (Int × ByteArray)} {s : ByteArray} {n : Int} : (setA now l s n).length ≤ l.length + 1 := by
  unfold setA
  split
  · omega
  · rw [(insA_perm _ _).length_eq, List.length_cons]
    have : (delA s l).length ≤ l.length := List.length_filter_le _ _
    omega
set_option maxRecDepth 100000 in
/-- No alarm rings ahead of the first one. -/
theorem due_gap {x : Int × ByteArray} {r : List (Int × ByteArray)} (h : OkA (x :: r)) : dueA (x.1 - 1) (x :: r) = [] := by
  unfold dueA
  rw [List.filter_eq_nil_iff]
  intro y hy
  have : x.1 ≤ y.1 := by
    rcases List.mem_cons.1 hy with rfl | hy
    · exact Int.le_refl _
    · rcases (List.pairwise_cons.1 h.1).1 y hy with g | ⟨g, -⟩ <;> omega
  simp; omega
set_option maxRecDepth 100000 in
theorem due_first {x : Int × ByteArray} {r : List (Int × ByteArray)} : dueA x.1 (x :: r) = x :: dueA x.1 r := by simp [dueA]
set_option maxRecDepth 100000 in
theorem rest_gt {tick : Int} {l : List (Int × ByteArray)} (h : OkA l) : ∀ y ∈ l.drop (dueA tick l).length, tick < y.1 := by
  intro y hy
  rcases Int.lt_or_le tick y.1 with g | g
  · exact g
  · exfalso
    have hm : y ∈ dueA tick l := List.mem_filter.2 ⟨List.mem_of_mem_drop hy, decide_eq_true g⟩
    rw [due_take h.1] at hm
    have hn : l.Nodup := List.Pairwise.imp (fun {a b} (hab : ltA a b) (e : a = b) => ltA_irrefl a (by rw [← e] at hab; exact hab)) h.1
    have h1 : (l.take (dueA tick l).length ++ l.drop (dueA tick l).length).Nodup := by rw [List.take_append_drop]; exact hn
    rw [List.nodup_append] at h1
    exact h1.2.2 y hm y hy rfl
set_option maxRecDepth 100000 in
/-- Ticks go by, as long as none rings. -/
theorem tick_gap {W : World} {B Mb : Nat} {now : Int} {x : Int × ByteArray} {r : List (Int × ByteArray)} (h : AlIn W B Mb now (x :: r)) (hok : OkA (x :: r)) (hl : (x :: r).length ≤ 32) (hnow : 0 ≤ now ∧ now ≤ 1152921504606846976) (hx : now < x.1) (base : Nat) (hB : base ≤ B) (hM : base ≤ Mb) :
    Calls Try.prog 15 #[.pointer (some ⟨B, 0, none⟩), .int .i64 (x.1 - now - 1)] W fun e w' => (∃ p c, e = .returned (.slice p 0 c)) ∧ AlIn w' B Mb (x.1 - 1) (x :: r) ∧ Below base W w' := by
  have hx1 := (hok.2.2 x (List.mem_cons_self ..)).2.1
  by_cases hz : x.1 - now - 1 < 1
  · have e : x.1 - 1 = now := by omega
    refine (tick_none _ hz).mono ?_
    rintro e' w' ⟨rfl, rfl⟩
    exact ⟨⟨none, 0, rfl⟩, by rw [e]; exact h, Below.refl _ _⟩
  · have e : clp (now + clp (x.1 - now - 1)) = x.1 - 1 := by simp only [clp, brought]; omega
    have hc := tick_any h hok hl hnow (x.1 - now - 1) (by omega) base hB hM
    rw [e, due_gap hok] at hc
    refine hc.mono ?_
    rintro e' w' ⟨v, rfl, hrow, hA, hb⟩
    refine ⟨?_, hA, hb⟩
    rcases hrow.2 with ⟨rfl, _⟩ | ⟨g, cap, cur, rfl, _⟩
    · exact ⟨none, 0, rfl⟩
    · exact ⟨_, _, rfl⟩
set_option maxRecDepth 100000 in
theorem tick_first {W : World} {B Mb : Nat} {x : Int × ByteArray} {r : List (Int × ByteArray)} (h : AlIn W B Mb (x.1 - 1) (x :: r)) (hok : OkA (x :: r)) (hl : (x :: r).length ≤ 32) (hx : 0 < x.1) (base : Nat) (hB : base ≤ B) (hM : base ≤ Mb) :
    Calls Try.prog 15 #[.pointer (some ⟨B, 0, none⟩), .int .i64 1] W fun e w' => (∃ (g c m : Nat), e = .returned (.slice (some ⟨g, 0, none⟩) (m + 1) c) ∧ w'.cell? ⟨g, 0, none⟩ = some (.string x.2)) ∧ (∃ l', AlIn w' B Mb x.1 l' ∧ OkA l' ∧ l'.length < (x :: r).length ∧ ∀ y ∈ l', x.1 < y.1) ∧ Below base W w' := by
  have hx1 := (hok.2.2 x (List.mem_cons_self ..)).2.1
  have e : clp (x.1 - 1 + clp 1) = x.1 := by simp only [clp, brought]; omega
  have hc := tick_any h hok hl ⟨by omega, by omega⟩ 1 (by omega) base hB hM
  rw [e] at hc
  have hgt := rest_gt (tick := x.1) hok
  have hlen : ((x :: r).drop (dueA x.1 (x :: r)).length).length < (x :: r).length := by
    rw [List.length_drop, due_first, List.length_cons, List.length_cons]; omega
  refine hc.mono ?_
  rintro e' w' ⟨v, rfl, hrow, hA, hb⟩
  refine ⟨?_, ⟨_, hA, hok.drop _, hlen, hgt⟩, hb⟩
  rw [due_first] at hrow
  rcases hrow.2 with ⟨_, h0⟩ | ⟨g, cap, cur, rfl, -⟩
  · simp at h0
  · have c0 := hrow.cellAt 0 (by simp)
    exact ⟨g, cap, (dueA x.1 r).length, rfl, by simpa using c0⟩
set_option maxRecDepth 100000 in
set_option maxHeartbeats 3200000 in
theorem next_walk (a : Option Addr) (zs : List Int) (cap : Nat) (w : World) (hin : BytesIn w a zs.length cap zs) : Calls Try.prog 6 #[.slice a zs.length cap] w fun e w' => e = .returned (.bool true) ∧ Below w.heap.size w w' := by
  have hmax := hin.hmax
  have hcap := hin.hcap
  have hmx : zs.length ≤ maxLen := by omega
  unfold maxLen at hmx
  by_cases h20 : 20 < zs.length
  · clear hin
    go_enter Try.func6, Try.ntmps6
    go_wp2_with (go_at_call 7; refine (awake14_any _).mono ?_; rintro e w1 ⟨rfl, hb1⟩)
    go_ret
    exact ⟨rfl, hb1⟩
  · have hlen20 : ((zs.length : Nat) : Int) ≤ 20 := by omega
    have hrow := hin.hrow
    clear hin hmax hcap
    go_enter Try.func6, Try.ntmps6
    go_wp2_with fail
    refine (awake14_any _).mono ?_
    rintro e w1 ⟨rfl, hb1⟩
    go_wp2_with fail
    refine (anew_any _).mono ?_
    rintro e w2 ⟨B, Mb, rfl, hB, hM, hA, hb2⟩
    have hb2 := hb1.trans (hb2.mono hb1.size)
    have hB : w.heap.size ≤ B := Nat.le_trans hb1.size hB
    have hM : w.heap.size ≤ Mb := Nat.le_trans hb1.size hM
    clear hb1
    go_wp2_with fail
    go_loopw [4] (fun si wr => ∃ (i : Nat) (l : List (Int × ByteArray)), i ≤ zs.length ∧ si = .int .i64 (i : Int) ∧ AlIn wr B Mb 0 l ∧ OkA l ∧ l.length ≤ i ∧ (∀ x ∈ l, 0 < x.1) ∧ Below w.heap.size w wr) (fun si _ => zs.length - (intOf si).toNat)
    case atStart => exact ⟨0, [], by omega, rfl, hA, OkA.nil, by simp, (by simp), hb2⟩
    case round =>
      clear hA hb2
      obtain ⟨i, l, hi, rfl, hA, hok, hli, hpos, hb⟩ := hrel
      by_cases hlt : i < zs.length
      · obtain ⟨b, off, rfl, hc⟩ := hrow.at (by intro e; subst e; simp at hlt)
        obtain ⟨z, hz, hz0, hz1⟩ : ∃ z : Int, w.cell? ⟨b, off + i, none⟩ = some (.int .u8 z) ∧ 0 ≤ z ∧ z ≤ 255 := ⟨_, hc i hlt, (hrow.getD i).1, (hrow.getD i).2⟩
        have hblt := World.block_lt_of_cell? _ _ hz
        have hcI : ∀ wz, Below w.heap.size w wz → wz.cell? ⟨b, off + i, none⟩ = some (.int .u8 z) := fun wz h => (h.cell (p := ⟨b, off + i, none⟩) hblt).trans hz
        have hI : Hid (∀ wz, Below w.heap.size w wz → wz.cell? ⟨b, off + i, none⟩ = some (.int .u8 z)) := hcI
        have hw1 : IntKind.i64.wrap (97 + (i : Int)) = 97 + (i : Int) := IntWalk.i64_in _ ⟨by omega, by omega⟩
        have hw2 : IntKind.u8.wrap (97 + (i : Int)) = 97 + (i : Int) := IntWalk.u8_in _ ⟨by omega, by omega⟩
        have hw3 : IntKind.i64.wrap z = z := IntWalk.i64_in _ ⟨by omega, by omega⟩
        have hw4 : IntKind.i64.wrap (1 + z) = 1 + z := IntWalk.i64_in _ ⟨by omega, by omega⟩
        have hl32 : l.length ≤ 32 := by omega
        have hs1 : (strOfNums [97 + (i : Int)]).size ≤ maxLen := by rw [one_size]; decide
        clear hcI hz hc hrow
        go_upto_region 7 with fail
        refine wp_region_held_drew (S := fun w' => Below w.heap.size w w') (by kernel_rfl) (Below.drew hb) (fun hSS => ?_)
        refine wpAnyH_take (i := 0) (v := ?_) rfl (by kernel_rfl) (by kernel_rfl) (by kernel_rfl) (fun _ _ _ h => h) (Or.inl ⟨by rfl, ?_⟩) hSS ?_
        rotate_left
        · intro wz hSz
          go_simp
          try with_reducible rfl
        simp only [List.getElem_toArray, List.getElem_cons_zero, Act.put, List.setIfInBounds_toArray, List.set_cons_zero, List.set_cons_succ]
        refine wpAnyH_take (i := 1) (v := ?_) rfl (by kernel_rfl) (by kernel_rfl) (by kernel_rfl) (fun _ _ _ h => h) (Or.inl ⟨by rfl, ?_⟩) hSS ?_
        rotate_left
        · intro wz hSz
          go_simp
          try with_reducible rfl
        simp only [List.getElem_toArray, List.getElem_cons_zero, List.getElem_cons_succ, Act.put, List.setIfInBounds_toArray, List.set_cons_zero, List.set_cons_succ]
        refine wpAnyH_take (i := 2) (v := ?_) rfl (by kernel_rfl) (by kernel_rfl) (by kernel_rfl) (fun _ _ _ h => h) (Or.inl ⟨by rfl, ?_⟩) hSS ?_
        rotate_left
        · intro wz hSz
          go_simp
          try with_reducible rfl
        simp only [List.getElem_toArray, List.getElem_cons_zero, List.getElem_cons_succ, Act.put, List.setIfInBounds_toArray, List.set_cons_zero, List.set_cons_succ]
        refine wpAnyH_take (i := 3) (v := ?_) rfl (by kernel_rfl) (by kernel_rfl) (by kernel_rfl) (fun _ _ _ h => h) (Or.inl ⟨by rfl, ?_⟩) hSS ?_
        rotate_left
        · intro wz hSz
          have zc := hI.out wz hSz
          go_simp
          try with_reducible rfl
        simp only [List.getElem_toArray, List.getElem_cons_zero, List.getElem_cons_succ, Act.put, List.setIfInBounds_toArray, List.set_cons_zero, List.set_cons_succ]
        refine wpAnyH_take (i := 6) (v := ?_) rfl (by kernel_rfl) (by kernel_rfl) (by kernel_rfl) (fun _ _ _ h => h) (Or.inl ⟨by rfl, ?_⟩) hSS ?_
        rotate_left
        · intro wz hSz
          go_simp
          try with_reducible rfl
        simp only [List.getElem_toArray, List.getElem_cons_zero, List.getElem_cons_succ, Act.put, List.setIfInBounds_toArray, List.set_cons_zero, List.set_cons_succ]
        refine wpAnyH_take (i := 7) (v := ?_) rfl (by kernel_rfl) (by kernel_rfl) (by kernel_rfl) (fun _ _ _ h => h) (Or.inl ⟨by rfl, ?_⟩) hSS ?_
        rotate_left
        · intro wz hSz
          go_simp
          try with_reducible rfl
        simp only [List.getElem_toArray, List.getElem_cons_zero, List.getElem_cons_succ, Act.put, List.setIfInBounds_toArray, List.set_cons_zero, List.set_cons_succ]
        refine wpAnyH_take (i := 8) (v := ?_) rfl (by kernel_rfl) (by kernel_rfl) (by kernel_rfl) (fun _ _ _ h => h) (Or.inl ⟨by rfl, ?_⟩) hSS ?_
        rotate_left
        · intro wz hSz
          have zc := hI.out wz hSz
          go_simp
          try with_reducible rfl
        simp only [List.getElem_toArray, List.getElem_cons_zero, List.getElem_cons_succ, Act.put, List.setIfInBounds_toArray, List.set_cons_zero, List.set_cons_succ]
        refine wpAnyH_take (i := 9) (v := ?_) rfl (by kernel_rfl) (by kernel_rfl) (by kernel_rfl) (fun _ _ _ h => h) (Or.inl ⟨by rfl, ?_⟩) hSS ?_
        rotate_left
        · intro wz hSz
          have zc := hI.out wz hSz
          go_simp
          try with_reducible rfl
        simp only [List.getElem_toArray, List.getElem_cons_zero, List.getElem_cons_succ, Act.put, List.setIfInBounds_toArray, List.set_cons_zero, List.set_cons_succ]
        refine wpAnyH_take (i := 10) (v := ?_) rfl (by kernel_rfl) (by kernel_rfl) (by kernel_rfl) (fun _ _ _ h => h) (Or.inl ⟨by rfl, ?_⟩) hSS ?_
        rotate_left
        · intro wz hSz
          have zc := hI.out wz hSz
          go_simp
          try with_reducible rfl
        simp only [List.getElem_toArray, List.getElem_cons_zero, List.getElem_cons_succ, Act.put, List.setIfInBounds_toArray, List.set_cons_zero, List.set_cons_succ]
        refine wpAnyH_take (i := 11) (v := ?_) rfl (by kernel_rfl) (by kernel_rfl) (by kernel_rfl) (fun _ _ _ h => h) (Or.inl ⟨by rfl, ?_⟩) hSS ?_
        rotate_left
        · intro wz hSz
          go_simp
          try with_reducible rfl
        simp only [List.getElem_toArray, List.getElem_cons_zero, List.getElem_cons_succ, Act.put, List.setIfInBounds_toArray, List.set_cons_zero, List.set_cons_succ]
        refine wpAnyH_ready (rs := [4]) (by kernel_rfl) (by simp) (AllReadyH.cons rfl (fun K hK => ?_) AllReadyH.nil)
        go_simp
        refine hK.out _ _ (hSS.alloc (by have := hSS.size; omega) _) (fun hSS => ?_)
        clear hK
        refine wpAnyH_ready (rs := [5]) (by kernel_rfl) (by simp) (AllReadyH.cons rfl (fun K hK => ?_) AllReadyH.nil)
        have hconv := (Row.one wr (97 + (i : Int)) (by omega) (by omega)).drew.text 1 1 rfl
        have hA3 : AlIn (wr.alloc (.cells #[.int .u8 (97 + (i : Int))] 5)).drew B Mb 0 l := (hA.below ((Below.refl _ _).alloc (Nat.le_refl _) _)).drew
        go_simp
        refine hK.out _ _ hSS (fun hSS => ?_)
        clear hK hconv
        refine wpAnyH_ready (rs := [12]) (by kernel_rfl) (by simp) (AllReadyH.cons rfl (fun K hK => ?_) AllReadyH.nil)
        go_simp
        go_at_call 10
        refine (set_any hA3 hok ⟨by omega, by omega⟩ hl32 (strOfNums [97 + (i : Int)]) hs1 (1 + z) ⟨by omega, by omega⟩ w.heap.size hM).mono ?_
        rintro e w5 ⟨rfl, hA5, hb5⟩
        go_simp
        refine hK.out _ _ (hSS.trans hb5) (fun hSS => ?_)
        clear hK hb5
        refine wpAnyH_done (by kernel_rfl) ?_ _
        go_wp2_with fail
        go_roundw
        case rel =>
          refine ⟨i + 1, _, by omega, by go_num, hA5, (set_ok hok hl32 _ hs1 _).1, Nat.le_trans set_len (by omega), fun x hx => ?_, hSS⟩
          rcases set_mem x hx with g | g
          · exact hpos x g
          · rw [g]; simp only [clp, brought]; omega
        case measure => simp [intOf]; omega
      · have hl20 : l.length ≤ 20 := by omega
        clear hrow hmx h20
        go_wp2_with fail
        go_loopw [5] (fun si wr => ∃ (i : Nat) (now : Int) (l : List (Int × ByteArray)), si = .int .i64 (i : Int) ∧ AlIn wr B Mb now l ∧ OkA l ∧ l.length + i ≤ 20 ∧ (∀ x ∈ l, now < x.1) ∧ 0 ≤ now ∧ now ≤ 1152921504606846976 ∧ Below w.heap.size w wr) (fun si _ => 25 - (intOf si).toNat)
        case atStart => exact ⟨0, 0, l, rfl, hA, hok, by omega, hpos, by omega, by omega, hb⟩
        case round =>
          clear hA hok hli hpos hb hl20 hlt hi
          obtain ⟨j, now, l, rfl, hA, hok, hjl, hpos, hnow0, hnow1, hb⟩ := hrel
          have hj25 : (j : Int) < 25 := by omega
          have CX : Hid (Calls Try.prog 16 #[.pointer (some ⟨B, 0, none⟩)] wr fun e w' => e = .returned (nextV l) ∧ Below wr.heap.size wr w') := next_any hA hok (by omega)
          cases l with
          | nil =>
            have CX : Hid (Calls Try.prog 16 #[.pointer (some ⟨B, 0, none⟩)] wr fun e w' => e = .returned (.tuple #[.string ByteArray.empty, .int .i64 0, .bool false]) ∧ Below wr.heap.size wr w') := CX
            go_wp2_with fail
            refine CX.out.mono ?_
            rintro e w5 ⟨rfl, hb5⟩
            have hA5 := hA.below hb5
            have CL : Hid (Calls Try.prog 19 #[.pointer (some ⟨B, 0, none⟩)] w5 fun e w' => e = .returned (.int .i64 0) ∧ w5 = w') := alen_any hA5
            clear CX
            go_wp2_with fail
            refine CL.out.mono ?_
            rintro e w' ⟨rfl, rfl⟩
            go_wp2_with fail
            go_ret
            exact ⟨rfl, hb.trans (hb5.mono hb.size)⟩
          | cons x r =>
            have hx := hpos x (List.mem_cons_self ..)
            have hx1 := (hok.2.2 x (List.mem_cons_self ..)).2.1
            have hl32 : (x :: r).length ≤ 32 := by omega
            have hlen : (x :: r).length + j ≤ 20 := hjl
            have CG : Hid (∀ W, AlIn W B Mb now (x :: r) → Calls Try.prog 15 #[.pointer (some ⟨B, 0, none⟩), .int .i64 (x.1 - now - 1)] W fun e w' => (∃ p c, e = .returned (.slice p 0 c)) ∧ AlIn w' B Mb (x.1 - 1) (x :: r) ∧ Below w.heap.size W w') := fun W h => tick_gap h hok hl32 ⟨hnow0, hnow1⟩ hx _ hB hM
            have CF : Hid (∀ W, AlIn W B Mb (x.1 - 1) (x :: r) → Calls Try.prog 15 #[.pointer (some ⟨B, 0, none⟩), .int .i64 1] W fun e w' => (∃ (g c m : Nat), e = .returned (.slice (some ⟨g, 0, none⟩) (m + 1) c) ∧ w'.cell? ⟨g, 0, none⟩ = some (.string x.2)) ∧ (∃ l', AlIn w' B Mb x.1 l' ∧ OkA l' ∧ l'.length < (x :: r).length ∧ ∀ y ∈ l', x.1 < y.1) ∧ Below w.heap.size W w') := fun W h => tick_first h hok hl32 (by omega) _ hB hM
            have CX2 : Hid (Calls Try.prog 16 #[.pointer (some ⟨B, 0, none⟩)] wr fun e w' => e = .returned (.tuple #[.string x.2, .int .i64 x.1, .bool true]) ∧ Below wr.heap.size wr w') := CX
            clear hpos hok hjl hl32 CX
            generalize hq : x :: r = q at *
            obtain ⟨xa, xs⟩ := x
            simp only at CX2 CG CF hx hx1
            have hng : ¬ xa ≤ now := by omega
            clear hq
            go_wp2_with fail
            refine CX2.out.mono ?_
            rintro e w5 ⟨rfl, hb5⟩
            have hA5 := hA.below hb5
            have hb5 := hb.trans (hb5.mono hb.size)
            clear CX2 hA hb
            go_wp2_with (go_at_call 18; refine (now_any hA5).mono ?_; rintro e w' ⟨rfl, rfl⟩)
            refine (CG.out _ hA5).mono ?_
            rintro e w6 ⟨⟨p, c, rfl⟩, hA6, hb6⟩
            have hb6 := hb5.trans hb6
            clear CG hA5 hb5
            go_wp2_with fail
            refine (CF.out _ hA6).mono ?_
            rintro e w7 ⟨⟨g, c7, m, rfl, hcell⟩, ⟨l', hA7, hok7, hlt7, hpos7⟩, hb7⟩
            have hb7 := hb6.trans hb7
            have hm7 : ((m + 1 : Nat) : Int) ≠ 0 := by omega
            clear CF hA6 hb6
            go_wp2_with (go_at_call 18; refine (now_any hA7).mono ?_; rintro e w' ⟨rfl, rfl⟩)
            go_roundw
            case rel => exact ⟨j + 1, xa, l', by go_num, hA7, hok7, by omega, hpos7, by omega, by omega, hb7⟩
            case measure => simp [intOf]; omega

set_option maxRecDepth 100000 in
theorem clockNext_lifted (os : Os) (started : os.Started) (H : Type) (tok : TypeId × Value → H) :
    ReturnsInHanded {} Try.checked os 6 .any (Rows.clockNextSpec.pre6 tok Try.prog Try.f6 Rows.clockNextRow.domain false) (Rows.clockNextSpec.post tok Try.prog Try.f6 false true false false) := by
  refine returnsInHanded_of_change (C := Try.checked) own_knob started (by kernel_rfl) Try.func6
    (ChangeSpec.witness6 (enc := tok) (C := Try.checked) false ⟨#[], #[.slice none 0 0], []⟩ 8 (by kernel_rfl) (by kernel_rfl) (by kernel_rfl) (by kernel_rfl)) ?_
  intro W base args ds gs before hval0 hW hcnd _
  have hval : ∀ (j : Nat) t v, Try.f6.params[j]? = some t → args[j]? = some v → Value.okWide Try.prog W .any base t v := hval0
  have hW' := hW
  obtain ⟨p, q, hA0, hV, rfl, hfz, hnd⟩ := hW
  have hA : DataW.TrodAll tok Try.prog W 0 (fun _ => true) true Try.f6.params.toList args.toList ds p := hA0
  rw [Try.params6] at hA hval
  obtain ⟨v0, vs0, d0, ds0, p0, q0, hargs, rfl, rfl, h0, r0⟩ := trodAll_cons hA
  obtain ⟨rfl, rfl, rfl⟩ := trodAll_nil r0
  obtain rfl : args = #[v0] := by cases args; simp_all
  obtain ⟨rfl, rfl⟩ := trodVars_none hV
  obtain ⟨a0, len0, cap0, rfl⟩ := okWide_slice Try.underlying46 (hval 0 46 v0 rfl rfl)
  have k0 := h0
  have lt0 : ∀ x ∈ p0, x.block < W.heap.size := by obtain ⟨m, hm⟩ := k0; exact DataW.trod_lt m _ _ _ hm
  obtain ⟨z0, w0⟩ : ∃ zs, BytesIn W a0 len0 cap0 zs := by obtain ⟨fuel, hf⟩ := h0; exact bytes_in hf
  obtain rfl := w0.hlen
  clear hA0 hval0
  refine (next_walk a0 z0 cap0 W w0).mono fun e W' ⟨he, bel⟩ => ?_
  subst he
  exact ⟨_, rfl, _, _, _, [], _, [], hW', trodAll_mk1 (shut_bool Try.underlying4 _), (trodAll_cons_mk (Below.trod laid_out (by kernel_rfl) (of_decide_eq_true (by kernel_rfl)) k0 bel lt0) trodAll_mk0), rfl, bel.frame _, fun h => by cases h⟩

set_option maxRecDepth 100000 in
theorem clockNext_holds : Rows.ClockNextSaid :=
  OpenClaim.holds_of_wide 6 Try.f6 rfl rfl rfl rfl rfl rfl rfl ⟨rfl, rfl, rfl, rfl, rfl⟩ rfl rfl rfl rfl rfl (by kernel_rfl) Try.func6 (by kernel_rfl)
    (of_decide_eq_true (by kernel_rfl)) (by unfold Func.isWrapper; first | (rw [if_pos (by decide +kernel)]; kernel_rfl) | (rw [if_neg (by decide +kernel)]; exact ⟨rfl, rfl⟩))
    (fun os started H tok _ => clockNext_lifted os started H tok)
#print axioms clockNext_holds
end Go.Proofs.Ytjgonfaniincbaa
