/- Of any two lists of fields and any int the law MessageJoins answers true, and leaves its arguments: two messages, the second one's tags all above the first one's, joined are the message of both. No conditions. -/
import Derived.Test.YteidjnkkjjigoaaPureJ
import Derived.Test.YteidjnkkjjigoaaAwake2
import Derived.Test.YteidjnkkjjigoaaGreat
import Derived.Test.YteidjnkkjjigoaaFrameF
import Derived.Laws.Concat
namespace Go.Proofs.Yteidjnkkjjigoaa
open Go.ChangeShapes Go.WideShapes Go.ChangeAt Go.RowKit

/-- What a slice that is gathered owns: the fields picked so far, their bytes where they were. -/
def Picked (w0 w : World) (base : Nat) (v : Value) (ps : List (Fld × Option Addr × Nat)) : Prop := w.ownsRow base 63 4 v ps.length (cellsP ps) ∧ ∀ p ∈ ps, p.1.ok ∧ p.1.shown w0 p.2.1 p.2.2
theorem Picked.nil (w0 w : World) (base : Nat) : Picked w0 w base (.slice none 0 0) [] := ⟨World.ownsRow_nil _ _ _ _, by simp⟩
theorem Picked.view {w0 w : World} {base : Nat} {v : Value} {ps : List (Fld × Option Addr × Nat)} (h : Picked w0 w base v ps) (hb : Below w0.heap.size w0 w) :
    ∃ a cap, v = .slice a ps.length cap ∧ FRow w a (ps.map (·.1)) ∧ (a = none → ps.length = 0 ∧ cap = 0) ∧ ps.length ≤ cap ∧ cap ≤ maxLen :=
  own_fview h.1 (fun p hp => (h.2 p hp).1) (fun p hp => (h.2 p hp).2.below hb)

/-- append of a slice of fields to another one, both the call's own. -/
theorem wpList_append_fields {w : World} {ops : Array Oper} {rest : List Oper} {o : Oper} {a : Act} {Q : Exit → Act → World → Prop} (hgd : o.guard = none) (s x : Operand)
    (ho : o.op = .call { callee := .builtin .append, args := #[s, x], argTypes := #[42, 42] }) (base base2 : Nat) (v v2 : Value) (n m : Nat) (xs : List Value) (hs : a.eval s = v) (hown : w.ownsRow base 63 4 v n xs)
    (qs : List (Fld × Option Addr × Nat)) (hx : a.eval x = v2) (hq : w.ownsRow base2 63 4 v2 m (cellsP qs)) (hm : qs.length = m) (hb : n + m ≤ 1000) (hbase : base ≤ w.heap.size)
    (h : ∀ v' w', w'.ownsRow base 63 4 v' (n + m) (xs ++ cellsP qs) → w.grownBy w' v.ownBlock → wpList Try.prog ops Q rest (a.put o.dst v') w') : wpList Try.prog ops Q (o :: rest) a w := by
  obtain ⟨i0, hi, hz0, hz1, hz2⟩ := info_parts infoF
  rcases hq.2 with ⟨hv2, h0⟩ | ⟨g, cap, cur, hv2, _⟩
  · have hz : qs = [] := List.eq_nil_of_length_eq_zero (by omega)
    subst hz
    subst h0
    refine wpList_append_own_none hgd s x 42 ho base 63 i0 4 Try.underlying42 hi v n xs hs hown (hx.trans hv2) (h v w ?_ (World.grownBy.refl _ _))
    simpa [cellsP] using hown
  · subst hv2
    exact wpList_append_own w hgd s x 42 ho base 63 i0 _ 4 48 Try.underlying42 hi hz0 hz1 hz2 rfl (by decide) v n xs hs hown ⟨g, 0, none⟩ m cap (cellsP qs) hx (by rw [cellsP_len, hm]) (hq.cells rfl) (cellsP_one _)
      (by unfold maxLen; omega) (by omega) hbase (fun v' w' h1 h2 _ => h v' w' h1 h2)

set_option maxHeartbeats 6400000 in
set_option maxRecDepth 100000 in
theorem joins_walk (a : Option Addr) (fs : List Fld) (cap : Nat) (a' : Option Addr) (gs : List Fld) (cap' : Nat) (t : Int) (w : World) (h : FieldsIn w a fs.length cap fs) (h' : FieldsIn w a' gs.length cap' gs) (_ht : -9223372036854775808 ≤ t ∧ t ≤ 9223372036854775807) :
    Calls Try.prog 11 #[.slice a fs.length cap, .slice a' gs.length cap', .int .i64 t] w fun e w' => e = .returned (.bool true) ∧ Below w.heap.size w w' := by
  have hr := h.hrow
  have hr' := h'.hrow
  have hm1 := h.hcap
  have hm2 := h.hmax
  have hm3 := h'.hcap
  have hm4 := h'.hmax
  unfold maxLen at hm2 hm4
  have CG : Hid (∀ W, FRow W a fs → Calls Try.prog 24 #[.slice a fs.length cap] W fun e w' => e = .returned (.bool (greatB fs)) ∧ W = w') := fun W hW => great_any a fs cap W hW (by omega)
  have CG' : Hid (∀ W, FRow W a' gs → Calls Try.prog 24 #[.slice a' gs.length cap'] W fun e w' => e = .returned (.bool (greatB gs)) ∧ W = w') := fun W hW => great_any a' gs cap' W hW (by omega)
  clear h h' _ht
  cases hg1 : greatB fs with
  | true =>
    rw [hg1] at CG
    clear hg1
    go_enter Try.func11, Try.ntmps11
    go_wp2_with fail
    refine (CG.out _ hr).mono ?_
    rintro e w1 ⟨rfl, rfl⟩
    go_wp2_with (go_at_call 25; refine (awake2_any _).mono ?_; rintro e w4 ⟨rfl, hb4⟩)
    go_ret
    exact ⟨rfl, hb4⟩
  | false =>
  obtain ⟨hl1, hs1⟩ := greatB_no hg1
  rw [hg1] at CG
  cases hg2 : greatB gs with
  | true =>
    rw [hg2] at CG'
    clear hg1 hg2
    go_enter Try.func11, Try.ntmps11
    go_wp2_with fail
    refine (CG.out _ hr).mono ?_
    rintro e w1 ⟨rfl, rfl⟩
    go_wp2_with fail
    refine (CG'.out _ hr').mono ?_
    rintro e w1 ⟨rfl, rfl⟩
    go_wp2_with (go_at_call 25; refine (awake2_any _).mono ?_; rintro e w4 ⟨rfl, hb4⟩)
    go_ret
    exact ⟨rfl, hb4⟩
  | false =>
  obtain ⟨hl2, hs2⟩ := greatB_no hg2
  rw [hg2] at CG'
  clear hg1 hg2
  obtain ⟨i0, hi, hz0, hz1, hz2⟩ := info_parts infoF
  go_enter Try.func11, Try.ntmps11
  go_wp2_with fail
  refine (CG.out _ hr).mono ?_
  rintro e w1 ⟨rfl, rfl⟩
  go_wp2_with fail
  refine (CG'.out _ hr').mono ?_
  rintro e w1 ⟨rfl, rfl⟩
  go_wp2_with fail
  refine (awake2_any _).mono ?_
  rintro e w0 ⟨rfl, hb0⟩
  clear CG CG' hs1 hs2
  go_wp2
  go_loopw [7, 9] (fun v si wr => ∃ (k : Nat) (ps : List (Fld × Option Addr × Nat)), k ≤ fs.length ∧ si = .int .i64 k ∧ Picked w wr w0.heap.size v ps ∧ ps.length ≤ k ∧ (∀ p ∈ ps, p.1.tag ≤ t) ∧ Below w0.heap.size w0 wr) (fun _ si _ => fs.length - (intOf si).toNat)
  case atStart => exact ⟨0, [], by omega, rfl, Picked.nil _ _ _, by simp, by simp, Below.refl _ _⟩
  case round =>
    obtain ⟨k, ps, hk, rfl, hp, hpl, hpt, hb⟩ := hrel
    have hbw : Below w.heap.size w wr := hb0.trans (hb.mono hb0.size)
    by_cases hlt : k < fs.length
    · have hz : fs ≠ [] := by intro h; rw [h] at hlt; simp at hlt
      obtain ⟨b0, off, rfl, hc⟩ := hr.2 hz
      obtain ⟨fa, fc, c0, c1, c2, c3, hsh⟩ := hc k hlt
      have hlt0 : b0 < w.heap.size := World.block_lt_of_cell? w ⟨b0, off + k * 4, none⟩ c0
      have d0 := (hbw.cell (p := ⟨b0, off + k * 4, none⟩) hlt0).trans c0
      have d1 := (hbw.cell (p := ⟨b0, off + k * 4 + 1, none⟩) hlt0).trans c1
      have d2 := (hbw.cell (p := ⟨b0, off + k * 4 + 2, none⟩) hlt0).trans c2
      have d3 := (hbw.cell (p := ⟨b0, off + k * 4 + 3, none⟩) hlt0).trans c3
      have hok := hr.1 fs[k] (List.getElem_mem hlt)
      clear c0 c1 c2 c3 hc
      generalize fs[k] = f at *
      obtain ⟨tag, isB, n, b⟩ := f
      simp only at d0 d1 d2 d3
      by_cases hle : tag ≤ t
      · go_wp2_with (at_builtin; go_must (refine wpList_append_own_at _ rfl (.tmp 41) (.tmp 46) 42 rfl w0.heap.size 63 i0 _ 4 48 Try.underlying42 hi hz0 hz1 hz2 rfl (by decide) _ _ _ rfl (hp.1.alloc _) ⟨wr.heap.size, 0, none⟩ 1 1 (pcells (⟨tag, isB, n, b⟩, fa, fc)) rfl rfl (pcells_new wr 63 (⟨tag, isB, n, b⟩, fa, fc)) (pcells_one _) (by unfold maxLen; omega) (by omega) (by have := hb.size; simp; omega) ?_; intro v3 w3 hown3 hgrow3 _ hat3))
        have hB3 : Below w0.heap.size w0 w3 := (hb.alloc hb.size _).grown hgrow3 (by have := hb.size; simp; omega) (fun q hq => (hp.1.lt q hq).1)
        have hp3 : Picked w w3 w0.heap.size v3 (ps ++ [(⟨tag, isB, n, b⟩, fa, fc)]) := by
          refine ⟨by rw [List.length_append, cellsP_snoc]; exact hown3, ?_⟩
          intro p hp'
          rcases List.mem_append.1 hp' with h | h
          · exact hp.2 p h
          · simp at h; subst h; exact ⟨hok, hsh⟩
        clear hown3 hgrow3 hat3 hp d0 d1 d2 d3
        go_wp2
        go_roundw
        case rel => exact ⟨k + 1, _, by omega, by go_num, hp3, by simp; omega, by intro p hp'; rcases List.mem_append.1 hp' with h | h; exact hpt p h; simp at h; subst h; exact hle, hB3⟩
        case measure => simp [intOf]; omega
      · go_wp2
        go_roundw
        case rel => exact ⟨k + 1, ps, by omega, by go_num, hp, by omega, hpt, hb⟩
        case measure => simp [intOf]; omega
    · obtain ⟨wA, rfl⟩ : ∃ wo : World, wo = wr := ⟨_, rfl⟩
      obtain ⟨a1, c1, hv1, hfr1, hn1, hc1, hx1⟩ := hp.view hbw
      subst hv1
      clear hr
      go_wp2
      go_loopw [8, 10] (fun v si wr => ∃ (k : Nat) (qs : List (Fld × Option Addr × Nat)), k ≤ gs.length ∧ si = .int .i64 k ∧ Picked w wr wA.heap.size v qs ∧ qs.length ≤ k ∧ (∀ p ∈ qs, t < p.1.tag) ∧ Below wA.heap.size wA wr) (fun _ si _ => gs.length - (intOf si).toNat)
      case atStart => exact ⟨0, [], by omega, rfl, Picked.nil _ _ _, by simp, by simp, Below.refl _ _⟩
      case round =>
        obtain ⟨k2, qs, hk2, rfl, hp2, hpl2, hpt2, hb2⟩ := hrel
        have hbw2 : Below w.heap.size w wr := hbw.trans (hb2.mono hbw.size)
        by_cases hlt2 : k2 < gs.length
        · have hz : gs ≠ [] := by intro h; rw [h] at hlt2; simp at hlt2
          obtain ⟨b0, off, rfl, hc⟩ := hr'.2 hz
          obtain ⟨fa, fc, c0, c1', c2, c3, hsh⟩ := hc k2 hlt2
          have hlt0 : b0 < w.heap.size := World.block_lt_of_cell? w ⟨b0, off + k2 * 4, none⟩ c0
          have d0 := (hbw2.cell (p := ⟨b0, off + k2 * 4, none⟩) hlt0).trans c0
          have d1 := (hbw2.cell (p := ⟨b0, off + k2 * 4 + 1, none⟩) hlt0).trans c1'
          have d2 := (hbw2.cell (p := ⟨b0, off + k2 * 4 + 2, none⟩) hlt0).trans c2
          have d3 := (hbw2.cell (p := ⟨b0, off + k2 * 4 + 3, none⟩) hlt0).trans c3
          have hok := hr'.1 gs[k2] (List.getElem_mem hlt2)
          clear c0 c1' c2 c3 hc
          generalize gs[k2] = f at *
          obtain ⟨tag, isB, n, b⟩ := f
          simp only at d0 d1 d2 d3
          by_cases hgt : t < tag
          · go_wp2_with (at_builtin; go_must (refine wpList_append_own_at _ rfl (.tmp 61) (.tmp 66) 42 rfl wA.heap.size 63 i0 _ 4 48 Try.underlying42 hi hz0 hz1 hz2 rfl (by decide) _ _ _ rfl (hp2.1.alloc _) ⟨wr.heap.size, 0, none⟩ 1 1 (pcells (⟨tag, isB, n, b⟩, fa, fc)) rfl rfl (pcells_new wr 63 (⟨tag, isB, n, b⟩, fa, fc)) (pcells_one _) (by unfold maxLen; omega) (by omega) (by have := hb2.size; simp; omega) ?_; intro v3 w3 hown3 hgrow3 _ hat3))
            have hB3 : Below wA.heap.size wA w3 := (hb2.alloc hb2.size _).grown hgrow3 (by have := hb2.size; simp; omega) (fun q hq => (hp2.1.lt q hq).1)
            have hp3 : Picked w w3 wA.heap.size v3 (qs ++ [(⟨tag, isB, n, b⟩, fa, fc)]) := by
              refine ⟨by rw [List.length_append, cellsP_snoc]; exact hown3, ?_⟩
              intro p hp'
              rcases List.mem_append.1 hp' with h | h
              · exact hp2.2 p h
              · simp at h; subst h; exact ⟨hok, hsh⟩
            clear hown3 hgrow3 hat3 hp2 d0 d1 d2 d3
            go_wp2
            go_roundw
            case rel => exact ⟨k2 + 1, _, by omega, by go_num, hp3, by simp; omega, by intro p hp'; rcases List.mem_append.1 hp' with h | h; exact hpt2 p h; simp at h; subst h; exact hgt, hB3⟩
            case measure => simp [intOf]; omega
          · go_wp2
            go_roundw
            case rel => exact ⟨k2 + 1, qs, by omega, by go_num, hp2, by omega, hpt2, hb2⟩
            case measure => simp [intOf]; omega
        · obtain ⟨wB, rfl⟩ : ∃ wo : World, wo = wr := ⟨_, rfl⟩
          obtain ⟨a2, c2, hv2, hfr2, hn2, hc2, hx2⟩ := hp2.view hbw2
          subst hv2
          have hfr1B := hfr1.below hb2
          have hown1B := fown_below hp.1 hb2
          clear hr' hfr1
          have CE1 := encode_any a1 (ps.map (·.1)) c1 wB hfr1B (by simpa using hc1) hx1
          rw [List.length_map] at CE1
          have hby1 := encM_byte (ps.map (·.1)) hfr1B.1 hfr1B.bytes
          have hln1 := encM_len (ps.map (·.1))
          have hby2 := encM_byte (qs.map (·.1)) hfr2.1 hfr2.bytes
          have hln2 := encM_len (qs.map (·.1))
          have hjoin := encM_join (ps.map (·.1)) (qs.map (·.1)) t (by intro f hf; obtain ⟨p, hp', rfl⟩ := List.mem_map.1 hf; exact hpt p hp') (by intro f hf; obtain ⟨p, hp', rfl⟩ := List.mem_map.1 hf; exact hpt2 p hp')
          rw [List.length_map, List.length_map] at hjoin
          have HJ : Hid ((encM (ps.map (·.1))).2 = 0 → (encM (qs.map (·.1))).2 = 0 → ps.length + qs.length ≤ 64 → (encM (ps.map (·.1))).1.length + (encM (qs.map (·.1))).1.length ≤ 4096 → encM (ps.map (·.1) ++ qs.map (·.1)) = ((encM (ps.map (·.1))).1 ++ (encM (qs.map (·.1))).1, 0)) := hjoin
          have CE2 : Hid (∀ W, FRow W a2 (qs.map (·.1)) → Calls Try.prog 26 #[.slice a2 qs.length c2] W fun e w' => ∃ v, e = .returned (.tuple #[v, .int .i64 (encM (qs.map (·.1))).2]) ∧ w'.ownsRow W.heap.size 5 1 v (encM (qs.map (·.1))).1.length ((encM (qs.map (·.1))).1.map (Value.int .u8)) ∧ Below W.heap.size W w') := fun W hW => by
            have := encode_any a2 (qs.map (·.1)) c2 W hW (by simpa using hc2) hx2
            rw [List.length_map] at this; exact this
          clear hjoin hpt hpt2 hn1 hn2
          generalize encM (ps.map (·.1)) = x at *
          generalize encM (qs.map (·.1)) = y at *
          obtain ⟨x, ex⟩ := x
          obtain ⟨y, ey⟩ := y
          simp only at hby1 hln1 hby2 hln2
          dsimp only at CE1 CE2 HJ
          go_wp2_with fail
          refine CE1.mono ?_
          rintro e w3 ⟨v3, rfl, hown3, hb3⟩
          clear CE1
          obtain ⟨a3, c3, hv3, -, hr3, -, -, -, hg3⟩ := own_view' hown3 hby1
          subst hv3
          go_wp2_with fail
          refine (CE2.out _ (hfr2.below hb3)).mono ?_
          rintro e w4 ⟨v4, rfl, hown4, hb4⟩
          clear CE2
          obtain ⟨a4, c4, hv4, -, hr4, -, -, -, hg4⟩ := own_view' hown4 hby2
          subst hv4
          have hB4 := (hbw2.trans (hb3.mono hbw2.size)).trans (hb4.mono (Nat.le_trans hbw2.size hb3.size))
          have hwB4 : Below wB.heap.size wB w4 := hb3.trans (hb4.mono hb3.size)
          have hr3' := hr3.below hb4
          have hown1' := fown_below hown1B hwB4
          have hown2' := fown_below hp2.1 hwB4
          clear hr3 hown3 hown4 hb4 hfr1B hfr2 hown1B
          by_cases he1 : ex = 0
          · subst he1
            by_cases he2 : ey = 0
            · subst he2
              by_cases hn64 : 64 < ps.length + qs.length
              · have hn64' : (64 : Int) < (ps.length : Int) + (qs.length : Int) := by omega
                clear HJ
                go_wp2
                go_ret
                exact ⟨rfl, hB4⟩
              · have hn64' : (ps.length : Int) + (qs.length : Int) ≤ 64 := by omega
                by_cases hbig : 4096 < x.length + y.length
                · have hbig' : (4096 : Int) < (x.length : Int) + (y.length : Int) := by omega
                  clear HJ
                  go_wp2
                  go_ret
                  exact ⟨rfl, hB4⟩
                · have hbig' : (x.length : Int) + (y.length : Int) ≤ 4096 := by omega
                  have HJ2 : Hid (encM (ps.map (·.1) ++ qs.map (·.1)) = (x ++ y, 0)) := HJ.out rfl rfl (by omega) (by omega)
                  clear HJ
                  go_wp2_with (at_builtin; go_must (refine wpList_append_fields rfl (.tmp 101) (.tmp 102) rfl w0.heap.size wA.heap.size _ _ ps.length qs.length (cellsP ps) rfl hown1' qs rfl hown2' rfl (by omega) (by have := hb.size; have := hb2.size; have := hwB4.size; omega) ?_; intro v5 w5 hown5 hgrow5))
                  have hB5 : Below w.heap.size w w5 := hB4.grown hgrow5 hB4.size (fun q hq => Nat.le_trans hb0.size (hown1'.lt q hq).1)
                  have hown5' : w5.ownsRow w0.heap.size 63 4 v5 (ps ++ qs).length (cellsP (ps ++ qs)) := by rw [List.length_append, cellsP_append]; exact hown5
                  obtain ⟨a5, c5, hv5, hfr5, -, hc5, hx5⟩ := own_fview hown5' (by intro p hp'; rcases List.mem_append.1 hp' with h | h; exact (hp.2 p h).1; exact (hp2.2 p h).1) (by intro p hp'; rcases List.mem_append.1 hp' with h | h; exact (hp.2 p h).2.below hB5; exact (hp2.2 p h).2.below hB5)
                  rw [List.length_append] at hv5
                  subst hv5
                  have hr3'' := hr3'.grown (fun _ x hx e => by have h1 := hg3 x hx; have h2 := (hp.1.lt x.block e.symm).2; have := hb2.size; omega) hgrow5
                  have hr4'' := hr4.grown (fun _ x hx e => by have h1 := hg4 x hx; have h2 := (hp.1.lt x.block e.symm).2; have := hb2.size; have := hb3.size; omega) hgrow5
                  have CE3 := encode_any a5 ((ps ++ qs).map (·.1)) c5 w5 hfr5 (by simpa using hc5) hx5
                  rw [List.length_map, List.length_append, List.map_append, HJ2.out] at CE3
                  dsimp only at CE3
                  clear hown5 hown5' hgrow5 hfr5 hr3' hr4 hown1' hown2' hp hp2 hg3 hg4
                  refine CE3.mono ?_
                  rintro e w6 ⟨v6, rfl, hown6, hb6⟩
                  clear CE3
                  obtain ⟨a6, c6, hv6, -, hr6, -, -, -⟩ := own_view hown6 (by intro c hc; rcases List.mem_append.1 hc with h | h; exact hby1 c h; exact hby2 c h)
                  subst hv6
                  have t6 := hr6.text (x.length + y.length) c6 (by simp)
                  have t3 := (hr3''.below hb6).text x.length c3 rfl
                  have t4 := (hr4''.below hb6).text y.length c4 rfl
                  have hsa := str_append x y
                  have hss := run_string_add_sum (P := Try.prog) (w := w6) (strOfNums x) (strOfNums y) (by rw [strOfNums_size, strOfNums_size]; omega)
                  have hB6 := hB5.trans (hb6.mono hB5.size)
                  clear hown6 hr6 hr3'' hr4'' hb6
                  go_wp2
                  go_ret
                  exact ⟨rfl, hB6⟩
            · have hne : (ey != 0) = true := by simpa using he2
              clear HJ
              go_wp2
              go_ret
              exact ⟨rfl, hB4⟩
          · have hne : (ex != 0) = true := by simpa using he1
            clear HJ
            go_wp2
            go_ret
            exact ⟨rfl, hB4⟩
set_option maxRecDepth 100000 in
theorem messageJoins_lifted (os : Os) (started : os.Started) (H : Type) (tok : TypeId × Value → H) :
    ReturnsInHanded {} Try.checked os 11 .any (Rows.messageJoinsSpec.pre6 tok Try.prog Try.f11 Rows.messageJoinsRow.domain false) (Rows.messageJoinsSpec.post tok Try.prog Try.f11 false true false false) := by
  refine returnsInHanded_of_change (C := Try.checked) own_knob started (by kernel_rfl) Try.func11
    (ChangeSpec.witness6 (enc := tok) (C := Try.checked) false ⟨#[], #[.slice none 0 0, .slice none 0 0, .int .i64 0], []⟩ 8 (by kernel_rfl) (by kernel_rfl) (by kernel_rfl) (by kernel_rfl)) ?_
  intro W base args ds gs before hval0 hW hcnd _
  have hval : ∀ (j : Nat) t v, Try.f11.params[j]? = some t → args[j]? = some v → Value.okWide Try.prog W .any base t v := hval0
  have hW' := hW
  obtain ⟨p, q, hA0, hV, rfl, hfz, hnd⟩ := hW
  have hA : DataW.TrodAll tok Try.prog W 0 (fun _ => true) true Try.f11.params.toList args.toList ds p := hA0
  rw [Try.params11] at hA hval
  obtain ⟨v0, vs0, d0, ds0, p0, q0, hargs, rfl, rfl, h0, r0⟩ := trodAll_cons hA
  obtain ⟨v1, vs1, d1, ds1, p1, q1, rfl, rfl, rfl, h1, r1⟩ := trodAll_cons r0
  obtain ⟨v2, vs2, d2, ds2, p2, q2, rfl, rfl, rfl, h2, r2⟩ := trodAll_cons r1
  obtain ⟨rfl, rfl, rfl⟩ := trodAll_nil r2
  obtain rfl : args = #[v0, v1, v2] := by cases args; simp_all
  obtain ⟨rfl, rfl⟩ := trodVars_none hV
  obtain ⟨a0, len0, cap0, rfl⟩ := okWide_slice Try.underlying42 (hval 0 42 v0 rfl rfl)
  have k0 := h0
  have lt0 : ∀ x ∈ p0, x.block < W.heap.size := by obtain ⟨m, hm⟩ := k0; exact DataW.trod_lt m _ _ _ hm
  obtain ⟨z0, w0⟩ : ∃ zs, FieldsIn W a0 len0 cap0 zs := by obtain ⟨fuel, hf⟩ := h0; exact fields_in hf
  obtain rfl := w0.hlen
  obtain ⟨a1, len1, cap1, rfl⟩ := okWide_slice Try.underlying42 (hval 1 42 v1 rfl rfl)
  have k1 := h1
  have lt1 : ∀ x ∈ p1, x.block < W.heap.size := by obtain ⟨m, hm⟩ := k1; exact DataW.trod_lt m _ _ _ hm
  obtain ⟨z1, w1⟩ : ∃ zs, FieldsIn W a1 len1 cap1 zs := by obtain ⟨fuel, hf⟩ := h1; exact fields_in hf
  obtain rfl := w1.hlen
  obtain ⟨a2, rfl, rfl, rfl, w2⟩ := open_int Try.underlying3 (hval 2 3 v2 rfl rfl) h2
  clear hA0 hval0
  refine (joins_walk a0 z0 cap0 a1 z1 cap1 a2 W w0 w1 (i64_of_wf w2)).mono fun e W' ⟨he, bel⟩ => ?_
  subst he
  exact ⟨_, rfl, _, _, _, [], _, [], hW', trodAll_mk1 (shut_bool Try.underlying4 _), (trodAll_cons_mk (Below.trod laid_out (by kernel_rfl) (of_decide_eq_true (by kernel_rfl)) k0 bel lt0) (trodAll_cons_mk (Below.trod laid_out (by kernel_rfl) (of_decide_eq_true (by kernel_rfl)) k1 bel lt1) (trodAll_cons_mk (shut_int Try.underlying3 w2) trodAll_mk0))), rfl, bel.frame _, fun h => by cases h⟩

theorem messageJoins_holds : Rows.MessageJoinsSaid :=
  OpenClaim.holds_of_wide 11 Try.f11 rfl rfl rfl rfl rfl rfl rfl ⟨rfl, rfl, rfl, rfl, rfl⟩ rfl rfl rfl rfl rfl (by kernel_rfl) Try.func11 (by kernel_rfl)
    (of_decide_eq_true (by kernel_rfl)) (by unfold Func.isWrapper; first | (rw [if_pos (by decide +kernel)]; kernel_rfl) | (rw [if_neg (by decide +kernel)]; exact ⟨rfl, rfl⟩))
    (fun os started H tok _ => messageJoins_lifted os started H tok)
#print axioms messageJoins_holds
end Go.Proofs.Yteidjnkkjjigoaa
