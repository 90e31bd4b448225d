/- Of any tag, number and bytes the law MessageMakes answers true, and leaves its arguments: what Num and Blob make is what was handed in, and the bytes are its own. No conditions. -/
import Derived.Test.YteidjnkkjjigoaaAwake2
import Derived.Test.YteidjnkkjjigoaaFrame
namespace Go.Proofs.Yteidjnkkjjigoaa
open Go.ChangeShapes Go.WideShapes Go.ChangeAt Go.RowKit

set_option maxHeartbeats 3200000 in
set_option maxRecDepth 100000 in
theorem makes_walk (tag n : Int) (a : Option Addr) (zs : List Int) (cap : Nat) (w : World) (_ht : -9223372036854775808 ≤ tag ∧ tag ≤ 9223372036854775807) (_hn : 0 ≤ n ∧ n < 18446744073709551616) (h : BytesIn w a zs.length cap zs) :
    Calls Try.prog 10 #[.int .i64 tag, .int .u64 n, .slice a zs.length cap] w fun e w' => e = .returned (.bool true) ∧ Below w.heap.size w w' := by
  by_cases hlong : 1000 < zs.length
  · clear h
    go_enter Try.func10, Try.ntmps10
    go_wp2_with (go_at_call 25; refine (awake2_any _).mono ?_; rintro e w4 ⟨rfl, hb4⟩)
    go_ret
    exact ⟨rfl, hb4⟩
  have hr := h.hrow
  have hnil := h.hnil
  have hlb : decide (1000 < (zs.length : Int)) = false := by simp; omega
  clear h
  go_enter Try.func10, Try.ntmps10
  go_wp2_with fail
  refine (awake2_any _).mono ?_
  rintro e w0 ⟨rfl, hb0⟩
  have hr0 := hr.below hb0
  have hw00 : w.heap.size ≤ w0.heap.size := hb0.size
  go_wp2_with (at_builtin; go_must (refine wpList_append_bytes rfl (.tmp 19) (.tmp 20) rfl w0.heap.size _ 0 [] rfl (World.ownsRow_lit w0 #[] 0 (Nat.le_refl _) (by simp [maxLen]) rfl) a zs zs.length cap rfl rfl (hr0.alloc _) hnil (by omega) (by simp) ?_; intro v1 w1 hown1 hgrow1))
  simp only [Nat.zero_add, List.nil_append] at hown1
  have hb1 : Below w0.heap.size w0 w1 := below_own ((Below.refl _ _).alloc (Nat.le_refl _) _) (World.ownsRow_lit w0 #[] 0 (Nat.le_refl _) (by simp [maxLen]) rfl) (by simp) hgrow1
  obtain ⟨a1, c1, hv1, -, hr1, hnil1, -, -, hbl1⟩ := own_view' hown1 hr.byte
  subst hv1
  have hB1 := hb0.trans (hb1.mono hb0.size)
  clear hgrow1 hb0 hb1 hr0
  refine (num_any tag n _).mono ?_
  rintro e w2 ⟨rfl, hb2⟩
  have hr2 := hr1.below hb2
  have hown2 := own_below hown1 hb2
  have hB2 := hB1.trans (hb2.mono hB1.size)
  clear hown1 hr1 hb2 hB1
  go_wp2_with fail
  refine (blob_any tag a1 zs c1 _ hr2 hnil1 (by omega)).mono ?_
  rintro e w3 ⟨ga, gc, rfl, hgr, hgn, hgl, hgm, hgb, hb3⟩
  have hown3 := own_below hown2 hb3
  have hB3 := hB2.trans (hb3.mono hB2.size)
  have hgne : ∀ x, ga = some x → ∀ k, (Value.slice a1 zs.length c1).ownBlock = some k → x.block ≠ k := fun x hx k hk => by
    have h1 := hgb x hx
    have h2 := (hown2.lt k hk).2
    omega
  clear hown2 hr2 hb3 hB2
  have hb8 : ((w3.alloc (.cells #[.int .i64 tag, .bool false, .int .u64 n, .slice none 0 0] 63)).alloc (.cells #[.int .i64 tag, .bool true, .int .u64 0, .slice ga zs.length gc] 63)).heap[w3.heap.size]? = some (.cells #[.int .i64 tag, .bool false, .int .u64 n, .slice none 0 0] 63 (0, 0)) := by
    rw [Below.heap_alloc _ _ _ (by simp)]; exact heap_alloc_new w3 _
  have hb9 : ((w3.alloc (.cells #[.int .i64 tag, .bool false, .int .u64 n, .slice none 0 0] 63)).alloc (.cells #[.int .i64 tag, .bool true, .int .u64 0, .slice ga zs.length gc] 63)).heap[w3.heap.size + 1]? = some (.cells #[.int .i64 tag, .bool true, .int .u64 0, .slice ga zs.length gc] 63 (0, 0)) := by
    have := heap_alloc_new (w3.alloc (.cells #[.int .i64 tag, .bool false, .int .u64 n, .slice none 0 0] 63)) (.cells #[.int .i64 tag, .bool true, .int .u64 0, .slice ga zs.length gc] 63)
    simpa using this
  have hB4 : Below w.heap.size w ((w3.alloc (.cells #[.int .i64 tag, .bool false, .int .u64 n, .slice none 0 0] 63)).alloc (.cells #[.int .i64 tag, .bool true, .int .u64 0, .slice ga zs.length gc] 63)) := (hB3.alloc hB3.size _).alloc (by have := hB3.size; simp; omega) _
  have hgr4 := (hgr.alloc (.cells #[.int .i64 tag, .bool false, .int .u64 n, .slice none 0 0] 63)).alloc (.cells #[.int .i64 tag, .bool true, .int .u64 0, .slice ga zs.length gc] 63)
  have hown4 := (hown3.alloc (.cells #[.int .i64 tag, .bool false, .int .u64 n, .slice none 0 0] 63)).alloc (.cells #[.int .i64 tag, .bool true, .int .u64 0, .slice ga zs.length gc] 63)
  have hown3' := hown3
  have hw0 : w.heap.size ≤ w0.heap.size := hw00
  clear hgr
  go_wp2
  go_loopw [10] (fun si wr => ∃ (k : Nat) (xs : List Int), k ≤ zs.length ∧ si = .int .i64 k ∧ (∀ c ∈ xs, 0 ≤ c ∧ c ≤ 255) ∧ wr.ownsRow w0.heap.size 5 1 (.slice a1 zs.length c1) zs.length (xs.map (Value.int .u8)) ∧
      wr.heap[w3.heap.size]? = some (.cells #[.int .i64 tag, .bool false, .int .u64 n, .slice none 0 0] 63 (0, 0)) ∧ wr.heap[w3.heap.size + 1]? = some (.cells #[.int .i64 tag, .bool true, .int .u64 0, .slice ga zs.length gc] 63 (0, 0)) ∧ Row wr ga zs ∧ Below w.heap.size w wr) (fun si _ => zs.length - (intOf si).toNat)
  case atStart => exact ⟨0, zs, by omega, rfl, hr.byte, hown4, hb8, hb9, hgr4, hB4⟩
  case round =>
    obtain ⟨k, xs, hk, rfl, hxs, hownr, hb8r, hb9r, hgrr, hBr⟩ := hrel
    clear hb8 hb9 hB4 hgr4 hown4
    by_cases hlt : k < zs.length
    · obtain ⟨g, c, hsh, hg, -, -⟩ := own_shape hownr (by omega)
      simp only [Value.slice.injEq, true_and] at hsh
      obtain ⟨rfl, rfl⟩ := hsh
      have hxl : xs.length = zs.length := by have := hownr.1; simpa using this
      have hc := hownr.cellAt k (by omega)
      have hx : (xs.map (Value.int .u8))[k]? = some (.int .u8 (xs.getD k 0)) := by simp [show k < xs.length by omega]
      rw [hx] at hc
      have hf := hownr.frozenAt k
      have hcb : 0 ≤ xs.getD k 0 ∧ xs.getD k 0 ≤ 255 := by
        have : xs.getD k 0 = xs[k]'(by omega) := by simp [show k < xs.length by omega]
        rw [this]; exact hxs _ (List.getElem_mem _)
      generalize xs.getD k 0 = x at *
      have hst := hownr.stored k (.int .u8 ((x + 1) % 256))
      have hgw3 : g < w3.heap.size := (hown3'.lt g rfl).2
      clear hx hown3 hgn hgl hgm hr
      have hset : (xs.map (Value.int .u8)).set k (.int .u8 ((x + 1) % 256)) = (xs.set k ((x + 1) % 256)).map (Value.int .u8) := by rw [List.map_set]
      rw [hset] at hst
      have hxs' : ∀ c ∈ xs.set k ((x + 1) % 256), 0 ≤ c ∧ c ≤ 255 := by
        intro c hc
        rcases List.mem_or_eq_of_mem_set hc with h | h
        · exact hxs c h
        · omega
      have h8 := (Below.heap_setCell wr ⟨g, k, none⟩ (.int .u8 ((x + 1) % 256)) w3.heap.size (by simp; omega)).trans hb8r
      have h9 := (Below.heap_setCell wr ⟨g, k, none⟩ (.int .u8 ((x + 1) % 256)) (w3.heap.size + 1) (by simp; omega)).trans hb9r
      have hgr2 := hgrr.setCell ⟨g, k, none⟩ (.int .u8 ((x + 1) % 256)) (fun y hy => hgne y hy g rfl)
      have hB2 := hBr.setCell (p := ⟨g, k, none⟩) (Nat.le_trans hw0 hg) (.int .u8 ((x + 1) % 256))
      have hown5 := hst.1
      clear hset hst hgrr hb8r hb9r hownr hBr
      go_wp2
      go_roundw
      case rel => exact ⟨k + 1, xs.set k ((x + 1) % 256), by omega, by go_num, hxs', hown5, h8, h9, hgr2, hB2⟩
      case measure => simp [intOf]; omega
    · have t1 := hgrr.text zs.length gc rfl
      have t2 := (hr.below hBr).text zs.length cap rfl
      have c80 := box_cell hb8r 0
      have c81 := box_cell hb8r 1
      have c82 := box_cell hb8r 2
      have c83 := box_cell hb8r 3
      have c90 := box_cell hb9r 0
      have c91 := box_cell hb9r 1
      have c92 := box_cell hb9r 2
      have c93 := box_cell hb9r 3
      simp at c80 c81 c82 c83 c90 c91 c92 c93
      clear hown3 hgn hgl hgm hr hownr hb8r hb9r hgrr hxs
      go_wp2
      go_ret
      exact ⟨rfl, hBr⟩

set_option maxRecDepth 100000 in
theorem messageMakes_lifted (os : Os) (started : os.Started) (H : Type) (tok : TypeId × Value → H) :
    ReturnsInHanded {} Try.checked os 10 .any (Rows.messageMakesSpec.pre6 tok Try.prog Try.f10 Rows.messageMakesRow.domain false) (Rows.messageMakesSpec.post tok Try.prog Try.f10 false true false false) := by
  refine returnsInHanded_of_change (C := Try.checked) own_knob started (by kernel_rfl) Try.func10
    (ChangeSpec.witness6 (enc := tok) (C := Try.checked) false ⟨#[], #[.int .i64 0, .int .u64 0, .slice none 0 0], []⟩ 8 (by kernel_rfl) (by kernel_rfl) (by kernel_rfl) (by kernel_rfl)) ?_
  intro W base args ds gs before hval0 hW hcnd _
  have hval : ∀ (j : Nat) t v, Try.f10.params[j]? = some t → args[j]? = some v → Value.okWide Try.prog W .any base t v := hval0
  have hW' := hW
  obtain ⟨p, q, hA0, hV, rfl, hfz, hnd⟩ := hW
  have hA : DataW.TrodAll tok Try.prog W 0 (fun _ => true) true Try.f10.params.toList args.toList ds p := hA0
  rw [Try.params10] at hA hval
  obtain ⟨v0, vs0, d0, ds0, p0, q0, hargs, rfl, rfl, h0, r0⟩ := trodAll_cons hA
  obtain ⟨v1, vs1, d1, ds1, p1, q1, rfl, rfl, rfl, h1, r1⟩ := trodAll_cons r0
  obtain ⟨v2, vs2, d2, ds2, p2, q2, rfl, rfl, rfl, h2, r2⟩ := trodAll_cons r1
  obtain ⟨rfl, rfl, rfl⟩ := trodAll_nil r2
  obtain rfl : args = #[v0, v1, v2] := by cases args; simp_all
  obtain ⟨rfl, rfl⟩ := trodVars_none hV
  obtain ⟨a0, rfl, rfl, rfl, w0⟩ := open_int Try.underlying3 (hval 0 3 v0 rfl rfl) h0
  obtain ⟨a1, rfl, rfl, rfl, w1⟩ := open_int Try.underlying23 (hval 1 23 v1 rfl rfl) h1
  obtain ⟨a2, len2, cap2, rfl⟩ := okWide_slice Try.underlying22 (hval 2 22 v2 rfl rfl)
  have k2 := h2
  have lt2 : ∀ x ∈ p2, x.block < W.heap.size := by obtain ⟨m, hm⟩ := k2; exact DataW.trod_lt m _ _ _ hm
  obtain ⟨z2, w2⟩ : ∃ zs, BytesIn W a2 len2 cap2 zs := by obtain ⟨fuel, hf⟩ := h2; exact bytes_in hf
  obtain rfl := w2.hlen
  clear hA0 hval0
  refine (makes_walk a0 a1 a2 z2 cap2 W (i64_of_wf w0) (u64_of_wf w1) w2).mono fun e W' ⟨he, bel⟩ => ?_
  subst he
  exact ⟨_, rfl, _, _, _, [], _, [], hW', trodAll_mk1 (shut_bool Try.underlying4 _), (trodAll_cons_mk (shut_int Try.underlying3 w0) (trodAll_cons_mk (shut_int Try.underlying23 w1) (trodAll_cons_mk (Below.trod laid_out (by kernel_rfl) (of_decide_eq_true (by kernel_rfl)) k2 bel lt2) trodAll_mk0))), rfl, bel.frame _, fun h => by cases h⟩

theorem messageMakes_holds : Rows.MessageMakesSaid :=
  OpenClaim.holds_of_wide 10 Try.f10 rfl rfl rfl rfl rfl rfl rfl ⟨rfl, rfl, rfl, rfl, rfl⟩ rfl rfl rfl rfl rfl (by kernel_rfl) Try.func10 (by kernel_rfl)
    (of_decide_eq_true (by kernel_rfl)) (by unfold Func.isWrapper; first | (rw [if_pos (by decide +kernel)]; kernel_rfl) | (rw [if_neg (by decide +kernel)]; exact ⟨rfl, rfl⟩))
    (fun os started H tok _ => messageMakes_lifted os started H tok)
#print axioms messageMakes_holds
end Go.Proofs.Yteidjnkkjjigoaa
