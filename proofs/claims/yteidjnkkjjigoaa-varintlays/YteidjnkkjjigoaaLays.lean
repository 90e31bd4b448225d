/- Of any bytes, any uint64 and any other bytes the law VarintLays answers true, and leaves its arguments: Append lays the number's bytes behind any others, and Read reads them, whatever stands behind. No conditions. -/
import Derived.Test.YteidjnkkjjigoaaPureB
import Derived.Test.YteidjnkkjjigoaaApp
import Derived.Test.YteidjnkkjjigoaaRefA
import Derived.Test.YteidjnkkjjigoaaRead
import Derived.Test.YteidjnkkjjigoaaVarC
import Derived.Test.YteidjnkkjjigoaaAwake1
import Derived.Test.YteidjnkkjjigoaaFrame
namespace Go.Proofs.Yteidjnkkjjigoaa
open Go.ChangeShapes Go.WideShapes Go.ChangeAt Go.RowKit

set_option maxHeartbeats 3200000 in
set_option maxRecDepth 100000 in
theorem lays_walk (a : Option Addr) (zs : List Int) (cap : Nat) (n : Int) (a' : Option Addr) (ys : List Int) (cap' : Nat) (w : World) (h : BytesIn w a zs.length cap zs) (hn : 0 ≤ n ∧ n < 18446744073709551616) (h' : BytesIn w a' ys.length cap' ys) :
    Calls Try.prog 3 #[.slice a zs.length cap, .int .u64 n, .slice a' ys.length cap'] w fun e w' => e = .returned (.bool true) ∧ Below w.heap.size w w' := by
  obtain ⟨hn0, hn1⟩ := hn
  by_cases hl1 : 100 < zs.length
  · clear h h'
    go_enter Try.func3, Try.ntmps3
    go_wp2_with (go_at_call 12; refine (awake1_any _).mono ?_; rintro e w4 ⟨rfl, hb4⟩)
    go_ret
    exact ⟨rfl, hb4⟩
  by_cases hl2 : 100 < ys.length
  · clear h h'
    go_enter Try.func3, Try.ntmps3
    go_wp2_with (go_at_call 12; refine (awake1_any _).mono ?_; rintro e w4 ⟨rfl, hb4⟩)
    go_ret
    exact ⟨rfl, hb4⟩
  have hl := enc_len n
  have hr := h.hrow
  have hnil := h.hnil
  have hr' := h'.hrow
  have hnil' := h'.hnil
  clear h h'
  go_enter Try.func3, Try.ntmps3
  go_wp2_with (first
    | (at_builtin; go_must (refine wpList_append_bytes rfl (.tmp 21) (.tmp 22) rfl w.heap.size _ 0 [] rfl (World.ownsRow_lit w #[] 0 (Nat.le_refl _) (by simp [maxLen]) rfl) a zs zs.length cap rfl rfl (hr.alloc _) hnil (by omega) (by simp) ?_; intro v1 w1 hown1 hgrow1)))
  simp only [Nat.zero_add, List.nil_append] at hown1
  have hb1 : Below w.heap.size w w1 := below_own ((Below.refl _ _).alloc (Nat.le_refl _) _) (World.ownsRow_lit w #[] 0 (Nat.le_refl _) (by simp [maxLen]) rfl) (by simp) hgrow1
  obtain ⟨a1, c1, hv1, -, hr1, hnil1, -, -⟩ := own_view hown1 hr.byte
  subst hv1
  clear hown1 hgrow1
  refine (append_any a1 zs c1 n _ hr1 hnil1 (by omega) hn0 hn1).mono ?_
  rintro e w2 ⟨rfl, hown2, hb2⟩
  have hby : ∀ c ∈ zs ++ enc n, 0 ≤ c ∧ c ≤ 255 := by
    intro c hc
    rcases List.mem_append.1 hc with h | h
    · exact hr.byte c h
    · exact enc_byte n hn0 c h
  have hrb := Row.own hby (by simp) hown2
  have hbb := hb1.trans (hb2.mono hb1.size)
  have hr2 := hr.below hbb
  have hr2' := hr'.below hbb
  clear hown2 hb1 hb2 hr1 hnil1 hr hr'
  go_wp2_with (first
    | (at_builtin; go_must (refine wpList_append_bytes rfl (.tmp 26) (.tmp 27) rfl w2.heap.size _ 0 [] rfl (World.ownsRow_lit w2 #[] 0 (Nat.le_refl _) (by simp [maxLen]) rfl) a zs zs.length cap rfl rfl (hr2.alloc _) hnil (by omega) (by simp) ?_; intro v3 w3 hown3 hgrow3)))
  simp only [Nat.zero_add, List.nil_append] at hown3
  have hb3 : Below w2.heap.size w2 w3 := below_own ((Below.refl _ _).alloc (Nat.le_refl _) _) (World.ownsRow_lit w2 #[] 0 (Nat.le_refl _) (by simp [maxLen]) rfl) (by simp) hgrow3
  clear hgrow3
  refine (rbytes_any n _ hn0 hn1).mono ?_
  rintro e w4 ⟨g4, c4, rfl, hg4, hc4, hown4, hb4⟩
  have hr4 := Row.own (enc_byte n hn0) rfl hown4
  have hown3' := own_below hown3 hb4
  have hb24 := hb3.trans (hb4.mono hb3.size)
  clear hown4 hown3 hb3 hb4
  go_wp2_with (first
    | (at_builtin; go_must (refine wpList_append_bytes rfl (.tmp 28) (.tmp 30) rfl w2.heap.size _ zs.length (zs.map (Value.int .u8)) rfl hown3' (some ⟨g4, 0, none⟩) (enc n) (enc n).length c4 rfl rfl hr4 (by intro h; cases h) (by omega) hb24.size ?_; intro v5 w5 hown5 hgrow5)))
  have hb25 := below_own hb24 hown3' hb24.size hgrow5
  rw [← List.map_append] at hown5
  obtain ⟨a5, c5, hv5, -, hr5, -, -, -⟩ := own_view hown5 hby
  subst hv5
  have hrb5 := hrb.below hb25
  have hr5' := hr2'.below hb25
  have hb5 := hbb.trans (hb25.mono hbb.size)
  clear hrb hr2 hr2' hown5 hgrow5 hown3' hb24 hr4 hbb hb25
  refine (rbytes_any n _ hn0 hn1).mono ?_
  rintro e w6 ⟨g6, c6, rfl, hg6, hc6, hown6, hb6⟩
  have hr6 := Row.own (enc_byte n hn0) rfl hown6
  have hlit := own_below (World.ownsRow_lit (base := w5.heap.size) (e := 5) (size := 1) w5 #[] 0 (Nat.le_refl _) (by simp [maxLen]) rfl) hb6
  have hb56 : Below w5.heap.size w5 w6 := ((Below.refl _ _).alloc (Nat.le_refl _) _).trans (hb6.mono (by simp))
  have hr6' := hr5'.below hb56
  clear hown6 hb6
  go_wp2_with (first
    | (at_builtin; (refine wpList_append_bytes rfl (.tmp 33) (.tmp 35) rfl w5.heap.size _ 0 [] rfl hlit (some ⟨g6, 0, none⟩) (enc n) (enc n).length c6 rfl rfl hr6 (by intro h; cases h) (by omega) hb56.size ?_; intro v7 w7 hown7 hgrow7; have hb57 := below_own hb56 hlit hb56.size hgrow7; have hr7' := hr5'.below hb57; simp only [Nat.zero_add, List.nil_append] at hown7))
    | (at_builtin; go_must (refine wpList_append_bytes rfl (.tmp 36) (.tmp 37) rfl w5.heap.size _ (enc n).length ((enc n).map (Value.int .u8)) rfl hown7 a' ys ys.length cap' rfl rfl hr7' hnil' (by omega) hb57.size ?_; intro v8 w8 hown8 hgrow8)))
  have hb58 := below_own hb57 hown7 hb57.size hgrow8
  have hby8 : ∀ c ∈ enc n ++ ys, 0 ≤ c ∧ c ≤ 255 := by
    intro c hc
    rcases List.mem_append.1 hc with h | h
    · exact enc_byte n hn0 c h
    · exact hr5'.byte c h
  rw [← List.map_append] at hown8
  obtain ⟨a8, c8, hv8, -, hr8, -, -, -⟩ := own_view hown8 hby8
  subst hv8
  have t1 := (hrb5.below hb58).text (zs.length + (enc n).length) (zs.length + (enc n).length) (by simp)
  have t2 := (hr5.below hb58).text (zs.length + (enc n).length) c5 (by simp)
  have hb8 := hb5.trans (hb58.mono hb5.size)
  have hcall := read_any a8 (enc n ++ ys) c8 w8 hr8 (by simp; omega)
  rw [List.length_append, rd_enc n ys hn0 hn1] at hcall
  clear hrb5 hr5 hr5' hb58 hown8 hgrow8 hown7 hgrow7 hb57 hr7' hlit hb56 hr6 hr6' hr8 hby8 hby hb5
  refine hcall.mono ?_
  rintro e w9 ⟨rfl, rfl⟩
  clear hcall
  go_wp2_with fail
  refine (size_any _ _ hn0 hn1).mono ?_
  rintro e w9 ⟨rfl, rfl⟩
  go_wp2_with fail
  refine (rbytes_any n _ hn0 hn1).mono ?_
  rintro e w10 ⟨g10, c10, rfl, -, -, -, hb10⟩
  have hb10' := hb8.trans (hb10.mono hb8.size)
  clear hb8 hb10
  go_wp2_with fail
  refine (rbytes_any n _ hn0 hn1).mono ?_
  rintro e w11 ⟨g11, c11, rfl, -, -, -, hb11⟩
  have hb11' := hb10'.trans (hb11.mono hb10'.size)
  clear hb10' hb11
  go_wp2_with (go_at_call 12; refine (awake1_any _).mono ?_; rintro e w4 ⟨rfl, hb12⟩)
  go_ret
  exact ⟨rfl, hb11'.trans (hb12.mono hb11'.size)⟩

set_option maxRecDepth 100000 in
theorem varintLays_lifted (os : Os) (started : os.Started) (H : Type) (tok : TypeId × Value → H) :
    ReturnsInHanded {} Try.checked os 3 .any (Rows.varintLaysSpec.pre6 tok Try.prog Try.f3 Rows.varintLaysRow.domain false) (Rows.varintLaysSpec.post tok Try.prog Try.f3 false true false false) := by
  refine returnsInHanded_of_change (C := Try.checked) own_knob started (by kernel_rfl) Try.func3
    (ChangeSpec.witness6 (enc := tok) (C := Try.checked) false ⟨#[], #[.slice none 0 0, .int .u64 0, .slice none 0 0], []⟩ 8 (by kernel_rfl) (by kernel_rfl) (by kernel_rfl) (by kernel_rfl)) ?_
  intro W base args ds gs before hval0 hW hcnd _
  have hval : ∀ (j : Nat) t v, Try.f3.params[j]? = some t → args[j]? = some v → Value.okWide Try.prog W .any base t v := hval0
  have hW' := hW
  obtain ⟨p, q, hA0, hV, rfl, hfz, hnd⟩ := hW
  have hA : DataW.TrodAll tok Try.prog W 0 (fun _ => true) true Try.f3.params.toList args.toList ds p := hA0
  rw [Try.params3] at hA hval
  obtain ⟨v0, vs0, d0, ds0, p0, q0, hargs, rfl, rfl, h0, r0⟩ := trodAll_cons hA
  obtain ⟨v1, vs1, d1, ds1, p1, q1, rfl, rfl, rfl, h1, r1⟩ := trodAll_cons r0
  obtain ⟨v2, vs2, d2, ds2, p2, q2, rfl, rfl, rfl, h2, r2⟩ := trodAll_cons r1
  obtain ⟨rfl, rfl, rfl⟩ := trodAll_nil r2
  obtain rfl : args = #[v0, v1, v2] := by cases args; simp_all
  obtain ⟨rfl, rfl⟩ := trodVars_none hV
  obtain ⟨a0, len0, cap0, rfl⟩ := okWide_slice Try.underlying22 (hval 0 22 v0 rfl rfl)
  have k0 := h0
  have lt0 : ∀ x ∈ p0, x.block < W.heap.size := by obtain ⟨m, hm⟩ := k0; exact DataW.trod_lt m _ _ _ hm
  obtain ⟨z0, w0⟩ : ∃ zs, BytesIn W a0 len0 cap0 zs := by obtain ⟨fuel, hf⟩ := h0; exact bytes_in hf
  obtain rfl := w0.hlen
  obtain ⟨a1, rfl, rfl, rfl, w1⟩ := open_int Try.underlying23 (hval 1 23 v1 rfl rfl) h1
  obtain ⟨a2, len2, cap2, rfl⟩ := okWide_slice Try.underlying22 (hval 2 22 v2 rfl rfl)
  have k2 := h2
  have lt2 : ∀ x ∈ p2, x.block < W.heap.size := by obtain ⟨m, hm⟩ := k2; exact DataW.trod_lt m _ _ _ hm
  obtain ⟨z2, w2⟩ : ∃ zs, BytesIn W a2 len2 cap2 zs := by obtain ⟨fuel, hf⟩ := h2; exact bytes_in hf
  obtain rfl := w2.hlen
  clear hA0 hval0
  refine (lays_walk a0 z0 cap0 a1 a2 z2 cap2 W w0 (u64_of_wf w1) w2).mono fun e W' ⟨he, bel⟩ => ?_
  subst he
  exact ⟨_, rfl, _, _, _, [], _, [], hW', trodAll_mk1 (shut_bool Try.underlying4 _), (trodAll_cons_mk (Below.trod laid_out (by kernel_rfl) (of_decide_eq_true (by kernel_rfl)) k0 bel lt0) (trodAll_cons_mk (shut_int Try.underlying23 w1) (trodAll_cons_mk (Below.trod laid_out (by kernel_rfl) (of_decide_eq_true (by kernel_rfl)) k2 bel lt2) trodAll_mk0))), rfl, bel.frame _, fun h => by cases h⟩

theorem varintLays_holds : Rows.VarintLaysSaid :=
  OpenClaim.holds_of_wide 3 Try.f3 rfl rfl rfl rfl rfl rfl rfl ⟨rfl, rfl, rfl, rfl, rfl⟩ rfl rfl rfl rfl rfl (by kernel_rfl) Try.func3 (by kernel_rfl)
    (of_decide_eq_true (by kernel_rfl)) (by unfold Func.isWrapper; first | (rw [if_pos (by decide +kernel)]; kernel_rfl) | (rw [if_neg (by decide +kernel)]; exact ⟨rfl, rfl⟩))
    (fun os started H tok _ => varintLays_lifted os started H tok)
#print axioms varintLays_holds
end Go.Proofs.Yteidjnkkjjigoaa
