/- Of any bytes the law MessageDecodes answers true, and leaves its argument: their fields are the document's, and laid again they are the bytes. No conditions. -/
import Derived.Test.YteidjnkkjjigoaaPureE
import Derived.Test.YteidjnkkjjigoaaRefG
import Derived.Test.YteidjnkkjjigoaaSame
import Derived.Test.YteidjnkkjjigoaaAwake2
import Derived.Test.YteidjnkkjjigoaaFrame
namespace Go.Proofs.Yteidjnkkjjigoaa
open Go.ChangeShapes Go.WideShapes Go.ChangeAt Go.RowKit

set_option maxHeartbeats 6400000 in
set_option maxRecDepth 100000 in
theorem decodes_walk (a : Option Addr) (zs : List Int) (cap : Nat) (w : World) (h : BytesIn w a zs.length cap zs) :
    Calls Try.prog 8 #[.slice a zs.length cap] w fun e w' => e = .returned (.bool true) ∧ Below w.heap.size w w' := by
  by_cases hlong : 5000 < zs.length
  · clear h
    go_enter Try.func8, Try.ntmps8
    go_wp2_with (go_at_call 25; refine (awake2_any _).mono ?_; rintro e w4 ⟨rfl, hb4⟩)
    go_ret
    exact ⟨rfl, hb4⟩
  have hr := h.hrow
  have hnil := h.hnil
  have hcap := h.hcap
  have hmax := h.hmax
  have hz := hr.byte
  have hdl := decM_len zs
  have CD : Hid (∀ W, Row W a zs → Calls Try.prog 29 #[.slice a zs.length cap] W fun e w' => ∃ a2 c2, e = .returned (.tuple #[.slice a2 (decM zs).1.length c2, .int .i64 (decM zs).2.1, .int .i64 (decM zs).2.2]) ∧ FRow w' a2 (decM zs).1 ∧ (decM zs).1.length ≤ c2 ∧ c2 ≤ maxLen ∧ Below W.heap.size W w') := fun W hW => (decode_any a zs cap W hW hnil hcap).mono (by
    rintro e w1 ⟨v1, ps, rfl, hp, hps, hb1⟩
    obtain ⟨a2, c2, hv2, hfr2, -, hc2, hm2⟩ := hp.view
    subst hv2
    have hpl : ps.length = (decM zs).1.length := by rw [← hps, List.length_map]
    rw [hps] at hfr2
    rw [hpl] at hc2
    exact ⟨a2, c2, by rw [hpl], hfr2, hc2, hm2, hb1⟩)
  have CR : Hid (∀ W, Row W a zs → Calls Try.prog 31 #[.slice a zs.length cap] W fun e w' => ∃ a2 c2, e = .returned (.tuple #[.slice a2 (decM zs).1.length c2, .int .i64 (decM zs).2.1, .int .i64 (decM zs).2.2]) ∧ FRow w' a2 (decM zs).1 ∧ Below W.heap.size W w') := fun W hW => (rdecode_any a zs cap W hW hnil hcap hmax).mono (by
    rintro e w1 ⟨v1, ps, rfl, hp, hps, hb1⟩
    obtain ⟨a2, c2, hv2, hfr2, -, -, -⟩ := hp.view hb1
    subst hv2
    have hpl : ps.length = (decM zs).1.length := by rw [← hps, List.length_map]
    rw [hps] at hfr2
    exact ⟨a2, c2, by rw [hpl], hfr2, hb1⟩)
  have CS : Hid (∀ a1 c1 a2 c2 W, FRow W a1 (decM zs).1 → FRow W a2 (decM zs).1 → Calls Try.prog 30 #[.slice a1 (decM zs).1.length c1, .slice a2 (decM zs).1.length c2] W fun e w' => e = .returned (.bool true) ∧ Below W.heap.size W w') := fun a1 c1 a2 c2 W h1 h2 => same_true a1 (decM zs).1 c1 a2 c2 W h1 h2 (by omega)
  have CE : Hid (∀ a1 c1 W, (decM zs).2.2 = 0 → FRow W a1 (decM zs).1 → (decM zs).1.length ≤ c1 → c1 ≤ maxLen → Calls Try.prog 26 #[.slice a1 (decM zs).1.length c1] W fun e w' => ∃ v, e = .returned (.tuple #[v, .int .i64 0]) ∧ w'.ownsRow W.heap.size 5 1 v zs.length (zs.map (Value.int .u8)) ∧ Below W.heap.size W w') := fun a1 c1 W h0 hW hc hm => by
    have := encode_any a1 (decM zs).1 c1 W hW hc hm
    rw [encM_dec zs hz h0] at this; exact this
  clear h
  generalize decM zs = d at *
  obtain ⟨fs, at0, er⟩ := d
  simp only at hdl
  dsimp only at CD CR CS CE
  have hlong' : zs.length ≤ 5000 := by omega
  go_enter Try.func8, Try.ntmps8
  go_wp2_with fail
  refine (awake2_any _).mono ?_
  rintro e w0 ⟨rfl, hb0⟩
  have hr0 := hr.below hb0
  clear hr
  go_wp2_with fail
  refine (CD.out _ hr0).mono ?_
  rintro e w1 ⟨a1, c1, rfl, hf1, hc1, hm1, hb1⟩
  have hr1 := hr0.below hb1
  have hB1 := hb0.trans (hb1.mono hb0.size)
  clear CD hr0 hb1 hb0
  go_wp2_with fail
  refine (CR.out _ hr1).mono ?_
  rintro e w2 ⟨a2, c2, rfl, hf2, hb2⟩
  have hr2 := hr1.below hb2
  have hf12 := hf1.below hb2
  have hB2 := hB1.trans (hb2.mono hB1.size)
  clear CR hr1 hf1 hb2 hB1
  go_wp2_with fail
  refine (CS.out _ _ _ _ _ hf12 hf2).mono ?_
  rintro e w3 ⟨rfl, hb3⟩
  have hr3 := hr2.below hb3
  have hf13 := hf12.below hb3
  have hB3 := hB2.trans (hb3.mono hB2.size)
  clear CS hr2 hf12 hf2 hb3 hB2
  by_cases he : er = 0
  · subst he
    go_wp2_with fail
    refine (CE.out _ _ _ (by trivial) hf13 hc1 hm1).mono ?_
    rintro e w4 ⟨v4, rfl, hown4, hb4⟩
    obtain ⟨a4, c4, hv4, -, hr4, -, -, -⟩ := own_view hown4 hz
    subst hv4
    have t1 := hr4.text zs.length c4 rfl
    have t2 := (hr3.below hb4).text zs.length cap rfl
    have hB4 := hB3.trans (hb4.mono hB3.size)
    clear CE hf13 hr3 hr4 hown4 hb4
    go_wp2
    go_ret
    exact ⟨rfl, hB4⟩
  · have hne : (er != 0) = true := by simpa using he
    clear CE
    go_wp2
    go_ret
    exact ⟨rfl, hB3⟩
set_option maxRecDepth 100000 in
theorem messageDecodes_lifted (os : Os) (started : os.Started) (H : Type) (tok : TypeId × Value → H) :
    ReturnsInHanded {} Try.checked os 8 .any (Rows.messageDecodesSpec.pre6 tok Try.prog Try.f8 Rows.messageDecodesRow.domain false) (Rows.messageDecodesSpec.post tok Try.prog Try.f8 false true false false) := by
  refine returnsInHanded_of_change (C := Try.checked) own_knob started (by kernel_rfl) Try.func8
    (ChangeSpec.witness6 (enc := tok) (C := Try.checked) false ⟨#[], #[.slice none 0 0], []⟩ 8 (by kernel_rfl) (by kernel_rfl) (by kernel_rfl) (by kernel_rfl)) ?_
  intro W base args ds gs before hval0 hW hcnd _
  have hval : ∀ (j : Nat) t v, Try.f8.params[j]? = some t → args[j]? = some v → Value.okWide Try.prog W .any base t v := hval0
  have hW' := hW
  obtain ⟨p, q, hA0, hV, rfl, hfz, hnd⟩ := hW
  have hA : DataW.TrodAll tok Try.prog W 0 (fun _ => true) true Try.f8.params.toList args.toList ds p := hA0
  rw [Try.params8] at hA hval
  obtain ⟨v0, vs0, d0, ds0, p0, q0, hargs, rfl, rfl, h0, r0⟩ := trodAll_cons hA
  obtain ⟨rfl, rfl, rfl⟩ := trodAll_nil r0
  obtain rfl : args = #[v0] := by cases args; simp_all
  obtain ⟨rfl, rfl⟩ := trodVars_none hV
  obtain ⟨a0, len0, cap0, rfl⟩ := okWide_slice Try.underlying22 (hval 0 22 v0 rfl rfl)
  have k0 := h0
  have lt0 : ∀ x ∈ p0, x.block < W.heap.size := by obtain ⟨m, hm⟩ := k0; exact DataW.trod_lt m _ _ _ hm
  obtain ⟨z0, w0⟩ : ∃ zs, BytesIn W a0 len0 cap0 zs := by obtain ⟨fuel, hf⟩ := h0; exact bytes_in hf
  obtain rfl := w0.hlen
  clear hA0 hval0
  refine (decodes_walk a0 z0 cap0 W w0).mono fun e W' ⟨he, bel⟩ => ?_
  subst he
  exact ⟨_, rfl, _, _, _, [], _, [], hW', trodAll_mk1 (shut_bool Try.underlying4 _), (trodAll_cons_mk (Below.trod laid_out (by kernel_rfl) (of_decide_eq_true (by kernel_rfl)) k0 bel lt0) trodAll_mk0), rfl, bel.frame _, fun h => by cases h⟩

theorem messageDecodes_holds : Rows.MessageDecodesSaid :=
  OpenClaim.holds_of_wide 8 Try.f8 rfl rfl rfl rfl rfl rfl rfl ⟨rfl, rfl, rfl, rfl, rfl⟩ rfl rfl rfl rfl rfl (by kernel_rfl) Try.func8 (by kernel_rfl)
    (of_decide_eq_true (by kernel_rfl)) (by unfold Func.isWrapper; first | (rw [if_pos (by decide +kernel)]; kernel_rfl) | (rw [if_neg (by decide +kernel)]; exact ⟨rfl, rfl⟩))
    (fun os started H tok _ => messageDecodes_lifted os started H tok)
#print axioms messageDecodes_holds
end Go.Proofs.Yteidjnkkjjigoaa
