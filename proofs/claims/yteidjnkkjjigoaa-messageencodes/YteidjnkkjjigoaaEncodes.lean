/- Of any fields the law MessageEncodes answers true, and leaves its argument: their bytes are the document's, and read back they are the fields. No conditions. -/
import Derived.Test.YteidjnkkjjigoaaPureD
import Derived.Test.YteidjnkkjjigoaaRefF
import Derived.Test.YteidjnkkjjigoaaSame
import Derived.Test.YteidjnkkjjigoaaAwake2
import Derived.Test.YteidjnkkjjigoaaGreat
import Derived.Test.YteidjnkkjjigoaaFrameF
namespace Go.Proofs.Yteidjnkkjjigoaa
open Go.ChangeShapes Go.WideShapes Go.ChangeAt Go.RowKit

set_option maxHeartbeats 6400000 in
set_option maxRecDepth 100000 in
theorem encodes_walk (a : Option Addr) (fs : List Fld) (cap : Nat) (w : World) (h : FieldsIn w a fs.length cap fs) :
    Calls Try.prog 7 #[.slice a fs.length cap] w fun e w' => e = .returned (.bool true) ∧ Below w.heap.size w w' := by
  have hr := h.hrow
  have hm1 := h.hcap
  have hm2 := h.hmax
  have hm3 := hm2
  unfold maxLen at hm3
  have CG : Hid (∀ W, FRow W a fs → Calls Try.prog 24 #[.slice a fs.length cap] W fun e w' => e = .returned (.bool (greatB fs)) ∧ W = w') := fun W hW => great_any a fs cap W hW (by omega)
  clear h
  cases hg1 : greatB fs with
  | true =>
    rw [hg1] at CG
    clear hg1
    go_enter Try.func7, Try.ntmps7
    go_wp2_with fail
    refine (CG.out _ hr).mono ?_
    rintro e w1 ⟨rfl, rfl⟩
    go_wp2_with (go_at_call 25; refine (awake2_any _).mono ?_; rintro e w4 ⟨rfl, hb4⟩)
    go_ret
    exact ⟨rfl, hb4⟩
  | false =>
  obtain ⟨hl1, hs1⟩ := greatB_no hg1
  rw [hg1] at CG
  clear hg1
  have hby := encM_byte fs hr.1 hr.bytes
  have hln := encM_len fs
  have HD : Hid ((encM fs).2 = 0 → decM (encM fs).1 = (fs, (fs.length : Int), 0)) := fun h0 => decM_enc fs h0 hr.1 (fun f hf => by have := hs1 f hf; omega)
  have CE : Hid (∀ W, FRow W a fs → Calls Try.prog 26 #[.slice a fs.length cap] W fun e w' => ∃ v, e = .returned (.tuple #[v, .int .i64 (encM fs).2]) ∧ w'.ownsRow W.heap.size 5 1 v (encM fs).1.length ((encM fs).1.map (Value.int .u8)) ∧ Below W.heap.size W w') := fun W hW => encode_any a fs cap W hW hm1 hm2
  have CR : Hid (∀ a1 c1 W, FRow W a1 fs → Calls Try.prog 27 #[.slice a1 fs.length c1] W fun e w' => ∃ v, e = .returned (.tuple #[v, .int .i64 (encM fs).2]) ∧ w'.ownsRow W.heap.size 5 1 v (encM fs).1.length ((encM fs).1.map (Value.int .u8)) ∧ Below W.heap.size W w') := fun a1 c1 W hW => rencode_any a1 fs c1 W hW hl1 hs1
  have CT : Hid (∀ W, FRow W a fs → Calls Try.prog 28 #[.slice a fs.length cap] W fun e w' => ∃ a1 c1, e = .returned (.slice a1 fs.length c1) ∧ FRow w' a1 fs ∧ Below W.heap.size W w') := fun W hW => (to_any a fs cap W hW (by omega)).mono (by
    rintro e w1 ⟨v1, ps, rfl, hp, hps, hb1⟩
    obtain ⟨a1, c1, hv1, hfr1, -, -, -⟩ := hp.view hb1
    subst hv1
    have hpl : ps.length = fs.length := by rw [← hps, List.length_map]
    rw [hps] at hfr1
    exact ⟨a1, c1, by rw [hpl], hfr1, hb1⟩)
  have CD : Hid (∀ a1 c1 W, (encM fs).2 = 0 → Row W a1 (encM fs).1 → (a1 = none → (encM fs).1.length = 0 ∧ c1 = 0) → (encM fs).1.length ≤ c1 → Calls Try.prog 29 #[.slice a1 (encM fs).1.length c1] W fun e w' => ∃ a2 c2, e = .returned (.tuple #[.slice a2 fs.length c2, .int .i64 fs.length, .int .i64 0]) ∧ FRow w' a2 fs ∧ Below W.heap.size W w') := fun a1 c1 W h0 hW hn hc => (decode_any a1 (encM fs).1 c1 W hW hn hc).mono (by
    rintro e w1 ⟨v1, ps, rfl, hp, hps, hb1⟩
    obtain ⟨a2, c2, hv2, hfr2, -, -, -⟩ := hp.view
    subst hv2
    rw [HD.out h0] at hps ⊢
    simp only at hps
    have hpl : ps.length = fs.length := by rw [← hps, List.length_map]
    rw [hps] at hfr2
    exact ⟨a2, c2, by rw [hpl], hfr2, hb1⟩)
  have CS : Hid (∀ a1 c1 a2 c2 W, FRow W a1 fs → FRow W a2 fs → Calls Try.prog 30 #[.slice a1 fs.length c1, .slice a2 fs.length c2] W fun e w' => e = .returned (.bool true) ∧ Below W.heap.size W w') := fun a1 c1 a2 c2 W h1 h2 => same_true a1 fs c1 a2 c2 W h1 h2 (by omega)
  clear HD hs1
  generalize encM fs = x at *
  obtain ⟨x, ex⟩ := x
  simp only at hby hln
  dsimp only at CE CR CD
  go_enter Try.func7, Try.ntmps7
  go_wp2_with fail
  refine (CG.out _ hr).mono ?_
  rintro e w1 ⟨rfl, rfl⟩
  go_wp2_with fail
  refine (awake2_any _).mono ?_
  rintro e w0 ⟨rfl, hb0⟩
  have hr0 := hr.below hb0
  clear CG hr
  go_wp2_with fail
  refine (CE.out _ hr0).mono ?_
  rintro e w1 ⟨v1, rfl, hown1, hb1⟩
  clear CE
  obtain ⟨a1, c1, hv1, -, hr1, hn1, hc1, -⟩ := own_view hown1 hby
  subst hv1
  have hr01 := hr0.below hb1
  have hB1 := hb0.trans (hb1.mono hb0.size)
  clear hown1 hr0 hb1 hb0
  go_wp2_with fail
  refine (CT.out _ hr01).mono ?_
  rintro e w2 ⟨a2, c2, rfl, hf2, hb2⟩
  have hr12 := hr1.below hb2
  have hr02 := hr01.below hb2
  have hB2 := hB1.trans (hb2.mono hB1.size)
  clear hr1 hr01 hb2 hB1
  go_wp2_with fail
  refine (CR.out _ _ _ hf2).mono ?_
  rintro e w3 ⟨v3, rfl, hown3, hb3⟩
  clear CR
  obtain ⟨a3, c3, hv3, -, hr3, -, -, -⟩ := own_view hown3 hby
  subst hv3
  have hr13 := hr12.below hb3
  have hr03 := hr02.below hb3
  have hB3 := hB2.trans (hb3.mono hB2.size)
  have t1 := hr13.text x.length c1 rfl
  have t3 := hr3.text x.length c3 rfl
  clear hr12 hr02 hb3 hB2 hf2 hown3 hr3
  by_cases he : ex = 0
  · subst he
    go_wp2_with fail
    refine (CD.out _ _ _ (by trivial) hr13 hn1 hc1).mono ?_
    rintro e w4 ⟨a4, c4, rfl, hf4, hb4⟩
    have hr04 := hr03.below hb4
    have hB4 := hB3.trans (hb4.mono hB3.size)
    clear hr13 hr03 hb4 hB3 t1 t3 CD
    go_wp2_with fail
    refine (CT.out _ hr04).mono ?_
    rintro e w5 ⟨a5, c5, rfl, hf5, hb5⟩
    have hf45 := hf4.below hb5
    have hB5 := hB4.trans (hb5.mono hB4.size)
    clear hf4 hb5 hB4 hr04
    go_wp2_with fail
    refine (CS.out _ _ _ _ _ hf45 hf5).mono ?_
    rintro e w6 ⟨rfl, hb6⟩
    go_wp2
    go_ret
    exact ⟨rfl, hB5.trans (hb6.mono hB5.size)⟩
  · have hne : (ex != 0) = true := by simpa using he
    clear CD
    go_wp2
    go_ret
    exact ⟨rfl, hB3⟩
set_option maxRecDepth 100000 in
theorem messageEncodes_lifted (os : Os) (started : os.Started) (H : Type) (tok : TypeId × Value → H) :
    ReturnsInHanded {} Try.checked os 7 .any (Rows.messageEncodesSpec.pre6 tok Try.prog Try.f7 Rows.messageEncodesRow.domain false) (Rows.messageEncodesSpec.post tok Try.prog Try.f7 false true false false) := by
  refine returnsInHanded_of_change (C := Try.checked) own_knob started (by kernel_rfl) Try.func7
    (ChangeSpec.witness6 (enc := tok) (C := Try.checked) false ⟨#[], #[.slice none 0 0], []⟩ 8 (by kernel_rfl) (by kernel_rfl) (by kernel_rfl) (by kernel_rfl)) ?_
  intro W base args ds gs before hval0 hW hcnd _
  have hval : ∀ (j : Nat) t v, Try.f7.params[j]? = some t → args[j]? = some v → Value.okWide Try.prog W .any base t v := hval0
  have hW' := hW
  obtain ⟨p, q, hA0, hV, rfl, hfz, hnd⟩ := hW
  have hA : DataW.TrodAll tok Try.prog W 0 (fun _ => true) true Try.f7.params.toList args.toList ds p := hA0
  rw [Try.params7] at hA hval
  obtain ⟨v0, vs0, d0, ds0, p0, q0, hargs, rfl, rfl, h0, r0⟩ := trodAll_cons hA
  obtain ⟨rfl, rfl, rfl⟩ := trodAll_nil r0
  obtain rfl : args = #[v0] := by cases args; simp_all
  obtain ⟨rfl, rfl⟩ := trodVars_none hV
  obtain ⟨a0, len0, cap0, rfl⟩ := okWide_slice Try.underlying42 (hval 0 42 v0 rfl rfl)
  have k0 := h0
  have lt0 : ∀ x ∈ p0, x.block < W.heap.size := by obtain ⟨m, hm⟩ := k0; exact DataW.trod_lt m _ _ _ hm
  obtain ⟨z0, w0⟩ : ∃ zs, FieldsIn W a0 len0 cap0 zs := by obtain ⟨fuel, hf⟩ := h0; exact fields_in hf
  obtain rfl := w0.hlen
  clear hA0 hval0
  refine (encodes_walk a0 z0 cap0 W w0).mono fun e W' ⟨he, bel⟩ => ?_
  subst he
  exact ⟨_, rfl, _, _, _, [], _, [], hW', trodAll_mk1 (shut_bool Try.underlying4 _), (trodAll_cons_mk (Below.trod laid_out (by kernel_rfl) (of_decide_eq_true (by kernel_rfl)) k0 bel lt0) trodAll_mk0), rfl, bel.frame _, fun h => by cases h⟩

theorem messageEncodes_holds : Rows.MessageEncodesSaid :=
  OpenClaim.holds_of_wide 7 Try.f7 rfl rfl rfl rfl rfl rfl rfl ⟨rfl, rfl, rfl, rfl, rfl⟩ rfl rfl rfl rfl rfl (by kernel_rfl) Try.func7 (by kernel_rfl)
    (of_decide_eq_true (by kernel_rfl)) (by unfold Func.isWrapper; first | (rw [if_pos (by decide +kernel)]; kernel_rfl) | (rw [if_neg (by decide +kernel)]; exact ⟨rfl, rfl⟩))
    (fun os started H tok _ => messageEncodes_lifted os started H tok)
#print axioms messageEncodes_holds
end Go.Proofs.Yteidjnkkjjigoaa
