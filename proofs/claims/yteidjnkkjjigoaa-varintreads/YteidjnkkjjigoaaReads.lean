/- Of any bytes the law VarintReads answers true, and leaves its argument: Read answers what the document says, and what is read was laid. No conditions. -/
import Derived.Test.YteidjnkkjjigoaaPureB
import Derived.Test.YteidjnkkjjigoaaRefB
import Derived.Test.YteidjnkkjjigoaaRefC
import Derived.Test.YteidjnkkjjigoaaAwake1
import Derived.Test.YteidjnkkjjigoaaFrame
namespace Go.Proofs.Yteidjnkkjjigoaa
open Go.ChangeShapes Go.WideShapes Go.ChangeAt Go.RowKit

set_option maxHeartbeats 1600000 in
set_option maxRecDepth 100000 in
theorem reads_walk (a : Option Addr) (zs : List Int) (cap : Nat) (w : World) (h : BytesIn w a zs.length cap zs) :
    Calls Try.prog 4 #[.slice a zs.length cap] w fun e w' => e = .returned (.bool true) ∧ Below w.heap.size w w' := by
  have hr := h.hrow
  have hlc := h.hcap
  clear h
  by_cases hlong : 40 < zs.length
  · go_enter Try.func4, Try.ntmps4
    go_wp2_with (go_at_call 12; refine (awake1_any _).mono ?_; rintro e w4 ⟨rfl, hb4⟩)
    go_ret
    exact ⟨rfl, hb4⟩
  · rcases rd_err zs with h0 | ⟨h45, h1, h2⟩
    · obtain ⟨hn0, hn1, ht, _⟩ := rd_ok zs hr.byte h0
      have hs : startsB zs (enc (rd zs).1) = true := by simp [startsB, ht]
      generalize hq : rd zs = q at *
      obtain ⟨n, sz, e⟩ := q
      simp only at h0 hn0 hn1 ht hs
      subst h0
      have HQ : Hid (rd zs = (n, sz, 0)) := hq
      have HS : Hid (startsB zs (enc n) = true) := hs
      have hl := enc_len n
      clear hq ht hs
      go_enter Try.func4, Try.ntmps4
      go_wp2_with fail
      refine (read_any a zs cap _ hr (by omega)).mono ?_
      rintro e w1 ⟨rfl, rfl⟩
      rw [HQ.out]
      go_wp2_with fail
      refine (rread_any a zs cap _ hr hlc (by omega)).mono ?_
      rintro e w2 ⟨rfl, hb2⟩
      rw [HQ.out]
      have hr2 := hr.below hb2
      clear hr
      go_wp2_with fail
      refine (rbytes_any n _ hn0 hn1).mono ?_
      rintro e w3 ⟨g, cap3, rfl, hg, hc3, hown3, hb3⟩
      have hr3 := hr2.below hb3
      have hre := Row.own (enc_byte n hn0) rfl hown3
      have hb := hb2.trans (hb3.mono hb2.size)
      clear hr2 hown3 hb3 hb2
      go_wp2_with fail
      refine (starts_any _ _ _ _ _ _ _ hr3 hre hlc (by omega)).mono ?_
      rintro e w5 ⟨rfl, q5, rfl⟩
      rw [HS.out]
      have hb' := Below.drewN' hb q5
      clear hr3 hre hb
      go_wp2_with (go_at_call 12; refine (awake1_any _).mono ?_; rintro e w4 ⟨rfl, hb4⟩)
      go_ret
      exact ⟨rfl, hb'.trans (hb4.mono hb'.size)⟩
    · generalize hq : rd zs = q at *
      obtain ⟨n, sz, e⟩ := q
      simp only at h45 h1 h2
      subst h1 h2
      have HQ : Hid (rd zs = (0, 0, e)) := hq
      have hne : (e != 0) = true := by rcases h45 with rfl | rfl <;> rfl
      clear hq h45
      go_enter Try.func4, Try.ntmps4
      go_wp2_with fail
      refine (read_any a zs cap _ hr (by omega)).mono ?_
      rintro e w1 ⟨rfl, rfl⟩
      rw [HQ.out]
      go_wp2_with fail
      refine (rread_any a zs cap _ hr hlc (by omega)).mono ?_
      rintro e w2 ⟨rfl, hb2⟩
      rw [HQ.out]
      clear hr
      go_wp2_with (go_at_call 12; refine (awake1_any _).mono ?_; rintro e w4 ⟨rfl, hb4⟩)
      go_ret
      exact ⟨rfl, hb2.trans (hb4.mono hb2.size)⟩

set_option maxRecDepth 100000 in
theorem varintReads_lifted (os : Os) (started : os.Started) (H : Type) (tok : TypeId × Value → H) :
    ReturnsInHanded {} Try.checked os 4 .any (Rows.varintReadsSpec.pre6 tok Try.prog Try.f4 Rows.varintReadsRow.domain false) (Rows.varintReadsSpec.post tok Try.prog Try.f4 false true false false) := by
  refine returnsInHanded_of_change (C := Try.checked) own_knob started (by kernel_rfl) Try.func4
    (ChangeSpec.witness6 (enc := tok) (C := Try.checked) false ⟨#[], #[.slice none 0 0], []⟩ 8 (by kernel_rfl) (by kernel_rfl) (by kernel_rfl) (by kernel_rfl)) ?_
  intro W base args ds gs before hval0 hW hcnd _
  have hval : ∀ (j : Nat) t v, Try.f4.params[j]? = some t → args[j]? = some v → Value.okWide Try.prog W .any base t v := hval0
  have hW' := hW
  obtain ⟨p, q, hA0, hV, rfl, hfz, hnd⟩ := hW
  have hA : DataW.TrodAll tok Try.prog W 0 (fun _ => true) true Try.f4.params.toList args.toList ds p := hA0
  rw [Try.params4] at hA hval
  obtain ⟨v0, vs0, d0, ds0, p0, q0, hargs, rfl, rfl, h0, r0⟩ := trodAll_cons hA
  obtain ⟨rfl, rfl, rfl⟩ := trodAll_nil r0
  obtain rfl : args = #[v0] := by cases args; simp_all
  obtain ⟨rfl, rfl⟩ := trodVars_none hV
  obtain ⟨a0, len0, cap0, rfl⟩ := okWide_slice Try.underlying22 (hval 0 22 v0 rfl rfl)
  have k0 := h0
  have lt0 : ∀ x ∈ p0, x.block < W.heap.size := by obtain ⟨m, hm⟩ := k0; exact DataW.trod_lt m _ _ _ hm
  obtain ⟨z0, w0⟩ : ∃ zs, BytesIn W a0 len0 cap0 zs := by obtain ⟨fuel, hf⟩ := h0; exact bytes_in hf
  obtain rfl := w0.hlen
  clear hA0 hval0
  refine (reads_walk a0 z0 cap0 W w0).mono fun e W' ⟨he, bel⟩ => ?_
  subst he
  exact ⟨_, rfl, _, _, _, [], _, [], hW', trodAll_mk1 (shut_bool Try.underlying4 _), (trodAll_cons_mk (Below.trod laid_out (by kernel_rfl) (of_decide_eq_true (by kernel_rfl)) k0 bel lt0) trodAll_mk0), rfl, bel.frame _, fun h => by cases h⟩

theorem varintReads_holds : Rows.VarintReadsSaid :=
  OpenClaim.holds_of_wide 4 Try.f4 rfl rfl rfl rfl rfl rfl rfl ⟨rfl, rfl, rfl, rfl, rfl⟩ rfl rfl rfl rfl rfl (by kernel_rfl) Try.func4 (by kernel_rfl)
    (of_decide_eq_true (by kernel_rfl)) (by unfold Func.isWrapper; first | (rw [if_pos (by decide +kernel)]; kernel_rfl) | (rw [if_neg (by decide +kernel)]; exact ⟨rfl, rfl⟩))
    (fun os started H tok _ => varintReads_lifted os started H tok)
#print axioms varintReads_holds
end Go.Proofs.Yteidjnkkjjigoaa
