/- Of any limit and any chunks the law FrameFeeds answers true, and leaves its arguments: frames come out as they are whole; what is held, and lacks, and by what it broke is told. No conditions. -/
import Derived.Test.YtkcnpdcgonengaaAwake3
import Derived.Test.YtkcnpdcgonengaaGets
import Derived.Test.YtkcnpdcgonengaaWrap
import Derived.Test.YtkcnpdcgonengaaChA
import Derived.Test.YtkcnpdcgonengaaRCut
import Derived.Deep.RegionHeld
namespace Go.Proofs.Ytkcnpdcgonengaa
open Go.ChangeShapes Go.WideShapes Go.ChangeAt Go.RowKit

set_option maxRecDepth 100000 in
theorem lens_app (a b : List (List Int)) : lens (a ++ b) = lens a + lens b := by simp [lens]
set_option maxRecDepth 100000 in
theorem lens_take : ∀ (G : List (List Int)) (k : Nat) (h : k < G.length), lens (G.take (k + 1)) = lens (G.take k) + G[k].length
  | [], k, h => by simp at h
  | g :: G, 0, h => by simp [lens]
  | g :: G, k + 1, h => by
    have h1 := lens_take G k (by simpa using h)
    simp [lens] at h1 ⊢
    omega
set_option maxRecDepth 100000 in
theorem lens_take_le (G : List (List Int)) (k : Nat) : lens (G.take k) ≤ lens G := by
  have h := lens_app (G.take k) (G.drop k)
  rw [List.take_append_drop] at h
  omega

set_option maxRecDepth 100000 in
theorem get_app (F G : List (List Int)) (n k : Nat) (hn : n = F.length) (hk : k < G.length) (h : n + k < (F ++ G).length) : (F ++ G)[n + k] = G[k] := by
  subst hn
  rw [List.getElem_append_right (by omega)]
  simp

set_option maxRecDepth 100000 in
set_option maxHeartbeats 20000000 in
theorem feeds_walk (L : Int) (a : Option Addr) (bs : List (List Int)) (cap : Nat) (w : World) (_hL : -9223372036854775808 ≤ L ∧ L ≤ 9223372036854775807) (h : BytessIn w a bs.length cap bs) :
    Calls Try.prog 4 #[.int .i64 L, .slice a bs.length cap] w fun e w' => e = .returned (.bool true) ∧ Below w.heap.size w w' := by
  have hr := h.hrow
  clear h
  by_cases hl : 20 < bs.length
  · go_enter Try.func4, Try.ntmps4
    go_wp2_with (go_at_call 19; refine (awake3_any _).mono ?_; rintro e w4 ⟨rfl, hb4⟩)
    go_ret
    exact ⟨rfl, hb4⟩
  have hbl : bs.length ≤ 20 := by omega
  clear hl
  cases hm : mayL L with
  | false =>
    have CN : Hid (∀ W, Calls Try.prog 20 #[.int .i64 L] W fun e w' => e = .returned (.tuple #[.pointer none, .int .i64 1]) ∧ W = w') := fun W => new_no L W hm
    have hLL : L < 0 ∨ (0 ≤ L ∧ 4096 < L) := by
      simp [mayL] at hm
      by_cases h0 : 0 ≤ L
      · exact Or.inr ⟨h0, hm h0⟩
      · exact Or.inl (by omega)
    clear hm
    rcases hLL with hL | ⟨hL0, hL1⟩
    all_goals
      go_enter Try.func4, Try.ntmps4
      go_wp2_with fail
      refine (awake3_any _).mono ?_
      rintro e w1 ⟨rfl, hb1⟩
      go_wp2_with fail
      refine (CN.out _).mono ?_
      rintro e w2 ⟨rfl, rfl⟩
      go_wp2
      go_ret
      exact ⟨rfl, hb1⟩
  | true =>
    obtain ⟨hL0, hL1⟩ := mayL_true hm
    have CN : Hid (∀ W, Calls Try.prog 20 #[.int .i64 L] W fun e w' => e = .returned (.tuple #[.pointer (some ⟨W.heap.size, 0, none⟩), .int .i64 0]) ∧ Asm w' W.heap.size (W.heap.size + 1) (.slice none 0 0) [] L 0 0 ∧ Below W.heap.size W w') := fun W => new_yes L W hm
    clear hm _hL
    go_enter Try.func4, Try.ntmps4
    go_wp2_with fail
    refine (awake3_any _).mono ?_
    rintro e w0 ⟨rfl, hb0⟩
    go_wp2_with fail
    refine (CN.out _).mono ?_
    rintro e w1 ⟨rfl, hA1, hb1⟩
    have hB1 := hb0.trans (hb1.mono hb0.size)
    have hAs : w.heap.size ≤ w0.heap.size := hb0.size
    generalize w0.heap.size = A at *
    clear hb0 CN
    go_wp2
    go_loopw [7, 8, 9, 10, 11] (fun s7 s8 s9 s10 s11 wr => ∃ (i told tot : Nat) (Z H : List Int) (v : Value) (t f : Int), i ≤ bs.length ∧ s11 = .int .i64 i ∧ wr.ownsRow (A + 1) 5 1 s7 Z.length (Z.map (Value.int .u8)) ∧ Byt Z ∧ Z.length ≤ 300 * i ∧ s8 = .int .i64 told ∧ s9 = .int .i64 f ∧ s10 = .int .i64 tot ∧
        Asm wr A (A + 1) v H L f t ∧ (s7.ownBlock = none ∨ s7.ownBlock ≠ v.ownBlock) ∧ ((f = 0 ∧ Hid (H = left L Z ∧ told = (cut L Z).1.length ∧ tot = lens (cut L Z).1 ∧ t = tot ∧ flt (cut L Z).2.2 = 0)) ∨ (f ≠ 0 ∧ H = [])) ∧ Below w.heap.size w wr)
      (fun _ _ _ _ s11 _ => bs.length - (intOf s11).toNat)
    case atStart => exact ⟨0, 0, 0, [], [], .slice none 0 0, 0, 0, Nat.zero_le _, rfl, World.ownsRow_nil _ _ _ _, (fun c hc => by cases hc), by simp, rfl, rfl, rfl, hA1, Or.inl rfl, Or.inl ⟨rfl, by rw [left, cut_nil]; exact ⟨rfl, rfl, rfl, rfl, rfl⟩⟩, hB1⟩
    case round =>
      obtain ⟨i, told, tot, Z, H, v, t, f, hi, rfl, hown, hZb, hZl, rfl, rfl, rfl, hA, hne, hst, hB⟩ := hrel
      obtain ⟨va, vc, hv, -, hrow, hnil, hvc, hvm⟩ := own_view hown hZb
      subst hv
      obtain ⟨W0, rfl⟩ : ∃ W0, W0 = wr := ⟨_, rfl⟩
      by_cases hlt : i < bs.length
      · have hz : bs ≠ [] := by intro h; rw [h] at hlt; simp at hlt
        obtain ⟨b0, off, rfl, hc⟩ := hr hz
        obtain ⟨x, c, hx, hsh⟩ := hc i hlt
        have hlt0 := World.block_lt_of_cell? w ⟨b0, off + i, none⟩ hx
        have d0 := (hB.cell (p := ⟨b0, off + i, none⟩) hlt0).trans hx
        have hshr := hsh.below hB
        clear hc
        generalize hBB : bs[i] = B at *
        by_cases h300 : 300 < B.length
        · go_wp2
          go_ret
          exact ⟨rfl, hB⟩
        have hb300 : B.length ≤ 300 := by omega
        clear h300 hBB
        have hlit := World.ownsRow_lit (base := W0.heap.size) (e := 5) (size := 1) W0 #[] 0 (Nat.le_refl _) (by simp [maxLen]) rfl
        have hba : Below W0.heap.size W0 (W0.alloc (.cells #[] 5)) := (Below.refl _ _).alloc (Nat.le_refl _) _
        have dA := (hba.cell (p := ⟨b0, off + i, none⟩) (Nat.lt_of_lt_of_le hlt0 hB.size)).trans d0
        go_wp2_with (at_builtin; go_must (refine wpList_append_bytes rfl (.tmp 57) (.tmp 61) rfl W0.heap.size _ 0 [] rfl hlit x B B.length c rfl rfl (hshr.1.alloc _) hshr.2.1 (by omega) (by simp) ?_; intro v2 w2 hown2 hgrow2; simp only [Nat.zero_add, List.nil_append] at hown2; obtain ⟨ca, cc, hv2, -, hrow2, hnil2, hcc, hcm, hcb⟩ := own_view' hown2 hshr.1.byte; subst hv2))
        have hb2 : Below W0.heap.size W0 w2 := below_own hba hlit (by simp) hgrow2
        have hA2 := hA.below hb2
        rcases hst with ⟨rfl, hid⟩ | ⟨hf0, rfl⟩
        · have hHl : H.length ≤ Z.length := by rw [hid.out.1]; exact left_len L Z
          refine (feed_yes A (A + 1) v H L t ca B cc w2 hA2 ⟨hrow2, hnil2, hcc, hcm⟩ hL0 hL1 (by omega) (by rw [hid.out.2.2.2.1]; omega) (by rw [hid.out.2.2.2.1, hid.out.2.2.1]; have := lens_cut L Z hZb; omega)).mono ?_
          rintro e w3 ⟨v3, la, lc, qs, he3, hbt3, hqs3, hA3, hF3, hM3, hd3⟩
          subst he3
          have hown3 : w3.ownsRow W0.heap.size 5 1 (.slice ca B.length cc) B.length (B.map (Value.int .u8)) := own_of_block hown2 (fun g hg => hF3.block g (hown2.lt g hg).2 (by have := (hown2.lt g hg).1; have := hA.lt; omega) (fun e => by have := (hown2.lt g hg).1; have := (hA.own.lt g e.symm).2; omega))
          have HQS : Hid (qs.map (·.1) = (cut L (H ++ B)).1) := hqs3
          have HD3 : Hid (∀ p ∈ qs, ∀ x, p.2.1 = some x → some x.block ≠ v3.ownBlock) := hd3
          clear hqs3 hd3
          have hownC : w3.ownsRow W0.heap.size 5 1 (.slice ca B.length cc) B.length (B.map (Value.int .u8)) := hown3
          go_wp2
          go_loopw [15] (fun sk wq => ∃ (k : Nat) (xs : List Int), k ≤ B.length ∧ sk = .int .i64 k ∧ (∀ c ∈ xs, 0 ≤ c ∧ c ≤ 255) ∧ wq.ownsRow W0.heap.size 5 1 (.slice ca B.length cc) B.length (xs.map (Value.int .u8)) ∧ w3.grownBy wq (Value.slice ca B.length cc).ownBlock) (fun sk _ => B.length - (intOf sk).toNat)
          case atStart => exact ⟨0, B, Nat.zero_le _, rfl, hshr.1.byte, hownC, World.grownBy.refl _ _⟩
          case round =>
            obtain ⟨k, xs, hk, rfl, hxs, hownr, hgr⟩ := hrel
            by_cases hkl : k < B.length
            · obtain ⟨g, c2, hsh2, hg, -, -⟩ := own_shape hownr (by omega)
              simp only [Value.slice.injEq, true_and] at hsh2
              obtain ⟨rfl, rfl⟩ := hsh2
              have hxl : xs.length = B.length := by have := hownr.1; simpa using this
              have hcl2 := hownr.cellAt k (by omega)
              have hx2 : (xs.map (Value.int .u8))[k]? = some (.int .u8 (xs.getD k 0)) := by simp [show k < xs.length by omega]
              rw [hx2] at hcl2
              have hf2 := hownr.frozenAt k
              have hcb2 : 0 ≤ xs.getD k 0 ∧ xs.getD k 0 ≤ 255 := by
                have : xs.getD k 0 = xs[k]'(by omega) := by simp [show k < xs.length by omega]
                rw [this]; exact hxs _ (List.getElem_mem _)
              generalize xs.getD k 0 = y at *
              have hst2 := hownr.stored k (.int .u8 ((y + 1) % 256))
              have hset : (xs.map (Value.int .u8)).set k (.int .u8 ((y + 1) % 256)) = (xs.set k ((y + 1) % 256)).map (Value.int .u8) := by rw [List.map_set]
              rw [hset] at hst2
              have hxs' : ∀ c ∈ xs.set k ((y + 1) % 256), 0 ≤ c ∧ c ≤ 255 := by
                intro c hc
                rcases List.mem_or_eq_of_mem_set hc with h | h
                · exact hxs c h
                · omega
              have hown5 := hst2.1
              have hgr5 : w3.grownBy (wr.setCell ⟨g, k, none⟩ (.int .u8 ((y + 1) % 256))) (some g) := hgr.trans (grownBy_set wr g k _)
              have hki : (k : Int) < (B.length : Int) := by omega
              have hglt : g < wr.heap.size := (hownr.lt g rfl).2
              clear hset hst2 hownr hgr hownC hx2
              go_wp2
              go_roundw
              case rel => exact ⟨k + 1, xs.set k ((y + 1) % 256), by omega, by go_num, hxs', hown5, hgr5⟩
              case measure => simp [intOf]; omega
            · have hki : (B.length : Int) ≤ (k : Int) := by omega
              have hcbk : ∀ g, (Value.slice ca B.length cc).ownBlock = some g → W0.heap.size ≤ g ∧ g < w2.heap.size := fun g hg => ⟨(hown2.lt g hg).1, (hown2.lt g hg).2⟩
              have hvW : ∀ g, v.ownBlock = some g → g < W0.heap.size := fun g hg => (hA.own.lt g hg).2
              have haW : ∀ g, (Value.slice va Z.length vc).ownBlock = some g → A + 1 ≤ g ∧ g < W0.heap.size := fun g hg => hown.lt g hg
              have h02 := hb2.size
              have h23 := hF3.size
              have h3r := hgr.size
              have hAl := hA.lt
              have hv3 : ∀ g, v3.ownBlock = some g → v.ownBlock = some g ∨ w2.heap.size ≤ g := fun g hg => by
                rcases hM3 with h | h
                · exact Or.inl (by rw [← h]; exact hg)
                · exact Or.inr (h g hg)
              have hv3l : ∀ g, v3.ownBlock = some g → g < w3.heap.size := fun g hg => (hA3.own.lt g hg).2
              have hA5 := hA3.kept hgr (fun e => by have := hcbk _ e.symm; omega) (by
                cases hvo : v3.ownBlock with
                | none => exact Or.inl rfl
                | some g => exact Or.inr (fun e => by
                    have h1 := hcbk _ e.symm
                    rcases hv3 g hvo with h | h
                    · have := hvW g h; omega
                    · omega))
              have hown7 := (own_of_block (own_below hown hb2) (fun g hg => hF3.block g (by have := haW g hg; omega) (by have := haW g hg; omega) (fun e => by
                rcases hne with h | h
                · rw [h] at hg; cases hg
                · exact h (hg.trans e)))).kept hgr (by
                cases hvo : (Value.slice va Z.length vc).ownBlock with
                | none => exact Or.inl rfl
                | some g => exact Or.inr (fun e => by have := hcbk _ e.symm; have := haW g hvo; omega))
              have hbt5 := hbt3.kept hgr (by
                cases hvo : (Value.slice la qs.length lc).ownBlock with
                | none => exact Or.inl rfl
                | some g => exact Or.inr (fun e => by have := hcbk _ e.symm; have := (hbt3.own.lt g hvo).1; omega)) (fun p hp x hx e => by have := hcbk _ e.symm; have := (hbt3.tg p hp x hx).1; omega)
              have hB5 : Below w.heap.size w wr := (below_fed (hB.trans (hb2.mono hB.size)) hF3 hAs (fun g hg => by have := (hA.own.lt g hg).1; omega) (by have := hB.size; omega)).grown hgr (by have := hB.size; omega) (fun g hg => by have := (hcbk g hg).1; have := hB.size; omega)
              have hsh5 := hsh.below hB5
              have dC := (hB5.cell (p := ⟨b0, off + i, none⟩) hlt0).trans hx
              have hZB : Byt (Z ++ B) := hZb.append hshr.1.byte
              have hflz : flt (cut L Z).2.2 = 0 := hid.out.2.2.2.2
              obtain ⟨m1, m2, m3, m4⟩ := cut_more L Z B hZb hshr.1.byte hflz
              have m5 := left_more L Z B hZb hshr.1.byte hflz
              rw [← hid.out.1] at m1 m2 m3 m4 m5
              have hck := cut_ok L (Z ++ B) hZB
              have hqG : Hid (qs.length = (cut L (H ++ B)).1.length) := by show qs.length = _; rw [← HQS.out, List.length_map]
              have HT : Hid (told = (cut L Z).1.length ∧ t = (tot : Int)) := ⟨hid.out.2.1, hid.out.2.2.2.1⟩
              have HF : Hid ((cut L (Z ++ B)).1 = (cut L Z).1 ++ (cut L (H ++ B)).1) := m1
              have HE : Hid ((cut L (H ++ B)).2.2 = (cut L (Z ++ B)).2.2) := m2.symm
              have HL : Hid (left L (H ++ B) = left L (Z ++ B)) := m5.symm
              have HTOT : Hid (tot = lens (cut L Z).1) := hid.out.2.2.1
              have hnum := left_num L (Z ++ B) hZB hL1
              have hzl : (Z ++ B).length ≤ 6000 := by rw [List.length_append]; omega
              have HNM : Hid (flt (cut L (Z ++ B)).2.2 = 0 → (rd (left L (Z ++ B))).2.2 = 0 → (rd (left L (Z ++ B))).1 ≤ 4096) := hnum
              have HCK : Hid ((cut L (Z ++ B)).2.1 ≤ (Z ++ B).length ∧ (((cut L (Z ++ B)).2.2 = 0 ∨ (cut L (Z ++ B)).2.2 = 5) ∨ ((cut L (Z ++ B)).2.2 = 3 ∨ (cut L (Z ++ B)).2.2 = 4))) := by
                refine ⟨hck.1, ?_⟩
                rcases hck.2.2.2 with ⟨h, _⟩ | ⟨h, _, _⟩
                · exact Or.inl (Or.inl h)
                · rcases h with h | h | h
                  · exact Or.inr (Or.inl h)
                  · exact Or.inr (Or.inr h)
                  · exact Or.inl (Or.inr h)
              have HZ1 : Hid (Z.length + B.length ≤ 70368744177664) := by show Z.length + B.length ≤ _; omega
              have HZL : Hid ((Z ++ B).length ≤ 6000) := hzl
              obtain ⟨E, hE⟩ : ∃ E, E = (cut L (Z ++ B)).2.2 := ⟨_, rfl⟩
              obtain ⟨FE, hFE⟩ : ∃ FE, FE = flt (cut L (Z ++ B)).2.2 := ⟨_, rfl⟩
              obtain ⟨at0, hat⟩ : ∃ at0, at0 = (cut L (Z ++ B)).2.1 := ⟨_, rfl⟩
              obtain ⟨LF, hLF⟩ : ∃ LF, LF = left L (Z ++ B) := ⟨_, rfl⟩
              rw [HE.out, HL.out, ← hFE, ← hLF] at hA5
              rw [HE.out, ← hFE]
              have HX : Hid (((E = 0 ∨ E = 5) ∧ FE = 0 ∧ LF = (Z ++ B).drop at0) ∨ ((E = 3 ∨ E = 4) ∧ FE = E ∧ LF = [])) := by
                show _ ∨ _
                rw [hE, hFE, hat, hLF]
                rcases HCK.out.2 with h | h
                · have h0 := (flt_zero _).2 h
                  exact Or.inl ⟨h, h0, by rw [left, if_pos h0]⟩
                · have h1 : flt (cut L (Z ++ B)).2.2 = (cut L (Z ++ B)).2.2 := by rcases h with h | h <;> rw [h] <;> simp [flt]
                  refine Or.inr ⟨h, h1, ?_⟩
                  rw [left, if_neg (by rw [h1]; rcases h with h | h <;> rw [h] <;> decide)]
              have HQ : Hid (E = (cut L (Z ++ B)).2.2 ∧ FE = flt (cut L (Z ++ B)).2.2 ∧ at0 = (cut L (Z ++ B)).2.1 ∧ LF = left L (Z ++ B)) := ⟨hE, hFE, hat, hLF⟩
              have HNL : Hid (FE = 0 → (rd LF).2.2 = 0 → (rd LF).1 ≤ 4096) := by show FE = 0 → _; rw [hFE, hLF]; exact HNM.out
              have HAT : Hid (at0 ≤ (Z ++ B).length) := by show at0 ≤ _; rw [hat]; exact HCK.out.1
              have HTQ : Hid ((cut L (Z ++ B)).1.length ≤ 6000) := by show _ ≤ 6000; have h1 := (cut_ok L (Z ++ B) hZB).2.1; have h2 := HCK.out.1; have h3 := HZL.out; omega
              clear m1 m2 m3 m4 m5 hck hnum hid hflz hzl hownr hgr hownC hown3 hbt3 hA3 hF3 hxs hown2 hrow2 hnil2 HE HL HNM HCK hE hFE hat hLF
              generalize hGG : (cut L (H ++ B)).1 = G at *
              clear hGG
              go_wp2_with (at_builtin; go_must (refine wpList_append_bytes_at rfl (.tmp 106) (.tmp 110) rfl (A + 1) (.slice va Z.length vc) _ _ rfl hown7 x B B.length c rfl rfl hsh5.1 hsh5.2.1 HZ1.out (by omega) ?_; intro v8 w8 hown8 hgrow8 hmov8; rw [← List.map_append, ← List.length_append] at hown8; obtain ⟨va8, vc8, hv8, -, hrow8, -, hvc8, hvm8⟩ := own_view hown8 hZB; subst hv8))
              have hA8 := hA5.kept hgrow8 (fun e => by have := haW _ e.symm; omega) (by
                cases hvo : v3.ownBlock with
                | none => exact Or.inl rfl
                | some g => exact Or.inr (fun e => by
                    rcases hv3 g hvo with h | h
                    · rcases hne with h1 | h1
                      · rw [h1] at e; cases e
                      · exact h1 (e.symm.trans h.symm)
                    · have := haW g e.symm; omega))
              have hbt8 := hbt5.kept hgrow8 (by
                cases hvo : (Value.slice la qs.length lc).ownBlock with
                | none => exact Or.inl rfl
                | some g => exact Or.inr (fun e => by have := haW g e.symm; have := (hbt5.own.lt g hvo).1; omega)) (fun p hp x hx e => by have := haW _ e.symm; have := (hbt5.tg p hp x hx).1; omega)
              have hB8 := hB5.grown hgrow8 (by have := hB.size; omega) (fun g hg => by have := haW g hg; omega)
              have hne8 : (Value.slice va8 (Z ++ B).length vc8).ownBlock = none ∨ (Value.slice va8 (Z ++ B).length vc8).ownBlock ≠ v3.ownBlock := by
                rcases hmov8 with h | h
                · rw [h]
                  cases hvo : (Value.slice va Z.length vc).ownBlock with
                  | none => exact Or.inl rfl
                  | some g => exact Or.inr (fun e => by
                      rcases hv3 g e.symm with h1 | h1
                      · rcases hne with h2 | h2
                        · rw [h2] at hvo; cases hvo
                        · exact h2 (hvo.trans h1.symm)
                      · have := haW g hvo; omega)
                · cases hvo : (Value.slice va8 (Z ++ B).length vc8).ownBlock with
                  | none => exact Or.inl rfl
                  | some g => exact Or.inr (fun e => by have h1 := h g hvo; have h2 := hv3l g e.symm; omega)
              have CC : Hid (Calls Try.prog 25 #[.slice va8 (Z ++ B).length vc8, .int .i64 L] w8 fun e w' => ∃ v ps, e = .returned (.tuple #[v, .int .i64 (at0 : Nat), .int .i64 E]) ∧ BOwn w' w8.heap.size v ps ∧ ps.map (·.1) = (cut L (Z ++ B)).1 ∧ Below w8.heap.size w8 w') := by
                have h := rcut_any va8 (Z ++ B) vc8 L w8 hrow8 hvc8 (by have := HZL.out; omega) hL0 hL1
                rw [← HQ.out.1, ← HQ.out.2.2.1] at h
                exact h
              clear hown7 hbt5 hA5 hgrow8 hmov8 hB5 hsh5 dC hv3 hvW haW hcbk hv3l
              rw [← List.length_append]
              go_wp2_with fail
              refine CC.out.mono ?_
              rintro e w9 ⟨v9, ps9, he9, hbo9, hps9, hb9⟩
              subst he9
              obtain ⟨a9, c9, hv9, hbr9⟩ := hbo9.view
              have hp9 : ps9.length = told + qs.length := by rw [← List.length_map (f := (·.1)), hps9, HF.out, List.length_append, HT.out.1, hqG.out]
              obtain ⟨N, hN⟩ : ∃ N, N = told + qs.length := ⟨_, rfl⟩
              rw [hp9, ← hN] at hv9
              subst hv9
              rw [hps9, HF.out] at hbr9
              obtain ⟨a8, c8, hv8', hbr8⟩ := (hbt8.below hb9).view
              simp only [Value.slice.injEq] at hv8'
              obtain ⟨rfl, -, rfl⟩ := hv8'
              rw [HQS.out] at hbr8
              have hA9 := hA8.below hb9
              have hown9 := own_below hown8 hb9
              have hB9 := hB8.trans (hb9.mono (by have := hB8.size; omega))
              have hrow9 := hrow8.below hb9
              have hd9 : (N : Int) - (told : Int) = (qs.length : Int) := by omega
              have HN : Hid (N = told + qs.length) := hN
              clear hN
              have hG : Hid (qs.length = G.length ∧ told = (cut L Z).1.length) := ⟨hqG.out, HT.out.1⟩
              have HLB : Hid (tot + lens G ≤ 6000) := by
                show tot + lens G ≤ 6000
                have h1 := lens_cut L (Z ++ B) hZB
                rw [HF.out, lens_app, ← HTOT.out] at h1
                have := HZL.out
                omega
              clear hbo9 hps9 hp9 hb9 hA8 hown8 hB8 hrow8 hbt8 CC
              have HQL : Hid (qs.length = G.length) := hG.out.1
              have HTL : Hid (told = (cut L Z).1.length) := hG.out.2
              have HTA : Hid (t = (tot : Int)) := HT.out.2
              have htq : N ≤ 6000 := by
                have h1 := HTQ.out
                have h2 := HN.out
                rw [HF.out, List.length_append, ← HTL.out, ← HQL.out, ← HN.out] at h1
                exact h1
              have HFN : Hid (lens (cut L (Z ++ B)).1 = tot + lens G ∧ (cut L (Z ++ B)).1.length = N) := by
                refine ⟨?_, ?_⟩
                · rw [HF.out, lens_app, HTOT.out]
                · rw [HF.out, List.length_append, ← HTL.out, ← HQL.out, ← HN.out]
              rw [List.length_append] at hne8 hown9
              clear hG hqG HT HTOT HF HTQ HQS
              generalize (cut L Z).1 = F0 at *
              go_wp2
              go_loopw [10, 19] (fun s10 s19 wq => ∃ (k u : Nat), k ≤ qs.length ∧ s19 = .int .i64 k ∧ s10 = .int .i64 u ∧ Hid (u = tot + lens (G.take k)) ∧ u ≤ 6000 ∧ Below w9.heap.size w9 wq) (fun _ s19 _ => qs.length - (intOf s19).toNat)
              case atStart => exact ⟨0, tot, Nat.zero_le _, rfl, rfl, (by show tot = _; simp [lens]), (by have := HLB.out; omega), Below.refl _ _⟩
              case round =>
                obtain ⟨k3, u, hk3, rfl, rfl, hu, hu6, hbw⟩ := hrel
                by_cases hkl3 : k3 < qs.length
                · have hkG : k3 < G.length := by rw [← HQL.out]; exact hkl3
                  have hz1 : G ≠ [] := by intro h; rw [h] at hkG; simp at hkG
                  have hkF : told + k3 < (F0 ++ G).length := by rw [List.length_append, HTL.out]; omega
                  obtain ⟨g1, rfl, q1⟩ := hbr8 hz1
                  obtain ⟨g2, rfl, q2⟩ := hbr9 (by simp [hz1])
                  obtain ⟨x1, y1, z1, r1⟩ := q1 k3 hkG
                  obtain ⟨x2, y2, z2, r2⟩ := q2 (told + k3) hkF
                  rw [get_app F0 G told k3 HTL.out hkG hkF] at z2 r2
                  have l1 := World.block_lt_of_cell? w9 ⟨g1, k3, none⟩ z1
                  have l2 := World.block_lt_of_cell? w9 ⟨g2, told + k3, none⟩ z2
                  have d1 := (hbw.cell (p := ⟨g1, k3, none⟩) l1).trans z1
                  have d2 := (hbw.cell (p := ⟨g2, told + k3, none⟩) l2).trans z2
                  have t1 := (r1.below hbw).drew.text G[k3].length y1 rfl
                  have t2 := (r2.below hbw).drew.text G[k3].length y2 rfl
                  have hs1 := lens_take G k3 hkG
                  have hs2 := lens_take_le G (k3 + 1)
                  have hu7 : u + G[k3].length ≤ 6000 := by have h1 := hu.out; have h2 := HLB.out; omega
                  have hu8 : Hid (u + G[k3].length = tot + lens (G.take (k3 + 1))) := by show _ = _; have h1 := hu.out; omega
                  have hi0 : (0 : Int) ≤ (k3 : Int) := by omega
                  have hi1 : (k3 : Int) < (qs.length : Int) := by omega
                  obtain ⟨j, hj⟩ : ∃ j, j = told + k3 := ⟨_, rfl⟩
                  rw [← hj] at d2
                  have hi2 : (told : Int) + (k3 : Int) = (j : Int) := by omega
                  have hi3 : (j : Int) < (N : Int) := by have := HN.out; omega
                  have hi4 : (0 : Int) ≤ (j : Int) := by omega
                  have hwj : IntKind.i64.wrap (j : Int) = (j : Int) := IntWalk.i64_in _ ⟨by omega, by omega⟩
                  have hwk : IntKind.i64.wrap ((told : Int) + (k3 : Int)) = (j : Int) := by rw [hi2]; exact hwj
                  clear hj
                  clear q1 q2 z1 z2 r1 r2 hbr8 hbr9 hs1 hs2 hkF
                  generalize G[k3] = Fi at *
                  go_wp2
                  go_region_held (fun w' => w'.cell? ⟨g1, k3, none⟩ = some (.slice x1 Fi.length y1) ∧ w'.cell? ⟨g2, j, none⟩ = some (.slice x2 Fi.length y2)) (first | go_keep | fail) (fail)
                  all_goals
                    go_wp2
                    go_roundw
                    case rel => exact ⟨k3 + 1, u + Fi.length, by omega, by go_num, by go_num, hu8, hu7, hbw.drew⟩
                    case measure => simp [intOf]; omega
                · have hke : (qs.length : Int) ≤ (k3 : Int) := by omega
                  have hkq : k3 = qs.length := by omega
                  have hu0 : u = tot + lens G := by rw [hu.out, hkq, HQL.out, List.take_length]
                  have hut : t + (lens G : Int) = (u : Int) := by rw [HTA.out, hu0]; omega
                  have hAr := hA9.below hbw
                  rw [hut] at hAr
                  have hownr := own_below hown9 hbw
                  have hBr := hB9.trans (hbw.mono hB9.size)
                  have hrowr := hrow9.below hbw
                  have HST : Hid (LF = left L (Z ++ B) ∧ N = (cut L (Z ++ B)).1.length ∧ u = lens (cut L (Z ++ B)).1 ∧ FE = flt (cut L (Z ++ B)).2.2) := ⟨HQ.out.2.2.2, HFN.out.2.symm, by rw [HFN.out.1, hu0], HQ.out.2.1⟩
                  have hlz : (Z ++ B).length ≤ 300 * (i + 1) := by rw [List.length_append]; omega
                  clear hu hu0 hut hA9 hown9 hB9 hrow9 hbr8 hbr9 hkq hk3 hkl3
                  rcases HX.out with ⟨hE, hF, hl⟩ | ⟨hE, hF, hl⟩
                  · subst hF
                    have hbl : (Z.length : Int) + (B.length : Int) - (at0 : Int) = (LF.length : Int) := by
                      have h1 := HAT.out
                      rw [hl, List.length_drop]
                      rw [List.length_append] at h1 ⊢
                      omega
                    have CF2 : Hid (Calls Try.prog 22 #[.pointer (some ⟨A, 0, none⟩)] wr fun e w' => e = .returned (.int .i64 0) ∧ wr = w') := fault_any hAr
                    have CB2 : Hid (Calls Try.prog 23 #[.pointer (some ⟨A, 0, none⟩)] wr fun e w' => e = .returned (.int .i64 LF.length) ∧ wr = w') := buf_any hAr
                    have CE2 : Hid (Calls Try.prog 24 #[.pointer (some ⟨A, 0, none⟩)] wr fun e w' => e = .returned (.int .i64 (needI LF)) ∧ wr = w') := need_any hAr (by have h1 := HZL.out; rw [hl, List.length_drop]; omega) (HNL.out rfl)
                    have CR2 : Hid (Calls Try.prog 26 #[.slice va8 (Z.length + B.length) vc8, .int .i64 (at0 : Nat)] wr fun e w' => e = .returned (.int .i64 (needI LF)) ∧ Below wr.heap.size wr w') := by
                      have h := rneed_any at0 HAT.out hrowr hvc8 (by have h1 := HZL.out; omega) (by rw [← hl]; exact HNL.out rfl)
                      rw [← hl, List.length_append] at h
                      exact h
                    clear hl
                    generalize needI LF = nd at *
                    rcases hE with rfl | rfl
                    all_goals
                      go_wp2_with (first | (go_at_call 22; refine CF2.out.mono ?_; rintro e w10 ⟨rfl, rfl⟩) | (go_at_call 23; refine CB2.out.mono ?_; rintro e w10 ⟨rfl, rfl⟩) | (go_at_call 24; refine CE2.out.mono ?_; rintro e w10 ⟨rfl, rfl⟩) | (go_at_call 26; refine CR2.out.mono ?_; rintro e w10 ⟨rfl, hb10⟩) | (go_at_call 27; refine (total_any (hAr.below hb10)).mono ?_; rintro e w11 ⟨rfl, rfl⟩))
                      go_roundw
                      case rel => exact ⟨i + 1, N, u, Z ++ B, LF, v3, u, 0, by omega, by go_num, (by rw [List.length_append]; exact own_below hownr hb10), hZB, hlz, rfl, rfl, rfl, hAr.below hb10, hne8, Or.inl ⟨rfl, ⟨HST.out.1, HST.out.2.1, HST.out.2.2.1, rfl, HST.out.2.2.2.symm⟩⟩, hBr.trans (hb10.mono hBr.size)⟩
                      case measure => simp [intOf]; omega
                  · subst hF hl
                    have hn5 : (rd ([] : List Int)).2.2 = 0 → (rd ([] : List Int)).1 ≤ 4096 := by simp [rd, rdF]
                    have CB2 : Hid (Calls Try.prog 23 #[.pointer (some ⟨A, 0, none⟩)] wr fun e w' => e = .returned (.int .i64 0) ∧ wr = w') := buf_any hAr
                    have CE2 : Hid (Calls Try.prog 24 #[.pointer (some ⟨A, 0, none⟩)] wr fun e w' => e = .returned (.int .i64 0) ∧ wr = w') := need_any hAr (by simp) hn5
                    clear hn5
                    rcases hE with rfl | rfl
                    all_goals
                      go_wp2_with (first | (go_at_call 23; refine CB2.out.mono ?_; rintro e w10 ⟨rfl, rfl⟩) | (go_at_call 24; refine CE2.out.mono ?_; rintro e w10 ⟨rfl, rfl⟩))
                      go_roundw
                      case rel => exact ⟨i + 1, N, u, Z ++ B, [], v3, u, _, by omega, by go_num, (by rw [List.length_append]; exact hownr), hZB, hlz, rfl, rfl, rfl, hAr, hne8, Or.inr ⟨by decide, rfl⟩, hBr⟩
                      case measure => simp [intOf]; omega

        · refine (feed_no hA2 hf0 ca B.length cc).mono ?_
          rintro e w3 ⟨rfl, hb3⟩
          have hA3 := hA2.below hb3
          have hown3 := own_below hown2 hb3
          have hownC : w3.ownsRow W0.heap.size 5 1 (.slice ca B.length cc) B.length (B.map (Value.int .u8)) := hown3
          go_wp2
          go_loopw [15] (fun sk wq => ∃ (k : Nat) (xs : List Int), k ≤ B.length ∧ sk = .int .i64 k ∧ (∀ c ∈ xs, 0 ≤ c ∧ c ≤ 255) ∧ wq.ownsRow W0.heap.size 5 1 (.slice ca B.length cc) B.length (xs.map (Value.int .u8)) ∧ w3.grownBy wq (Value.slice ca B.length cc).ownBlock) (fun sk _ => B.length - (intOf sk).toNat)
          case atStart => exact ⟨0, B, Nat.zero_le _, rfl, hshr.1.byte, hownC, World.grownBy.refl _ _⟩
          case round =>
            obtain ⟨k, xs, hk, rfl, hxs, hownr, hgr⟩ := hrel
            by_cases hkl : k < B.length
            · obtain ⟨g, c2, hsh2, hg, -, -⟩ := own_shape hownr (by omega)
              simp only [Value.slice.injEq, true_and] at hsh2
              obtain ⟨rfl, rfl⟩ := hsh2
              have hxl : xs.length = B.length := by have := hownr.1; simpa using this
              have hcl2 := hownr.cellAt k (by omega)
              have hx2 : (xs.map (Value.int .u8))[k]? = some (.int .u8 (xs.getD k 0)) := by simp [show k < xs.length by omega]
              rw [hx2] at hcl2
              have hf2 := hownr.frozenAt k
              have hcb2 : 0 ≤ xs.getD k 0 ∧ xs.getD k 0 ≤ 255 := by
                have : xs.getD k 0 = xs[k]'(by omega) := by simp [show k < xs.length by omega]
                rw [this]; exact hxs _ (List.getElem_mem _)
              generalize xs.getD k 0 = y at *
              have hst2 := hownr.stored k (.int .u8 ((y + 1) % 256))
              have hset : (xs.map (Value.int .u8)).set k (.int .u8 ((y + 1) % 256)) = (xs.set k ((y + 1) % 256)).map (Value.int .u8) := by rw [List.map_set]
              rw [hset] at hst2
              have hxs' : ∀ c ∈ xs.set k ((y + 1) % 256), 0 ≤ c ∧ c ≤ 255 := by
                intro c hc
                rcases List.mem_or_eq_of_mem_set hc with h | h
                · exact hxs c h
                · omega
              have hown5 := hst2.1
              have hgr5 : w3.grownBy (wr.setCell ⟨g, k, none⟩ (.int .u8 ((y + 1) % 256))) (some g) := hgr.trans (grownBy_set wr g k _)
              have hki : (k : Int) < (B.length : Int) := by omega
              have hglt : g < wr.heap.size := (hownr.lt g rfl).2
              clear hset hst2 hownr hgr hownC hx2
              go_wp2
              go_roundw
              case rel => exact ⟨k + 1, xs.set k ((y + 1) % 256), by omega, by go_num, hxs', hown5, hgr5⟩
              case measure => simp [intOf]; omega
            · have hki : (B.length : Int) ≤ (k : Int) := by omega
              have hcbk : ∀ g, (Value.slice ca B.length cc).ownBlock = some g → W0.heap.size ≤ g := fun g hg => (hownC.lt g hg).1
              have hA5 := hA3.kept hgr (fun e => by have := hcbk _ e.symm; have := hA.lt; omega) (by
                cases hvo : v.ownBlock with
                | none => exact Or.inl rfl
                | some g => exact Or.inr (fun e => by have := hcbk _ e.symm; have := (hA.own.lt g hvo).2; omega))
              have hn5 : (rd ([] : List Int)).2.2 = 0 → (rd ([] : List Int)).1 ≤ 4096 := by simp [rd, rdF]
              have CF2 : Hid (Calls Try.prog 22 #[.pointer (some ⟨A, 0, none⟩)] wr fun e w' => e = .returned (.int .i64 f) ∧ wr = w') := fault_any hA5
              have CB2 : Hid (Calls Try.prog 23 #[.pointer (some ⟨A, 0, none⟩)] wr fun e w' => e = .returned (.int .i64 0) ∧ wr = w') := buf_any hA5
              have CE2 : Hid (Calls Try.prog 24 #[.pointer (some ⟨A, 0, none⟩)] wr fun e w' => e = .returned (.int .i64 0) ∧ wr = w') := need_any hA5 (by simp) hn5
              have hB5 : Below w.heap.size w wr := (hB.trans ((hb2.trans (hb3.mono hb2.size)).mono hB.size)).grown hgr (by have := hB.size; have := hb2.size; have := hb3.size; omega) (fun g hg => by have := hcbk g hg; have := hB.size; omega)
              have hown7 := (own_below (own_below hown hb2) hb3).kept hgr (by
                cases hvo : (Value.slice va Z.length vc).ownBlock with
                | none => exact Or.inl rfl
                | some g => exact Or.inr (fun e => by have := hcbk _ e.symm; have := (hown.lt g hvo).2; omega))
              have hfne : (f != 0) = true := by simpa using hf0
              clear hownr hgr hownC hn5
              go_wp2_with (first | (go_at_call 22; refine CF2.out.mono ?_; rintro e w9 ⟨rfl, rfl⟩) | (go_at_call 23; refine CB2.out.mono ?_; rintro e w9 ⟨rfl, rfl⟩) | (go_at_call 24; refine CE2.out.mono ?_; rintro e w9 ⟨rfl, rfl⟩))
              go_roundw
              case rel => exact ⟨i + 1, told, tot, Z, [], v, t, f, by omega, by go_num, hown7, hZb, by omega, rfl, rfl, rfl, hA5, hne, Or.inr ⟨hf0, rfl⟩, hB5⟩
              case measure => simp [intOf]; omega
      · have hii : (bs.length : Int) ≤ (i : Int) := by omega
        go_wp2
        go_ret
        exact ⟨rfl, hB⟩
set_option maxRecDepth 100000 in
theorem frameFeeds_lifted (os : Os) (started : os.Started) (H : Type) (tok : TypeId × Value → H) :
    ReturnsInHanded {} Try.checked os 4 .any (Rows.frameFeedsSpec.pre6 tok Try.prog Try.f4 Rows.frameFeedsRow.domain false) (Rows.frameFeedsSpec.post tok Try.prog Try.f4 false true false false) := by
  refine returnsInHanded_of_change (C := Try.checked) own_knob started (by kernel_rfl) Try.func4
    (ChangeSpec.witness6 (enc := tok) (C := Try.checked) false ⟨#[], #[.int .i64 0, .slice none 0 0], []⟩ 8 (by kernel_rfl) (by kernel_rfl) (by kernel_rfl) (by kernel_rfl)) ?_
  intro W base args ds gs before hval0 hW hcnd _
  have hval : ∀ (j : Nat) t v, Try.f4.params[j]? = some t → args[j]? = some v → Value.okWide Try.prog W .any base t v := hval0
  have hW' := hW
  obtain ⟨p, q, hA0, hV, rfl, hfz, hnd⟩ := hW
  have hA : DataW.TrodAll tok Try.prog W 0 (fun _ => true) true Try.f4.params.toList args.toList ds p := hA0
  rw [Try.params4] at hA hval
  obtain ⟨v0, vs0, d0, ds0, p0, q0, hargs, rfl, rfl, h0, r0⟩ := trodAll_cons hA
  obtain ⟨v1, vs1, d1, ds1, p1, q1, rfl, rfl, rfl, h1, r1⟩ := trodAll_cons r0
  obtain ⟨rfl, rfl, rfl⟩ := trodAll_nil r1
  obtain rfl : args = #[v0, v1] := by cases args; simp_all
  obtain ⟨rfl, rfl⟩ := trodVars_none hV
  obtain ⟨a0, rfl, rfl, rfl, w0⟩ := open_int Try.underlying3 (hval 0 3 v0 rfl rfl) h0
  obtain ⟨a1, len1, cap1, rfl⟩ := okWide_slice Try.underlying32 (hval 1 32 v1 rfl rfl)
  have k1 := h1
  have lt1 : ∀ x ∈ p1, x.block < W.heap.size := by obtain ⟨m, hm⟩ := k1; exact DataW.trod_lt m _ _ _ hm
  obtain ⟨z1, w1⟩ : ∃ zs, BytessIn W a1 len1 cap1 zs := by obtain ⟨fuel, hf⟩ := h1; exact bytess_in hf
  obtain rfl := w1.hlen
  clear hA0 hval0
  refine (feeds_walk a0 a1 z1 cap1 W (i64_of_wf w0) w1).mono fun e W' ⟨he, bel⟩ => ?_
  subst he
  exact ⟨_, rfl, _, _, _, [], _, [], hW', trodAll_mk1 (shut_bool Try.underlying4 _), (trodAll_cons_mk (shut_int Try.underlying3 w0) (trodAll_cons_mk (Below.trod laid_out (by kernel_rfl) (of_decide_eq_true (by kernel_rfl)) k1 bel lt1) trodAll_mk0)), rfl, bel.frame _, fun h => by cases h⟩

set_option maxRecDepth 100000 in
theorem frameFeeds_holds : Rows.FrameFeedsSaid :=
  OpenClaim.holds_of_wide 4 Try.f4 rfl rfl rfl rfl rfl rfl rfl ⟨rfl, rfl, rfl, rfl, rfl⟩ rfl rfl rfl rfl rfl (by kernel_rfl) Try.func4 (by kernel_rfl)
    (of_decide_eq_true (by kernel_rfl)) (by unfold Func.isWrapper; first | (rw [if_pos (by decide +kernel)]; kernel_rfl) | (rw [if_neg (by decide +kernel)]; exact ⟨rfl, rfl⟩))
    (fun os started H tok _ => frameFeeds_lifted os started H tok)
#print axioms frameFeeds_holds
end Go.Proofs.Ytkcnpdcgonengaa
