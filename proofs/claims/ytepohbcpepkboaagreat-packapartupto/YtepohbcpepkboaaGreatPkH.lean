/- What is read out of bytes: how much there is at most; texts and values, gathered one by one. Conditions: as each says. -/
import Derived.Test.YtepohbcpepkboaaGreatPkF
import Derived.Test.YtepohbcpepkboaaGreatPureE
import Derived.Test.YtepohbcpepkboaaGreatVList
import Derived.Test.YtepohbcpepkboaaGreatPkB
namespace Go.Proofs.YtepohbcpepkboaaGreat
open Go.RowKit Go.Maps Go.WideMaps

set_option maxRecDepth 100000 in
theorem size_mem : ∀ {l : List V} {x : V}, x ∈ l → x.size ≤ V.size.go l
  | y :: r, x, h => by
    simp only [V.size.go]
    rcases List.mem_cons.1 h with rfl | h
    · omega
    · have := size_mem h; omega
set_option maxRecDepth 100000 in
theorem cl_mem {v x : V} (h : v.cl) (hx : x ∈ v.l) : x.cl := by
  cases v; simp only [V.cl] at h; exact clL_mem h.2.2.2.2.2.2.2.2.2 hx
set_option maxRecDepth 100000 in
set_option maxHeartbeats 3200000 in
theorem bytes_all (P : Nat) : ∀ (n : Nat) (v : V), v.size ≤ n → v.cl → v.nok → v.bulk ≤ 1048576 → BytesC P v
  | 0, v, h, _, _, _ => by cases v; simp only [V.size] at h; omega
  | n + 1, v, hn, hcl, hnk, hbk => by
    have HB : ∀ x ∈ v.l, BytesC P x := fun x hx => bytes_all P n x (by
      have h1 := size_mem hx
      obtain ⟨k, b, a, m, s, l, q⟩ := v
      simp only [V.size] at hn
      simp only at h1
      omega) (cl_mem hcl hx) (((nok_eq v).1 hnk).2 x hx) (by
      have h1 := bulk_mem hx
      obtain ⟨k, b, a, m, s, l, q⟩ := v
      simp only [V.bulk] at hbk
      simp only at h1
      omega)
    intro W hx e hr hpb
    have hone := hr.one
    have hPlt := hpb.lt
    have hflds := packF_flds (cl_kind hcl) hnk
    have hb0 : Below W.heap.size W (W.alloc (.cells #[hx] 34)) := (Below.refl _ _).alloc (Nat.le_refl _) _
    have hz0 := hb0.size
    have CF := hide (fields_any HB ((hr.stays hb0).mono (fun b h1 h2 => ⟨h2, h1.2⟩)) (hpb.below hb0) hcl hnk hbk)
    have hpe := hide (enc_err (packF_ok v))
    have hXE := hide (packX_eq v)
    have hBE := packB_eq v
    clear HB hr hpb hcl hnk hbk hn
    go_enter Tryz.func26, Tryz.ntmps26
    go_wp2_with fail
    refine CF.out.mono ?_
    rintro ex w1 ⟨lv, qs, rfl, hP1, hq1, hp1, hm1⟩
    obtain ⟨a, cap, rfl, hrow, hnil, hle, hmx⟩ := hP1.1.view
    rw [hq1] at hrow
    have hql : qs.length = v.packF.length := by rw [← hq1]; simp
    have CE := hide (encode_any a v.packF cap w1 hrow (by omega) hmx)
    have hbyte := encM_byte v.packF hflds hrow.bytes
    rw [← hql] at CE
    have hz1 := hm1.size
    clear CF hq1 hrow hnil hle hmx hql hP1 hflds
    go_wp2_with fail
    refine CE.out.mono ?_
    rintro ex w2 ⟨v2, rfl, hown2, hb2⟩
    obtain ⟨a2, c2, rfl, -, h1, h2, h3, h4, h5⟩ := own_view' hown2 hbyte
    rw [← hBE] at h1 h2 h3 ⊢
    have hp2 := hp1.below hb2
    have hz2 := hb2.size
    clear CE hown2 hbyte hp1
    go_wp2_with fail
    refine (fail_any hp2 (encM v.packF).2).mono ?_
    rintro ex w3 ⟨rfl, hp3, hm3⟩
    have hrow3 : Row w3 a2 v.packB := h1.grown (fun _ x hx e => by injection e with e; have := h5 x hx; omega) hm3
    have hpm : Pm P W w3 := ((Pm.of hb0).trans hm1).trans ((Pm.of hb2).trans hm3)
    have hpe3 : PB w3 P (errOf e v.packX) := by
      have e1 : errOf e v.packX = if errOf e (v.l.any V.packX) = 0 then (encM v.packF).2 else errOf e (v.l.any V.packX) := by
        rw [hXE.out, ← errOf_or]
        generalize errOf e (v.l.any V.packX) = e1
        unfold errOf
        rcases hpe.out with h | h <;> by_cases h0 : e1 = 0 <;> simp [h, h0]
      rw [e1]; exact hp3
    clear hp3 hp2 hm1 hm3 hb2 hpe hXE h1
    have HZ := hide (And.intro hrow3 (And.intro hpe3 hpm))
    clear hrow3 hpe3 hpm
    go_wp2_with fail
    go_ret
    exact ⟨a2, c2, by rw [hBE]; rfl, HZ.out.1, h2, h3, h4, fun ad hx => by have := h5 ad hx; omega, HZ.out.2.1, HZ.out.2.2⟩
set_option maxRecDepth 100000 in
theorem toomany_any {W : World} {ok : Nat → Prop} {h : Value} {v : V} (hr : Rep W ok h v) : Calls Tryz.prog 25 #[.agg #[h]] W fun e w' => e = .returned (.bool (decide (2048 < v.size))) ∧ Below W.heap.size W w' := by
  have hb0 : Below W.heap.size W (W.alloc (.cells #[h] 34)) := (Below.refl _ _).alloc (Nat.le_refl _) _
  have C := hide (gsize_any (hr.stays hb0))
  have hone := hr.one
  clear hr
  generalize v.size = sz at *
  by_cases hs : 2048 < sz
  · have hs' : (2048 : Int) < (sz : Int) := by omega
    go_enter Tryz.func25, Tryz.ntmps25
    go_wp2_with fail
    refine C.out.mono ?_
    rintro ex w1 ⟨rfl, hb1⟩
    have hB := hb0.trans (hb1.mono hb0.size)
    go_wp2_with fail
    go_ret
    exact ⟨by simp [hs], hB⟩
  · have hs' : ¬ (2048 : Int) < (sz : Int) := by omega
    go_enter Tryz.func25, Tryz.ntmps25
    go_wp2_with fail
    refine C.out.mono ?_
    rintro ex w1 ⟨rfl, hb1⟩
    have hB := hb0.trans (hb1.mono hb0.size)
    go_wp2_with fail
    go_ret
    exact ⟨by simp; omega, hB⟩
/-- What Encode answers. -/
def V.enc (v : V) : List Int × Int := if v.right = true ∧ v.size ≤ 2048 ∧ v.packX = false then (v.packB, 0) else ([], 3)
set_option maxRecDepth 100000 in
theorem enc_yes {v : V} (h1 : v.right = true) (h2 : v.size ≤ 2048) (h3 : v.packX = false) : v.enc = (v.packB, 0) := by unfold V.enc; rw [if_pos ⟨h1, h2, h3⟩]
set_option maxRecDepth 100000 in
theorem enc_no {v : V} (h : ¬ (v.right = true ∧ v.size ≤ 2048 ∧ v.packX = false)) : v.enc = ([], 3) := by unfold V.enc; rw [if_neg h]
set_option maxRecDepth 100000 in
set_option maxHeartbeats 3200000 in
theorem pencode_any {W : World} {ok : Nat → Prop} {h : Value} {v : V} (hr : Rep W ok h v) (hcl : v.cl) (hnk : v.nok) (hbk : v.bulk ≤ 1048576) :
    Calls Tryz.prog 10 #[.agg #[h]] W fun ex W' => ∃ a c, ex = .returned (.tuple #[.slice a v.enc.1.length c, .int .i64 v.enc.2]) ∧ Row W' a v.enc.1 ∧ (a = none → v.enc.1.length = 0 ∧ c = 0) ∧ v.enc.1.length ≤ c ∧ c ≤ maxLen ∧ (∀ ad, a = some ad → W.heap.size ≤ ad.block) ∧ Below W.heap.size W W' := by
  have hone := hr.one
  have hr0 : Rep W (fun b => b < W.heap.size) h v := hr.mono (fun b _ h2 => h2)
  have hb0 : Below W.heap.size W (W.alloc (.cells #[h] 34)) := (Below.refl _ _).alloc (Nat.le_refl _) _
  have hcb : (W.alloc (.cells #[h] 34)).cell? ⟨W.heap.size, 0, none⟩ = some h := cell_of_row _ _ 0 _ _ _ (heap_alloc_new W (.cells #[h] 34))
  have HC : Hid (∀ W', Below (W.alloc (.cells #[h] 34)).heap.size (W.alloc (.cells #[h] 34)) W' → W'.cell? ⟨W.heap.size, 0, none⟩ = some h) := fun W' hW => (hW.cell (p := ⟨W.heap.size, 0, none⟩) (by simp)).trans hcb
  have CR := hide (gright_any (hr.stays hb0))
  clear hr
  by_cases hR : v.right = true
  · rw [hR] at CR
    go_enter Tryz.func10, Tryz.ntmps10
    go_wp2_with fail
    refine CR.out.mono ?_
    rintro ex w1 ⟨rfl, hb1⟩
    have hB1 := hb0.trans (hb1.mono hb0.size)
    have hc1 := HC.out _ hb1
    clear CR hcb
    go_wp2_with fail
    refine (toomany_any (hr0.stays hB1)).mono ?_
    rintro ex w2 ⟨rfl, hb2⟩
    have hB2 := hB1.trans (hb2.mono hB1.size)
    have hb02 := hb1.trans (hb2.mono hb1.size)
    clear hc1
    by_cases hS : 2048 < v.size
    · have hE : v.enc = ([], 3) := enc_no (fun h => by omega)
      go_wp2_with fail
      go_ret2
      exact ⟨none, 0, by rw [hE]; rfl, by rw [hE]; exact Row.nil _ _, by rw [hE]; simp, by rw [hE]; simp, by simp [maxLen], by simp, hB2⟩
    · have hb03 : Below (W.alloc (.cells #[h] 34)).heap.size (W.alloc (.cells #[h] 34)) (w2.alloc (.cells #[.int .i64 0] 61)) := hb02.alloc hb02.size _
      have hc3 := HC.out _ hb03
      have hB3 : Below W.heap.size W (w2.alloc (.cells #[.int .i64 0] 61)) := hb0.trans (hb03.mono hb0.size)
      have hz3 := hB2.size
      have hz2 : W.heap.size < w2.heap.size := by have h1 := hb02.size; simp at h1; omega
      have CB := hide (bytes_all w2.heap.size v.size v (Nat.le_refl _) hcl hnk hbk (w2.alloc (.cells #[.int .i64 0] 61)) h 0 ((hr0.stays hB3).mono (fun b h1 h2 => ⟨h2, by omega⟩)) (heap_alloc_new _ _))
      clear hcl hnk hbk
      go_wp2_with fail
      refine CB.out.mono ?_
      rintro ex w4 ⟨a, c, rfl, hrow, hnil, hle, hmx, hfr, hpb, hpm⟩
      have hB4 : Below W.heap.size W w4 := ⟨hpm.os.trans hB3.os, hpm.tape.trans hB3.tape, hpm.output.trans hB3.output, Nat.le_trans hB3.size hpm.size, fun k hk => (hpm.block k (Nat.lt_of_lt_of_le hk hB3.size) (fun e => by injection e with e; omega)).trans (hB3.block k hk)⟩
      have hzz := hB3.size
      clear CB hc3 hpm
      have hS' : v.size ≤ 2048 := by omega
      cases hX : v.packX
      · rw [hX, errOf_no] at hpb
        have hE := enc_yes hR hS' hX
        have H1 := hide hE
        clear hE
        go_wp2_with fail
        refine (failed_any hpb).mono ?_
        rintro ex w5 ⟨rfl, rfl⟩
        go_wp2_with fail
        go_ret2
        have hE := H1.out
        exact ⟨a, c, by rw [hE]; rfl, by rw [hE]; exact hrow, by rw [hE]; exact hnil, by rw [hE]; exact hle, hmx, fun ad ha => by have := hfr ad ha; omega, hB4⟩
      · rw [hX] at hpb
        have hpb3 : PB w4 w2.heap.size 3 := hpb
        have hc4 : w4.cell? ⟨w2.heap.size, 0, none⟩ = some (.int .i64 3) := cell_of_row _ _ _ _ _ _ hpb3
        have hE : v.enc = ([], 3) := enc_no (fun h => by rw [hX] at h; simp at h)
        have H1 := hide hE
        clear hE hpb
        go_wp2_with fail
        refine (failed_any hpb3).mono ?_
        rintro ex w5 ⟨rfl, rfl⟩
        go_wp2_with fail
        go_quiet (fail)
        go_wp2_with fail
        go_ret2
        have hE := H1.out
        exact ⟨none, 0, by rw [hE]; rfl, by rw [hE]; exact Row.nil _ _, by rw [hE]; simp, by rw [hE]; simp, by simp [maxLen], by simp, below_drewN hB4 _⟩
  · have hR' : v.right = false := by simpa using hR
    rw [hR'] at CR
    have hE : v.enc = ([], 3) := enc_no (fun h => by rw [hR'] at h; simp at h)
    go_enter Tryz.func10, Tryz.ntmps10
    go_wp2_with fail
    refine CR.out.mono ?_
    rintro ex w1 ⟨rfl, hb1⟩
    have hB1 := hb0.trans (hb1.mono hb0.size)
    go_wp2_with fail
    go_ret2
    exact ⟨none, 0, by rw [hE]; rfl, by rw [hE]; exact Row.nil _ _, by rw [hE]; simp, by rw [hE]; simp, by simp [maxLen], by simp, hB1⟩
end Go.Proofs.YtepohbcpepkboaaGreat

namespace Go.Proofs.YtepohbcpepkboaaGreat
open Go.RowKit Go.Maps

set_option maxRecDepth 100000 in
theorem cloneV_own (ao : Option Addr) (us : List Value) (c : Nat) (w : World) {ok : Nat → Prop} (hrow : CRow w ok ao us) (hok : SliceOk ao us.length c) (h1 : ∀ u ∈ us, u.oneCell' = true) (hn : us.length ≤ 1099511627776) :
    Calls Tryz.prog 56 #[.slice ao us.length c] w fun e w' => ∃ v', e = .returned v' ∧ w'.ownsRow w.heap.size 34 1 v' us.length us ∧ Below w.heap.size w w' := by
  cases ao with
  | none =>
    obtain ⟨h0, rfl⟩ := hok.1 rfl
    have hz : us = [] := List.eq_nil_of_length_eq_zero h0
    subst hz
    clear hrow h1 hn hok
    have q := fun (W : World) (a : Option Addr) (n c n' c' : Nat) => Lib.run_eql_slice_nil (P := Tryz.prog) W 45 34 a n c n' c' Tryz.underlying45
    go_enter Tryz.func56, Tryz.ntmps56
    go_wp2_with fail
    go_ret
    exact ⟨_, rfl, ⟨rfl, Or.inl ⟨rfl, rfl⟩⟩, Below.refl _ _⟩
  | some ad =>
    have hr1 := hrow.alloc (.cells #[] 34)
    have q := fun (W : World) (a : Option Addr) (n c n' c' : Nat) => Lib.run_eql_slice_nil (P := Tryz.prog) W 45 34 a n c n' c' Tryz.underlying45
    go_enter Tryz.func56, Tryz.ntmps56
    go_wp2_with (at_builtin; go_must (refine wpList_append_any rfl (.tmp 5) (.tmp 6) 45 34 _ _ Tryz.underlying45 infoVal rfl (by decide) rfl w.heap.size _ 0 [] rfl (World.ownsRow_lit w #[] 0 (Nat.le_refl _) (by simp [maxLen]) rfl) (some ad) us us.length c rfl rfl hr1 (by intro e; cases e) h1 (by omega) (by simp) ?_; intro v1 w1 hown1 hgrow1))
    simp only [Nat.zero_add, List.nil_append] at hown1
    have hb1 : Below w.heap.size w w1 := below_cown ((Below.refl _ _).alloc (Nat.le_refl _) _) (World.ownsRow_lit w #[] 0 (Nat.le_refl _) (by simp [maxLen]) rfl) (by simp) hgrow1
    clear hgrow1
    go_ret
    exact ⟨_, rfl, hown1, hb1⟩
set_option maxRecDepth 100000 in
theorem cloneS_own (ao : Option Addr) (us : List Value) (c : Nat) (w : World) {ok : Nat → Prop} (hrow : CRow w ok ao us) (hok : SliceOk ao us.length c) (h1 : ∀ u ∈ us, u.oneCell' = true) (hn : us.length ≤ 1099511627776) :
    Calls Tryz.prog 75 #[.slice ao us.length c] w fun e w' => ∃ v', e = .returned v' ∧ w'.ownsRow w.heap.size 9 1 v' us.length us ∧ Below w.heap.size w w' := by
  cases ao with
  | none =>
    obtain ⟨h0, rfl⟩ := hok.1 rfl
    have hz : us = [] := List.eq_nil_of_length_eq_zero h0
    subst hz
    clear hrow h1 hn hok
    have q := fun (W : World) (a : Option Addr) (n c n' c' : Nat) => Lib.run_eql_slice_nil (P := Tryz.prog) W 23 9 a n c n' c' Tryz.underlying23
    go_enter Tryz.func75, Tryz.ntmps75
    go_wp2_with fail
    go_ret
    exact ⟨_, rfl, ⟨rfl, Or.inl ⟨rfl, rfl⟩⟩, Below.refl _ _⟩
  | some ad =>
    have hr1 := hrow.alloc (.cells #[] 9)
    have q := fun (W : World) (a : Option Addr) (n c n' c' : Nat) => Lib.run_eql_slice_nil (P := Tryz.prog) W 23 9 a n c n' c' Tryz.underlying23
    go_enter Tryz.func75, Tryz.ntmps75
    go_wp2_with (at_builtin; go_must (refine wpList_append_any rfl (.tmp 5) (.tmp 6) 23 9 _ _ Tryz.underlying23 infoStr rfl (by decide) rfl w.heap.size _ 0 [] rfl (World.ownsRow_lit w #[] 0 (Nat.le_refl _) (by simp [maxLen]) rfl) (some ad) us us.length c rfl rfl hr1 (by intro e; cases e) h1 (by omega) (by simp) ?_; intro v1 w1 hown1 hgrow1))
    simp only [Nat.zero_add, List.nil_append] at hown1
    have hb1 : Below w.heap.size w w1 := below_cown ((Below.refl _ _).alloc (Nat.le_refl _) _) (World.ownsRow_lit w #[] 0 (Nat.le_refl _) (by simp [maxLen]) rfl) (by simp) hgrow1
    clear hgrow1
    go_ret
    exact ⟨_, rfl, hown1, hb1⟩
set_option maxRecDepth 100000 in
/-- A row of values out of a row of what they hold. -/
theorem RRow.of_vals {w : World} {ok : Nat → Prop} {a : Option Addr} {us : List Value} {l : List V} (hc : CRow w ok a us) (hl : us.length = l.length) (hin : ∀ j (hj : j < us.length) (hk : j < l.length), Rep w ok us[j] l[j]) : RRow w ok a l := by
  refine ⟨fun j => us[j]?.getD .nilIface, fun h0 => ?_, fun j hj => ?_⟩
  · obtain ⟨b, off, rfl, hb, hcell⟩ := hc (by intro e; subst e; simp at hl; omega)
    refine ⟨b, off, rfl, hb, fun j hj => ?_⟩
    have hju : j < us.length := by omega
    rw [hcell j us[j] (List.getElem?_eq_getElem hju)]
    simp [hju]
  · have hju : j < us.length := by omega
    simpa [hju] using hin j hju hj
set_option maxRecDepth 100000 in
/-- What a row of values is to a reader: what they hold, one by one. -/
theorem RRow.vals {w : World} {ok : Nat → Prop} {a : Option Addr} {l : List V} (h : RRow w ok a l) : ∃ us : List Value, us.length = l.length ∧ CRow w ok a us ∧ (∀ u ∈ us, u.oneCell' = true) ∧ ∀ j (hj : j < us.length) (hk : j < l.length), Rep w ok us[j] l[j] := by
  obtain ⟨H, h1, h2⟩ := h
  refine ⟨(List.range l.length).map H, by simp, h1.crow, one_map h2, fun j hj hk => ?_⟩
  simpa using h2 j hk
set_option maxRecDepth 100000 in
theorem ins_rep {w : World} {ok : Nat → Prop} {us : List Value} {l : List V} (hl : us.length = l.length) (hin : ∀ j (hj : j < us.length) (hk : j < l.length), Rep w ok us[j] l[j]) {u : Value} {x : V} (hu : Rep w ok u x) (i : Nat) (hi : i ≤ l.length) :
    ∀ j (hj : j < (us.take i ++ u :: us.drop i).length) (hk : j < (l.take i ++ x :: l.drop i).length), Rep w ok (us.take i ++ u :: us.drop i)[j] (l.take i ++ x :: l.drop i)[j] := by
  intro j hj hk
  have e1 : (us.take i).length = i := by simp; omega
  have e2 : (l.take i).length = i := by simp; omega
  by_cases h1 : j < i
  · rw [List.getElem_append_left (by omega), List.getElem_append_left (by omega), List.getElem_take, List.getElem_take]
    exact hin j (by omega) (by omega)
  · rw [List.getElem_append_right (by omega), List.getElem_append_right (by omega)]
    simp only [e1, e2]
    by_cases h2 : j = i
    · subst h2
      simpa using hu
    · obtain ⟨k, rfl⟩ : ∃ k, j = i + 1 + k := ⟨j - i - 1, by omega⟩
      have e3 : i + 1 + k - i = k + 1 := by omega
      simp only [e3, List.getElem_cons_succ, List.getElem_drop]
      exact hin _ _ _
end Go.Proofs.YtepohbcpepkboaaGreat

namespace Go.Proofs.YtepohbcpepkboaaGreat
open Go.RowKit Go.Maps Go.WideMaps

set_option maxRecDepth 100000 in
theorem decF_err : ∀ (f : Nat) (l : List Fld) (k : Int) (zs : List Int), (decF f l k zs).2.2 ≠ 0 → (decF f l k zs).1 = []
  | 0, l, k, zs, h => by simp [decF] at h
  | f + 1, l, k, zs, h => by
    unfold decF at h ⊢
    by_cases h1 : zs = []
    · rw [if_pos h1] at h; simp at h
    · rw [if_neg h1] at h ⊢
      by_cases h2 : (rf zs).2.2 ≠ 0
      · rw [if_pos h2]
      · rw [if_neg h2] at h ⊢
        by_cases h3 : nextE l (rf zs).1 ≠ 0
        · rw [if_pos h3]
        · rw [if_neg h3] at h ⊢
          exact decF_err f _ _ _ h
set_option maxRecDepth 100000 in
theorem decM_err (zs : List Int) (h : (decM zs).2.2 ≠ 0) : (decM zs).1 = [] := by
  unfold decM at h ⊢
  split
  · rfl
  · rename_i h1
    rw [if_neg h1] at h
    exact decF_err _ _ _ _ h
/-- How many bytes the fields of bytes have, with two more for each. -/
def wide (fs : List Fld) : Nat := (fs.map (fun f => if f.isB then f.b.length + 2 else 0)).sum
set_option maxRecDepth 100000 in
theorem wide_lay : ∀ fs : List Fld, wide fs ≤ (layAll fs).length
  | [] => by simp [wide, layAll]
  | f :: fs => by
    have ih := wide_lay fs
    have e : (layAll (f :: fs)).length = (lay f).length + (layAll fs).length := by simp [layAll]
    have e2 : wide (f :: fs) = (if f.isB then f.b.length + 2 else 0) + wide fs := by simp [wide]
    rw [e, e2]
    cases hb : f.isB
    · simp; omega
    · have e3 : lay f = enc (f.tag * 2 + 1) ++ enc f.b.length ++ f.b := by unfold lay; rw [if_pos hb]
      have h1 := (enc_len (f.tag * 2 + 1)).1
      have h2 := (enc_len (f.b.length : Int)).1
      rw [e3]
      simp only [List.length_append, if_true]
      omega
set_option maxRecDepth 100000 in
theorem dec_wide (zs : List Int) (hz : ∀ c ∈ zs, 0 ≤ c ∧ c ≤ 255) : wide (decM zs).1 ≤ zs.length ∧ wide (decM zs).1 ≤ 4096 ∧ (decM zs).1.length ≤ 64 := by
  refine ⟨?_, ?_, decM_len zs⟩
  · by_cases h : (decM zs).2.2 = 0
    · have h1 := encM_dec zs hz h
      have h2 : (encM (decM zs).1).2 = 0 := by rw [h1]
      have h3 := (encM_ok h2).2
      rw [h1] at h3
      have h4 := wide_lay (decM zs).1
      simp only at h3
      rw [← h3] at h4
      exact h4
    · rw [decM_err zs h]; simp [wide]
  · by_cases h : (decM zs).2.2 = 0
    · have h1 := encM_dec zs hz h
      have h2 : (encM (decM zs).1).2 = 0 := by rw [h1]
      have h3 := (encM_ok h2).2
      have h5 := encM_len (decM zs).1
      rw [h3] at h5
      have h4 := wide_lay (decM zs).1
      omega
    · rw [decM_err zs h]; simp [wide]
set_option maxRecDepth 100000 in
theorem wide_mem : ∀ {fs : List Fld} {f : Fld}, f ∈ fs → f.isB = true → f.b.length + 2 ≤ wide fs
  | g :: fs, f, h, hb => by
    have e2 : wide (g :: fs) = (if g.isB then g.b.length + 2 else 0) + wide fs := by simp [wide]
    rcases List.mem_cons.1 h with rfl | h
    · rw [e2, if_pos hb]; omega
    · have := wide_mem h hb; omega
set_option maxRecDepth 100000 in
theorem many_mem {t : Int} {fs : List Fld} {b : List Int} (h : b ∈ manyB t fs) : ∃ f ∈ fs, f.isB = true ∧ f.b = b := by
  obtain ⟨f, hf, rfl⟩ := List.mem_map.1 h
  have h2 := List.mem_filter.1 hf
  simp [fitB] at h2
  exact ⟨f, h2.1, h2.2.2, rfl⟩
set_option maxRecDepth 100000 in
theorem many_wide (t : Int) : ∀ fs : List Fld, ((manyB t fs).map (fun b => b.length + 2)).sum ≤ wide fs
  | [] => by simp [manyB]
  | f :: fs => by
    have ih := many_wide t fs
    have e2 : wide (f :: fs) = (if f.isB then f.b.length + 2 else 0) + wide fs := by simp [wide]
    unfold manyB at ih ⊢
    rw [List.filter_cons, e2]
    split
    · rename_i h
      have hb : f.isB = true := by simp [fitB] at h; exact h.2
      rw [if_pos hb]
      simp only [List.map_cons, List.sum_cons]
      omega
    · omega
set_option maxRecDepth 100000 in
theorem many_wide2 (t t' : Int) (hne : t ≠ t') : ∀ fs : List Fld, ((manyB t fs).map (fun b => b.length + 2)).sum + ((manyB t' fs).map (fun b => b.length + 2)).sum ≤ wide fs
  | [] => by simp [manyB]
  | f :: fs => by
    have ih := many_wide2 t t' hne fs
    have e2 : wide (f :: fs) = (if f.isB then f.b.length + 2 else 0) + wide fs := by simp [wide]
    unfold manyB at ih ⊢
    rw [List.filter_cons, List.filter_cons, e2]
    by_cases h1 : fitB t true f = true
    · have h1' := h1
      simp [fitB] at h1'
      have h2 : ¬ fitB t' true f = true := by simp [fitB]; intro e; omega
      rw [if_pos h1, if_neg h2, if_pos h1'.2]
      simp only [List.map_cons, List.sum_cons]
      omega
    · rw [if_neg h1]
      by_cases h2 : fitB t' true f = true
      · have h2' := h2
        simp [fitB] at h2'
        rw [if_pos h2, if_pos h2'.2]
        simp only [List.map_cons, List.sum_cons]
        omega
      · rw [if_neg h2]
        omega
set_option maxRecDepth 100000 in
theorem number2_any (ao : Option Addr) (fs : List Fld) (cap : Nat) (tag : Int) (w : World) (hr : FRow w ao fs) (hm : fs.length ≤ 9223372036854775806) :
    Calls Tryz.prog 66 #[.slice ao fs.length cap, .int .i64 tag] w fun e w' => e = .returned (.int .u64 (numN (fitB tag false) fs)) ∧ Below w.heap.size w w' := by
  go_enter Tryz.func66, Tryz.ntmps66
  go_wp2_with fail
  refine (number_any ao fs cap tag w hr hm).mono ?_
  rintro ex w1 ⟨rfl, hb1⟩
  go_wp2_with fail
  go_ret
  exact ⟨rfl, hb1⟩
end Go.Proofs.YtepohbcpepkboaaGreat

