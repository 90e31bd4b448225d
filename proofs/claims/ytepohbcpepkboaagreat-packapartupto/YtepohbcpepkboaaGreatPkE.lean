/- Fields, and the bytes of the values that stand in one behind them. Conditions: a value of at most 1048576 values and letters; the contract of each of them. -/
import Derived.Test.YtepohbcpepkboaaGreatFOwn
import Derived.Test.YtepohbcpepkboaaGreatPkC
import Derived.Test.YtepohbcpepkboaaGreatVShelf
import Derived.Test.YtepohbcpepkboaaGreatMsgE
namespace Go.Proofs.YtepohbcpepkboaaGreat
open Go.RowKit Go.Maps Go.WideMaps

set_option maxRecDepth 100000 in
theorem FOwn.appends {T : TypeId} {w w' : World} {base : Nat} {v v' : Value} {ps qs : List (Fld × Option Addr × Nat)} (h : FOwn T w base v ps)
    (hown : w'.ownsRow base T 4 v' (ps.length + qs.length) (cellsP ps ++ cellsP qs)) (hg : w.grownBy w' v.ownBlock) (hat : v'.ownBlock = v.ownBlock ∨ v'.ownBlock = some w.heap.size)
    (hok : ∀ p ∈ qs, p.1.ok) (hsh : ∀ p ∈ qs, p.1.shown w p.2.1 p.2.2) (hap : ∀ p ∈ qs, p.1.b ≠ [] → ∀ x, p.2.1 = some x → some x.block ≠ v.ownBlock) : FOwn T w' base v' (ps ++ qs) := by
  have hsh' : ∀ q : Fld × Option Addr × Nat, q.1.shown w q.2.1 q.2.2 → (q.1.b ≠ [] → ∀ x, q.2.1 = some x → some x.block ≠ v.ownBlock) → q.1.shown w' q.2.1 q.2.2 := fun q hs ha => ⟨hs.1.grown ha hg, hs.2⟩
  have hap' : ∀ q : Fld × Option Addr × Nat, q.1.shown w q.2.1 q.2.2 → (q.1.b ≠ [] → ∀ x, q.2.1 = some x → some x.block ≠ v.ownBlock) → q.1.b ≠ [] → ∀ x, q.2.1 = some x → some x.block ≠ v'.ownBlock := fun q hs ha hne x hx => by
    rcases hat with e | e
    · rw [e]; exact ha hne x hx
    · rw [e]
      obtain ⟨b, off, hx1, -⟩ := hs.1.2 hne
      have hr := hs.1
      rw [hx1] at hx hr
      obtain rfl := Option.some.inj hx
      have := Row.lt hr hne
      simp; omega
  refine ⟨by rw [List.length_append, cellsP_append]; exact hown, ?_, ?_, ?_⟩
  · intro q hq
    rcases List.mem_append.1 hq with hq | hq
    · exact h.ok q hq
    · exact hok q hq
  · intro q hq
    rcases List.mem_append.1 hq with hq | hq
    · exact hsh' q (h.sh q hq) (h.ap q hq)
    · exact hsh' q (hsh q hq) (hap q hq)
  · intro q hq
    rcases List.mem_append.1 hq with hq | hq
    · exact hap' q (h.sh q hq) (h.ap q hq)
    · exact hap' q (hsh q hq) (hap q hq)
/-- A row of fields of the call's own; their bytes lie in blocks of the call's own, too. -/
def PFd (W : World) (base : Nat) (v : Value) (ps : List (Fld × Option Addr × Nat)) : Prop := FOwn 149 W base v ps ∧ ∀ p ∈ ps, p.1.b ≠ [] → ∀ x, p.2.1 = some x → base ≤ x.block
set_option maxRecDepth 100000 in
theorem PFd.below {W W' : World} {base : Nat} {v : Value} {ps : List (Fld × Option Addr × Nat)} (h : PFd W base v ps) (hb : Below W.heap.size W W') : PFd W' base v ps := ⟨h.1.below hb, h.2⟩
set_option maxRecDepth 100000 in
theorem PFd.moved {W W' : World} {base P : Nat} {v : Value} {ps : List (Fld × Option Addr × Nat)} (h : PFd W base v ps) (hP : P < base) (hm : W.grownBy W' (some P)) : PFd W' base v ps := by
  refine ⟨⟨h.1.own.kept hm ?_, h.1.ok, fun p hp => ⟨(h.1.sh p hp).1.grown (fun hne x hx e => ?_) hm, (h.1.sh p hp).2⟩, h.1.ap⟩, h.2⟩
  · cases hv : v.ownBlock with
    | none => exact Or.inl rfl
    | some k => exact Or.inr (fun e => by injection e with e; have := (h.1.own.lt k hv).1; omega)
  · injection e with e
    have := h.2 p hp hne x hx
    omega
set_option maxRecDepth 100000 in
theorem PFd.low {W : World} {base base' : Nat} {v : Value} {ps : List (Fld × Option Addr × Nat)} (h : PFd W base v ps) (hb : base' ≤ base) : PFd W base' v ps := by
  refine ⟨⟨⟨h.1.own.1, ?_⟩, h.1.ok, h.1.sh, h.1.ap⟩, fun p hp hne x hx => Nat.le_trans hb (h.2 p hp hne x hx)⟩
  rcases h.1.own.2 with h2 | ⟨g, cap, cur, e, hg, r⟩
  · exact Or.inl h2
  · exact Or.inr ⟨g, cap, cur, e, by omega, r⟩
set_option maxRecDepth 100000 in
theorem PFd.own {W : World} {base : Nat} {v : Value} {ps : List (Fld × Option Addr × Nat)} (h : PFd W base v ps) : ∀ k, v.ownBlock = some k → base ≤ k ∧ k < W.heap.size := fun k hk => h.1.own.lt k hk
set_option maxRecDepth 100000 in
theorem infoFd : (Tryz.prog.info? 149).map (fun i => (i.zero, i.size, i.bytes)) = some (some (.agg #[.int .i64 0, .bool false, .int .u64 0, .slice none 0 0]), 4, 48) := by kernel_rfl
set_option maxRecDepth 100000 in
/-- Fields appended, that lie in a block. -/
theorem append_flds {W : World} {base : Nat} {v : Value} {ps : List (Fld × Option Addr × Nat)} (h : PFd W base v ps) (hX : base ≤ W.heap.size) (qs : List (Fld × Option Addr × Nat)) {B : Nat} {T : TypeId} {fr : Nat × Nat} (hB : W.heap[B]? = some (.cells (cellsP qs).toArray T fr))
    (hok : ∀ p ∈ qs, p.1.ok) (hsh : ∀ p ∈ qs, p.1.shown W p.2.1 p.2.2) (hap : ∀ p ∈ qs, p.1.b ≠ [] → ∀ x, p.2.1 = some x → base ≤ x.block ∧ some x.block ≠ v.ownBlock) (hl : ps.length + qs.length ≤ 4194304) (m c : Nat) (hm : qs.length = m) (ty : TypeId) :
    ∃ v' W', (Builtin.append_ #[102, 102] ty #[v, .slice (some ⟨B, 0, none⟩) m c]).run Tryz.prog W = .ok v' W' ∧ PFd W' base v' (ps ++ qs) ∧ W.grownBy W' v.ownBlock ∧ (v'.ownBlock = v.ownBlock ∨ v'.ownBlock = some W.heap.size) := by
  subst hm
  obtain ⟨i0, hi, hz0, hz1, hz2⟩ := info_parts7 infoFd
  obtain ⟨v', w', h2, h3, h4, h5⟩ := run_append_any W base 102 ty 149 i0 _ 4 48 Tryz.underlying102 hi hz0 hz1 hz2 rfl (by omega) v ps.length _ h.1.own (some ⟨B, 0, none⟩) qs.length c (cellsP qs) (cellsP_len qs) (by intro e; cases e) (fun ad e j u hu => by
    injection e with e
    subst e
    rw [Addr.add_lit]
    have e3 : (⟨B, 0 + j, none⟩ : Addr) = ⟨B, j, none⟩ := by simp
    rw [e3, cell_of_row _ _ _ _ _ _ hB]
    simpa using hu) (cellsP_one qs) (by simp [maxLen]; omega) (by omega) hX
  refine ⟨v', w', h2, ⟨h.1.appends h3 h4 h5 hok hsh (fun p hp hne x hx => (hap p hp hne x hx).2), fun p hp hne x hx => ?_⟩, h4, h5⟩
  rcases List.mem_append.1 hp with hp | hp
  · exact h.2 p hp hne x hx
  · exact (hap p hp hne x hx).1
end Go.Proofs.YtepohbcpepkboaaGreat

namespace Go.Proofs.YtepohbcpepkboaaGreat
open Go.RowKit Go.Maps Go.WideMaps

set_option maxRecDepth 100000 in
theorem pcells_arr (p : Fld × Option Addr × Nat) : (cellsP [p]).toArray = #[.int .i64 p.1.tag, .bool p.1.isB, .int .u64 p.1.n, .slice p.2.1 p.1.b.length p.2.2] := by
  simp [cellsP, pcells]
set_option maxRecDepth 100000 in
set_option maxHeartbeats 3200000 in
theorem keys_any {W : World} {base : Nat} {lv : Value} {ps : List (Fld × Option Addr × Nat)} {h : Value} {v : V} (hr : Rep W (fun b => b < base) h v) (hp : PFd W base lv ps) (hX : base ≤ W.heap.size) (hn : v.keys.length ≤ 1048576) (hs : ∀ x ∈ v.keys, x.size ≤ 1048576) (hps : ps.length ≤ 10) :
    Calls Tryz.prog 88 #[lv, .agg #[h]] W fun e W' => ∃ lv' qs, e = .returned lv' ∧ PFd W' base lv' (ps ++ qs) ∧ qs.map (·.1) = v.keys.map (fun x => ⟨6, true, 0, bsI x⟩) ∧ Below base W W' := by
  have hone := hr.one
  have hown := hp.own
  have CK : Hid (∀ W', Below W.heap.size W W' → Calls Tryz.prog 44 #[.agg #[h]] W' fun e w' => ∃ a c, e = .returned (.slice a v.keys.length c) ∧ SRow w' (fun b => b < w'.heap.size ∧ (b < base ∨ W.heap.size ≤ b)) a v.keys ∧ SliceOk a v.keys.length c ∧ Below W'.heap.size W' w') := fun W' hW => by
    refine (vkeys_any (ok := fun b => b < base ∨ W.heap.size ≤ b) (fun b hb => Or.inr (by have := hW.size; omega)) ((hr.stays hW).mono (fun b h1 _ => Or.inl h1)) hn).mono ?_
    rintro e w' ⟨a, c, rfl, h1, h2, h3⟩
    exact ⟨a, c, rfl, h1.mono (fun b h4 h5 => ⟨h5, h4⟩), h2, h3⟩
  have hP : Hid (PFd W base lv ps) := hp
  clear hr hp
  go_enter Tryz.func88, Tryz.ntmps88
  go_wp2_with fail
  have hb0 : Below W.heap.size W (W.alloc (.cells #[h] 34)) := (Below.refl _ _).alloc (Nat.le_refl _) _
  refine (CK.out _ hb0).mono ?_
  rintro e w1 ⟨a, c, rfl, hk, hko, hb1⟩
  have hB1 := hb0.trans (hb1.mono hb0.size)
  have hP1 := hP.out.below hB1
  have hz1 := hB1.size
  clear CK hP hb0 hb1
  obtain ⟨OK, hOK⟩ : ∃ OK : Nat → Prop, OK = fun b => b < w1.heap.size ∧ (b < base ∨ W.heap.size ≤ b) := ⟨_, rfl⟩
  rw [← hOK] at hk
  have hOK2 : Hid (∀ b, OK b ↔ b < w1.heap.size ∧ (b < base ∨ W.heap.size ≤ b)) := fun b => by rw [hOK]
  have hnot : ∀ b, lv.ownBlock = some b → ¬ OK b := fun b hb hb2 => by
    have h1 := hown b hb
    have h2 := (hOK2.out b).1 hb2
    omega
  have hB : Below base W w1 := hB1.mono hX
  have H0 : Hid (PFd w1 base lv (ps ++ []) ∧ ([] : List (Fld × Option Addr × Nat)).map (·.1) = (v.keys.take 0).map (fun x => ⟨6, true, 0, bsI x⟩) ∧ (∀ b, lv.ownBlock = some b → ¬ OK b) ∧ SRow w1 OK a v.keys) := ⟨by simpa using hP1, rfl, hnot, hk⟩
  clear hOK hown hP1 hk hnot hB1
  go_wp2_with fail
  go_loopw [0, 10] (fun s0 s10 wr => ∃ (k : Nat) (u : Value) (qs : List (Fld × Option Addr × Nat)), k ≤ v.keys.length ∧ u = s0 ∧ s10 = .int .i64 k ∧ Hid (PFd wr base u (ps ++ qs) ∧ qs.map (·.1) = (v.keys.take k).map (fun x => ⟨6, true, 0, bsI x⟩) ∧ (∀ b, u.ownBlock = some b → ¬ OK b) ∧ SRow wr OK a v.keys) ∧ Below base W wr ∧ w1.heap.size ≤ wr.heap.size) (fun _ s10 _ => v.keys.length - (intOf s10).toNat)
  case atStart => exact ⟨0, _, [], by omega, rfl, rfl, H0, hB, Nat.le_refl _⟩
  case round =>
    obtain ⟨k, u, qs, hkl, rfl, rfl, HR, hbr, hzr⟩ := hrel
    clear H0 hB
    by_cases h1 : k < v.keys.length
    · obtain ⟨b, off, rfl, -, hcc⟩ := HR.out.2.2.2.2 (by intro e; rw [e] at h1; simp at h1)
      have hc := hcc k h1
      have hsz := hs v.keys[k] (List.getElem_mem h1)
      have hkey : Hid (v.keys.take (k + 1) = v.keys.take k ++ [v.keys[k]]) := List.take_succ_eq_append_getElem h1
      clear hcc
      generalize v.keys[k] = key at *
      obtain ⟨cap, w2, hcv, hrow, hb2, hlt2, hc1, hc2⟩ := conv_sb wr key hsz
      go_wp2_with fail
      refine (blob_any 6 _ (bsI key) cap w2 hrow (by intro e; cases e) (by rw [bsI_len]; omega)).mono ?_
      rintro e w3 ⟨a3, c3, rfl, hr3, hn3, hl3, hm3, hf3, hb3⟩
      have hb23 := hb2.trans (hb3.mono hb2.size)
      have hB4 : Below wr.heap.size wr (w3.alloc (.cells #[.int .i64 6, .bool true, .int .u64 0, .slice a3 (bsI key).length c3] 149)) := hb23.alloc hb23.size _
      obtain ⟨hP, hq, hno, hsr⟩ := HR.out
      have hqs : qs.length = k := by
        have e := congrArg List.length hq
        simp at e; omega
      have hP4 := hP.below hB4
      have hoW := hP.own
      have hz3 := hb23.size
      obtain ⟨u5, w5, hrun, hP5, hg5, ha5⟩ := append_flds hP4 (by have := hbr.size; have := hB4.size; omega) [((⟨6, true, 0, bsI key⟩ : Fld), a3, c3)] (B := w3.heap.size) (by rw [pcells_arr]; exact heap_alloc_new _ _) (by intro p hp; simp at hp; subst hp; simp [Fld.ok])
        (by intro p hp; simp at hp; subst hp; exact ⟨hr3.below ((Below.refl _ _).alloc (Nat.le_refl _) _), hn3, hl3, hm3⟩)
        (by
          intro p hp hne x hx
          simp at hp; subst hp
          have h2 := hf3 x hx
          have h3 := hbr.size
          refine ⟨by omega, fun e => ?_⟩
          have h4 := (hoW x.block e.symm).2
          omega) (by simp; omega) 1 1 rfl 102
      have hB5 : Below base W w5 := (hbr.trans (hB4.mono (Nat.le_trans hX hbr.size))).grown hg5 (by have := hbr.size; have := hB4.size; omega) (fun b hb => (hP4.own b hb).1)
      have hno5 : ∀ b, u5.ownBlock = some b → ¬ OK b := fun b hb => by
        rcases ha5 with e | e
        · exact hno b (e ▸ hb)
        · rw [e] at hb
          intro h6
          have h7 := (hOK2.out b).1 h6
          injection hb with hb
          simp at hb
          omega
      have hsr5 : SRow w5 OK (some ⟨b, off, none⟩) v.keys := hsr.agree (fun b hb hlt => (hg5.block b (Nat.lt_of_lt_of_le hlt hB4.size) (fun e => hno b e.symm hb)).trans (hB4.block b hlt))
      have hz5 : w1.heap.size ≤ w5.heap.size := by have := hg5.size; have := hB4.size; omega
      have H5 : Hid (PFd w5 base u5 (ps ++ (qs ++ [((⟨6, true, 0, bsI key⟩ : Fld), a3, c3)])) ∧ (qs ++ [((⟨6, true, 0, bsI key⟩ : Fld), a3, c3)]).map (·.1) = (v.keys.take (k + 1)).map (fun x => ⟨6, true, 0, bsI x⟩) ∧ (∀ b, u5.ownBlock = some b → ¬ OK b) ∧ SRow w5 OK (some ⟨b, off, none⟩) v.keys) := by
        refine ⟨by rw [← List.append_assoc]; exact hP5, ?_, hno5, hsr5⟩
        rw [hkey.out, List.map_append, List.map_append, hq]
        simp
      clear hP hq hno hsr hP4 hoW hP5 hg5 ha5 hno5 hsr5 HR hkey hr3 hn3 hl3 hm3 hf3 hb3 hb23 hB4 hrow hb2 hc1 hc2 hcv hlt2 hz3 hc
      go_wp2_with (at_builtin; go_must (refine wpList_append_run rfl _ _ 102 rfl _ _ rfl rfl hrun ?_))
      go_roundw
      case measure => simp [intOf]; omega
      case rel => exact ⟨k + 1, u5, _, by omega, rfl, by simp, H5, hB5, hz5⟩
    · obtain rfl : k = v.keys.length := by omega
      have H := HR.out
      rw [List.take_length] at H
      clear HR
      go_wp2_with fail
      go_ret
      exact ⟨_, qs, rfl, H.1, H.2.1, hbr⟩
end Go.Proofs.YtepohbcpepkboaaGreat

namespace Go.Proofs.YtepohbcpepkboaaGreat
open Go.RowKit Go.Maps Go.WideMaps

/-- Of the blocks below base only the packer's has changed. -/
structure Bm (base P : Nat) (W W' : World) : Prop where
  os : W'.os = W.os
  tape : W'.tape = W.tape
  output : W'.output = W.output
  size : W.heap.size ≤ W'.heap.size
  block : ∀ k, k < base → k ≠ P → W'.heap[k]? = W.heap[k]?
set_option maxRecDepth 100000 in
theorem Bm.refl (base P : Nat) (W : World) : Bm base P W W := ⟨rfl, rfl, rfl, Nat.le_refl _, fun _ _ _ => rfl⟩
set_option maxRecDepth 100000 in
theorem Bm.trans {base P : Nat} {W W' W'' : World} (h : Bm base P W W') (h2 : Bm base P W' W'') : Bm base P W W'' :=
  ⟨h2.os.trans h.os, h2.tape.trans h.tape, h2.output.trans h.output, Nat.le_trans h.size h2.size, fun k h3 h4 => (h2.block k h3 h4).trans (h.block k h3 h4)⟩
set_option maxRecDepth 100000 in
theorem Bm.low {base base' P : Nat} {W W' : World} (h : Bm base P W W') (hb : base' ≤ base) : Bm base' P W W' := ⟨h.os, h.tape, h.output, h.size, fun k h1 h2 => h.block k (by omega) h2⟩
set_option maxRecDepth 100000 in
theorem Bm.below {base P : Nat} {W W' : World} (h : Below base W W') : Bm base P W W' := ⟨h.os, h.tape, h.output, h.size, fun k hk _ => h.block k hk⟩
set_option maxRecDepth 100000 in
theorem Bm.moved {base P : Nat} {W W' : World} (h : Pm P W W') (hX : base ≤ W.heap.size) : Bm base P W W' := ⟨h.os, h.tape, h.output, h.size, fun k hk hne => h.block k (by omega) (fun e => hne (by injection e))⟩
set_option maxRecDepth 100000 in
theorem Bm.pm {P : Nat} {W W' : World} (h : Bm W.heap.size P W W') : Pm P W W' := ⟨h.os, h.tape, h.output, h.size, fun k hk hne => h.block k hk (fun e => hne (by rw [e]))⟩
set_option maxRecDepth 100000 in
theorem Bm.grown {base P : Nat} {W W' : World} {row : Option Nat} (hg : W.grownBy W' row) (hX : base ≤ W.heap.size) (hr : ∀ k, row = some k → base ≤ k) : Bm base P W W' :=
  ⟨hg.os, hg.tape, hg.output, hg.size, fun k hk _ => hg.block k (by omega) (fun e => by have := hr k e.symm; omega)⟩
/-- The first error, if a value's message fails or not. -/
def errOf (e : Int) (x : Bool) : Int := if e = 0 ∧ x = true then 3 else e
set_option maxRecDepth 100000 in
theorem errOf_or (e : Int) (x y : Bool) : errOf (errOf e x) y = errOf e (x || y) := by
  unfold errOf
  by_cases he : e = 0 <;> cases x <;> cases y <;> simp [he]
set_option maxRecDepth 100000 in
theorem errOf_no (e : Int) : errOf e false = e := by simp [errOf]
set_option maxRecDepth 100000 in
theorem hide {p : Prop} (h : p) : Hid p := h
/-- What bytes answers of a value. -/
def BytesC (P : Nat) (x : V) : Prop := ∀ (W : World) (hx : Value) (e : Int), Rep W (fun b => b < W.heap.size ∧ b ≠ P) hx x → PB W P e →
  Calls Tryz.prog 26 #[.pointer (some ⟨P, 0, none⟩), .agg #[hx]] W fun ex W' => ∃ a c, ex = .returned (.slice a x.packB.length c) ∧ Row W' a x.packB ∧ (a = none → x.packB.length = 0 ∧ c = 0) ∧ x.packB.length ≤ c ∧ c ≤ maxLen ∧ (∀ ad, a = some ad → W.heap.size ≤ ad.block) ∧ PB W' P (errOf e x.packX) ∧ Pm P W W'
set_option maxRecDepth 100000 in
set_option maxHeartbeats 3200000 in
theorem pitems_any {W : World} {base P : Nat} {lv : Value} {ps : List (Fld × Option Addr × Nat)} {h : Value} {v : V} {e tag : Int} (HB : ∀ x ∈ v.l, BytesC P x) (hr : Rep W (fun b => b < base ∧ b ≠ P) h v) (hp : PFd W base lv ps) (hX : base ≤ W.heap.size) (hP : P < base) (hpb : PB W P e) (hn : v.l.length ≤ 1048576) (hps : ps.length ≤ 1048586) (ht : 0 ≤ tag ∧ tag ≤ 1000) :
    Calls Tryz.prog 87 #[.pointer (some ⟨P, 0, none⟩), lv, .int .i64 tag, .agg #[h]] W fun ex W' => ∃ lv' qs, ex = .returned lv' ∧ PFd W' base lv' (ps ++ qs) ∧ qs.map (·.1) = v.l.map (fun x => ⟨tag, true, 0, x.packB⟩) ∧ PB W' P (errOf e (v.l.any V.packX)) ∧ Bm base P W W' := by
  have hone := hr.one
  have hown := hp.own
  have CK : Hid (∀ W', Below W.heap.size W W' → Calls Tryz.prog 43 #[.agg #[h]] W' fun e w' => ∃ a c, e = .returned (.slice a v.l.length c) ∧ RRow w' (fun b => b < w'.heap.size ∧ (b < base ∨ W.heap.size ≤ b) ∧ b ≠ P) a v.l ∧ SliceOk a v.l.length c ∧ Below W'.heap.size W' w') := fun W' hW => by
    refine (items_any (ok := fun b => (b < base ∨ W.heap.size ≤ b) ∧ b ≠ P) (fun b hb => ⟨Or.inr (by have := hW.size; omega), by have := hW.size; omega⟩) ((hr.stays hW).mono (fun b h1 _ => ⟨Or.inl h1.1, h1.2⟩)) hn).mono ?_
    rintro e w' ⟨a, c, rfl, h1, h2, h3⟩
    exact ⟨a, c, rfl, h1.mono (fun b h4 h5 => ⟨h5, h4⟩), h2, h3⟩
  have H0 : Hid (PFd W base lv ps ∧ PB W P e) := ⟨hp, hpb⟩
  have HBH : Hid (∀ x ∈ v.l, BytesC P x) := HB
  clear hr hp hpb HB
  go_enter Tryz.func87, Tryz.ntmps87
  go_wp2_with fail
  have hb0 : Below W.heap.size W (W.alloc (.cells #[h] 34)) := (Below.refl _ _).alloc (Nat.le_refl _) _
  refine (CK.out _ hb0).mono ?_
  rintro ex w1 ⟨a, c, rfl, hk, hko, hb1⟩
  have hB1 := hb0.trans (hb1.mono hb0.size)
  have hz1 := hB1.size
  obtain ⟨OK, hOK⟩ : ∃ OK : Nat → Prop, OK = fun b => b < w1.heap.size ∧ (b < base ∨ W.heap.size ≤ b) ∧ b ≠ P := ⟨_, rfl⟩
  rw [← hOK] at hk
  have hOK2 : Hid (∀ b, OK b ↔ b < w1.heap.size ∧ (b < base ∨ W.heap.size ≤ b) ∧ b ≠ P) := fun b => by rw [hOK]
  have hnot : ∀ b, lv.ownBlock = some b → ¬ OK b := fun b hb hb2 => by
    have h1 := hown b hb
    have h2 := (hOK2.out b).1 hb2
    omega
  have hB : Bm base P W w1 := Bm.below (hB1.mono hX)
  have HS : Hid (PFd w1 base lv (ps ++ []) ∧ ([] : List (Fld × Option Addr × Nat)).map (·.1) = (v.l.take 0).map (fun x => ⟨tag, true, 0, x.packB⟩) ∧ (∀ b, lv.ownBlock = some b → ¬ OK b) ∧ RRow w1 OK a v.l ∧ PB w1 P (errOf e ((v.l.take 0).any V.packX))) := ⟨by simpa using H0.out.1.below hB1, rfl, hnot, hk, by rw [List.take_zero, List.any_nil, errOf_no]; exact H0.out.2.below hB1⟩
  clear hOK hown CK H0 hb0 hb1 hk hnot hB1
  go_wp2_with fail
  go_loopw [1, 14] (fun s1 s14 wr => ∃ (k : Nat) (u : Value) (qs : List (Fld × Option Addr × Nat)), k ≤ v.l.length ∧ u = s1 ∧ s14 = .int .i64 k ∧ Hid (PFd wr base u (ps ++ qs) ∧ qs.map (·.1) = (v.l.take k).map (fun x => ⟨tag, true, 0, x.packB⟩) ∧ (∀ b, u.ownBlock = some b → ¬ OK b) ∧ RRow wr OK a v.l ∧ PB wr P (errOf e ((v.l.take k).any V.packX))) ∧ Bm base P W wr ∧ w1.heap.size ≤ wr.heap.size) (fun _ s14 _ => v.l.length - (intOf s14).toNat)
  case atStart => exact ⟨0, _, [], by omega, rfl, rfl, HS, hB, Nat.le_refl _⟩
  case round =>
    obtain ⟨k, u, qs, hkl, rfl, rfl, HR, hbr, hzr⟩ := hrel
    clear HS hB
    by_cases h1 : k < v.l.length
    · obtain ⟨H, hr1, hr2⟩ := HR.out.2.2.2.1
      obtain ⟨b, off, rfl, -, hcc⟩ := hr1 (by omega)
      have hc := hcc k h1
      have hrx := hr2 k h1
      have hox := hrx.one
      have hst := store_new 34 (H k) .nilIface hox wr
      have hBA : Below wr.heap.size wr (wr.alloc (.cells #[H k] 34)) := (Below.refl _ _).alloc (Nat.le_refl _) _
      have hcA := cell_of_row _ _ 0 _ _ _ (heap_alloc_new wr (.cells #[H k] 34))
      have CB := HBH.out v.l[k] (List.getElem_mem h1) (wr.alloc (.cells #[H k] 34)) (H k) _ ((hrx.stays hBA).mono (fun b h2 h3 => ⟨h3, ((hOK2.out b).1 h2).2.2⟩)) (HR.out.2.2.2.2.below hBA)
      have hkey : Hid (v.l.take (k + 1) = v.l.take k ++ [v.l[k]]) := List.take_succ_eq_append_getElem h1
      clear hcc hr1 hr2
      generalize v.l[k] = x at *
      generalize H k = hx at *
      have CBH := hide CB
      clear CB
      go_wp2_with fail
      refine CBH.out.mono ?_
      rintro ex wB ⟨a2, c2, rfl, hrB, hnB, hlB, hmB, hfB, hpB, hPm⟩
      have hle := packB_len x
      clear CBH hst hcA hc hox
      go_wp2_with fail
      refine (blob_any tag a2 x.packB c2 wB hrB hnB (by omega)).mono ?_
      rintro ex w3 ⟨a3, c3, rfl, hr3, hn3, hl3, hm3, hf3, hb3⟩
      have hB4 : Below wB.heap.size wB (w3.alloc (.cells #[.int .i64 tag, .bool true, .int .u64 0, .slice a3 x.packB.length c3] 149)) := hb3.alloc hb3.size _
      obtain ⟨hP1, hq, hno, hsr, -⟩ := HR.out
      have hqs : qs.length = k := by
        have e := congrArg List.length hq
        simp at e; omega
      have hPA := hP1.below hBA
      have hoA := hPA.own
      have hPB := hPA.moved hP hPm
      have hP4 := hPB.below hB4
      have hzA := hBA.size
      have hzB := hPm.size
      have hz3 := hb3.size
      have hzW := hbr.size
      obtain ⟨u5, w5, hrun, hP5, hg5, ha5⟩ := append_flds hP4 (by have := hB4.size; omega) [((⟨tag, true, 0, x.packB⟩ : Fld), a3, c3)] (B := w3.heap.size) (by rw [pcells_arr]; exact heap_alloc_new _ _) (by intro p hp; simp at hp; subst hp; simp [Fld.ok]; omega)
        (by intro p hp; simp at hp; subst hp; exact ⟨hr3.below ((Below.refl _ _).alloc (Nat.le_refl _) _), hn3, hl3, hm3⟩)
        (by
          intro p hp hne y hy
          simp at hp; subst hp
          have h2 := hf3 y hy
          refine ⟨by omega, fun e => ?_⟩
          have h4 := (hoA y.block e.symm).2
          omega) (by simp; omega) 1 1 rfl 102
      have hB5 : Bm base P W w5 := (((hbr.trans (Bm.below (hBA.mono (Nat.le_trans hX hzW)))).trans (Bm.moved hPm (by omega))).trans (Bm.below (hB4.mono (by omega)))).trans (Bm.grown hg5 (by have := hB4.size; omega) (fun b hb => (hP4.own b hb).1))
      have hno5 : ∀ b, u5.ownBlock = some b → ¬ OK b := fun b hb => by
        rcases ha5 with e | e
        · exact hno b (e ▸ hb)
        · rw [e] at hb
          intro h6
          have h7 := (hOK2.out b).1 h6
          injection hb with hb
          simp at hb
          omega
      have hsA := hsr.below hBA
      have hsB := hsA.agree (fun b hb hlt => hPm.agree b ((hOK2.out b).1 hb).2.2 hlt)
      have hs4 := hsB.below hB4
      have hsr5 := hs4.agree (fun b hb hlt => hg5.block b hlt (fun e => hno b e.symm hb))
      have hz5 : w1.heap.size ≤ w5.heap.size := by have := hg5.size; have := hB4.size; omega
      have hp4 := hpB.below hB4
      have hp5 : PB w5 P _ := (hg5.block P hp4.lt (fun e => by have := (hP4.own P e.symm).1; omega)).trans hp4
      have H5 : Hid (PFd w5 base u5 (ps ++ (qs ++ [((⟨tag, true, 0, x.packB⟩ : Fld), a3, c3)])) ∧ (qs ++ [((⟨tag, true, 0, x.packB⟩ : Fld), a3, c3)]).map (·.1) = (v.l.take (k + 1)).map (fun x => ⟨tag, true, 0, x.packB⟩) ∧ (∀ b, u5.ownBlock = some b → ¬ OK b) ∧ RRow w5 OK (some ⟨b, off, none⟩) v.l ∧ PB w5 P (errOf e ((v.l.take (k + 1)).any V.packX))) := by
        refine ⟨by rw [← List.append_assoc]; exact hP5, ?_, hno5, hsr5, ?_⟩
        · rw [hkey.out, List.map_append, List.map_append, hq]
          simp
        · rw [hkey.out, List.any_append, ← errOf_or]
          simpa using hp5
      clear hP1 hq hno hsr hP4 hoA hPA hPB hP5 hg5 ha5 hno5 hsr5 hs4 hsB hsA HR hkey hr3 hn3 hl3 hm3 hf3 hb3 hB4 hrB hnB hlB hmB hfB hpB hPm hp4 hp5 hBA hrx hzA hzB hz3 hzW hle
      go_wp2_with (at_builtin; go_must (refine wpList_append_run rfl _ _ 102 rfl _ _ rfl rfl hrun ?_))
      go_roundw
      case measure => simp [intOf]; omega
      case rel => exact ⟨k + 1, u5, _, by omega, rfl, by simp, H5, hB5, hz5⟩
    · obtain rfl : k = v.l.length := by omega
      have H := HR.out
      rw [List.take_length] at H
      clear HR HBH
      go_wp2_with fail
      go_ret
      exact ⟨_, qs, rfl, H.1, H.2.1, H.2.2.2.2, hbr⟩
end Go.Proofs.YtepohbcpepkboaaGreat

