/- A slice of fields that a call makes, field by field: what it owns, and what it is to a reader. No conditions; no function of the program. -/
import Derived.Test.YtepohbcpepkboaaGreatMsgE
import Derived.Test.YtepohbcpepkboaaGreatFld
import Derived.Maps.AppendAt
namespace Go.Proofs.YtepohbcpepkboaaGreat
open Go.RowKit

set_option maxRecDepth 100000 in
theorem zero_shown (w : World) : zeroF.shown w none 0 := ⟨Row.nil _ _, fun _ => ⟨rfl, rfl⟩, Nat.le_refl _, by simp [maxLen]⟩

set_option maxHeartbeats 3200000 in
set_option maxRecDepth 100000 in
theorem readField_any (a : Option Addr) (zs : List Int) (cap : Nat) (w : World) (hr : Row w a zs) (hnil : a = none → zs.length = 0 ∧ cap = 0) (hlc : zs.length ≤ cap) (hlen : zs.length ≤ 35184372088832) :
    Calls Tryz.prog 95 #[.slice a zs.length cap] w fun e w' => ∃ fa fc, e = .returned (.tuple #[(rf zs).1.val fa fc, .int .i64 (rf zs).2.1, .int .i64 (rf zs).2.2]) ∧ (rf zs).1.shown w' fa fc ∧ (∀ x, fa = some x → w.heap.size ≤ x.block) ∧ Below w.heap.size w w' := by
  by_cases h0 : (rd zs).2.2 = 0
  · obtain ⟨hk0, hk1, hkt, hks⟩ := rd_ok zs hr.byte h0
    have hl1 := enc_len (rd zs).1
    have hle1 : (enc (rd zs).1).length ≤ zs.length := by
      have := congrArg List.length hkt
      simp at this; omega
    obtain ⟨key, s1, hq⟩ : ∃ (key : Int) (s1 : Nat), rd zs = (key, (s1 : Int), 0) := ⟨(rd zs).1, (enc (rd zs).1).length, by rw [← hks, ← h0]⟩
    have hs1 : (enc (rd zs).1).length = s1 := by rw [hq] at hks ⊢; simp only at hks ⊢; omega
    rw [hs1] at hl1 hle1
    rw [hq] at hk0 hk1
    simp only at hk0 hk1
    clear hks hkt hs1 h0
    have HQ : Hid (rd zs = (key, (s1 : Int), 0)) := hq
    have hrow1 := fun W (h : Row W a zs) => cutA_row (cap := cap) s1 (zs.length - s1) hlc W h
    have htk : (zs.drop s1).take (zs.length - s1) = zs.drop s1 := List.take_of_length_le (by simp)
    rw [htk] at hrow1
    have hsl := run_cut_l a zs.length cap s1 (s1 : Int) rfl hle1
    have CR : Hid (∀ W, Row W a zs → Calls Tryz.prog 108 #[.slice (cutA a cap s1) (zs.length - s1) (cap - s1)] W fun e w' => e = .returned (.tuple #[.int .u64 (rd (zs.drop s1)).1, .int .i64 (rd (zs.drop s1)).2.1, .int .i64 (rd (zs.drop s1)).2.2]) ∧ W = w') := fun W h => by
      have := read_any (cutA a cap s1) (zs.drop s1) (cap - s1) W (hrow1 W h) (by simp; omega)
      rw [List.length_drop] at this; exact this
    clear hrow1 htk hq
    by_cases h2 : (rd (zs.drop s1)).2.2 = 0
    · obtain ⟨hm0, hm1, hmt, hms⟩ := rd_ok (zs.drop s1) (fun c hc => hr.byte c (List.mem_of_mem_drop hc)) h2
      have hl2 := enc_len (rd (zs.drop s1)).1
      have hle2 : (enc (rd (zs.drop s1)).1).length ≤ zs.length - s1 := by
        have := congrArg List.length hmt
        simp at this; omega
      obtain ⟨m, s2, hq2⟩ : ∃ (m : Int) (s2 : Nat), rd (zs.drop s1) = (m, (s2 : Int), 0) := ⟨(rd (zs.drop s1)).1, (enc (rd (zs.drop s1)).1).length, by rw [← hms, ← h2]⟩
      have hs2 : (enc (rd (zs.drop s1)).1).length = s2 := by rw [hq2] at hms ⊢; simp only at hms ⊢; omega
      rw [hs2] at hl2 hle2
      rw [hq2] at hm0 hm1
      simp only at hm0 hm1
      have hrf : rf zs = if key % 2 = 0 then (⟨key / 2, false, m, []⟩, (s1 : Int) + s2, 0) else if (zs.length : Int) - ((s1 : Int) + s2) < m then (zeroF, 0, 5) else (⟨key / 2, true, 0, (zs.drop (s1 + s2)).take m.toNat⟩, (s1 : Int) + s2 + m, 0) := by
        have e : ((s1 : Int) + (s2 : Int)).toNat = s1 + s2 := by omega
        simp [rf, HQ.out, hq2, e]
      have E : Hid (rf zs = if key % 2 = 0 then (⟨key / 2, false, m, []⟩, (s1 : Int) + s2, 0) else if (zs.length : Int) - ((s1 : Int) + s2) < m then (zeroF, 0, 5) else (⟨key / 2, true, 0, (zs.drop (s1 + s2)).take m.toNat⟩, (s1 : Int) + s2 + m, 0)) := hrf
      rw [hq2] at CR
      clear hms hmt hs2 h2 hrf hq2
      by_cases hev : key % 2 = 0
      · have E2 : Hid (rf zs = (⟨key / 2, false, m, []⟩, (s1 : Int) + s2, 0)) := by show rf zs = _; rw [E.out, if_pos hev]
        clear E
        go_enter Tryz.func95, Tryz.ntmps95
        go_wp2_with fail
        refine (read_any a zs cap _ (hr.alloc _) (by omega)).mono ?_
        rintro e w1 ⟨rfl, rfl⟩
        rw [HQ.out]
        go_wp2_with fail
        refine (CR.out _ (hr.alloc _)).mono ?_
        rintro e w1 ⟨rfl, rfl⟩
        go_wp2_with fail
        refine (num_any _ _ _).mono ?_
        rintro e w2 ⟨rfl, hb2⟩
        obtain ⟨hc2, hf2⟩ := bcell hb2
        have hB2 : Below w.heap.size w w2 := ((Below.refl _ _).alloc (Nat.le_refl _) _).trans (hb2.mono (by simp))
        have hz2 : w.heap.size < w2.heap.size := by have := hb2.size; simp at this; omega
        go_wp2
        refine bodyPost_ret (v := .tuple #[.agg #[.int .i64 (key / 2), .bool false, .int .u64 m, .slice none 0 0], .int .i64 ((s1 : Int) + s2), .int .i64 0]) (by simp [results, Tryz.results95, go_sem, hc2]) rfl ⟨none, 0, by rw [E2.out]; rfl, ?_, by simp, (((hB2.setCell (Nat.le_refl _) _).setCell (Nat.le_refl _) _).setCell (Nat.le_refl _) _).setCell (Nat.le_refl _) _⟩
        rw [E2.out]
        exact ⟨Row.nil _ _, fun _ => ⟨rfl, rfl⟩, Nat.le_refl _, by simp [maxLen]⟩
      · have hev' : (key % 2 == 0) = false := by simpa using hev
        by_cases hbig : (zs.length : Int) - ((s1 : Int) + s2) < m
        · have E2 : Hid (rf zs = (zeroF, 0, 5)) := by show rf zs = _; rw [E.out, if_neg hev, if_pos hbig]
          clear E hev
          go_enter Tryz.func95, Tryz.ntmps95
          go_wp2_with fail
          refine (read_any a zs cap _ (hr.alloc _) (by omega)).mono ?_
          rintro e w1 ⟨rfl, rfl⟩
          rw [HQ.out]
          go_wp2_with fail
          refine (CR.out _ (hr.alloc _)).mono ?_
          rintro e w1 ⟨rfl, rfl⟩
          go_wp2
          refine bodyPost_ret (v := .tuple #[.agg #[.int .i64 0, .bool false, .int .u64 0, .slice none 0 0], .int .i64 0, .int .i64 5]) (by simp [results, Tryz.results95, go_sem]) rfl ⟨none, 0, by rw [E2.out]; rfl, by rw [E2.out]; exact zero_shown _, by simp, (Below.refl _ _).alloc (Nat.le_refl _) _⟩
        · obtain ⟨mm, rfl⟩ := Int.eq_ofNat_of_zero_le hm0
          have E2 : Hid (rf zs = (⟨key / 2, true, 0, (zs.drop (s1 + s2)).take mm⟩, (s1 : Int) + s2 + mm, 0)) := by show rf zs = _; rw [E.out, if_neg hev, if_neg hbig]; rfl
          clear E hev
          have hend : s1 + s2 + mm ≤ zs.length := by omega
          have hsl2 := run_cut_lh a zs.length cap (s1 + s2) (s1 + s2 + mm) ((s1 : Int) + s2) ((s1 : Int) + s2 + mm) (by omega) (by omega) (by omega) (by omega)
          have hd1 : s1 + s2 + mm - (s1 + s2) = mm := by omega
          rw [hd1] at hsl2
          have hlm : ((zs.drop (s1 + s2)).take mm).length = mm := by simp; omega
          have CB : Hid (∀ W, Row W a zs → Calls Tryz.prog 86 #[.int .i64 (key / 2), .slice (cutA a cap (s1 + s2)) mm (cap - (s1 + s2))] W fun e w' => ∃ a' cap', e = .returned (.agg #[.int .i64 (key / 2), .bool true, .int .u64 0, .slice a' mm cap']) ∧ Row w' a' ((zs.drop (s1 + s2)).take mm) ∧ (a' = none → mm = 0 ∧ cap' = 0) ∧ mm ≤ cap' ∧ cap' ≤ maxLen ∧ (∀ x, a' = some x → W.heap.size ≤ x.block) ∧ Below W.heap.size W w') := fun W h => by
            have := blob_any (key / 2) (cutA a cap (s1 + s2)) ((zs.drop (s1 + s2)).take mm) (cap - (s1 + s2)) W (cutA_row (s1 + s2) mm hlc W h) (fun hn => by have := cutA_nil (s1 + s2) hnil hn; simp; omega) (by omega)
            rw [hlm] at this; exact this
          have HLM : Hid (((zs.drop (s1 + s2)).take mm).length = mm) := hlm
          clear hlm hd1
          go_enter Tryz.func95, Tryz.ntmps95
          go_wp2_with fail
          refine (read_any a zs cap _ (hr.alloc _) (by omega)).mono ?_
          rintro e w1 ⟨rfl, rfl⟩
          rw [HQ.out]
          go_wp2_with fail
          refine (CR.out _ (hr.alloc _)).mono ?_
          rintro e w1 ⟨rfl, rfl⟩
          have hbig' : (mm : Int) ≤ (zs.length : Int) - ((s1 : Int) + s2) := by omega
          clear hbig hend hm0 hm1
          have hmb : (mm : Int) ≤ 35184372088832 := by omega
          go_wp2_with fail
          refine (CB.out _ (hr.alloc _)).mono ?_
          rintro e w2 ⟨fa, fc, rfl, hfr, hfn, hfl, hfm, hfb, hb2⟩
          obtain ⟨hc2, hf2⟩ := bcell hb2
          have hB2 : Below w.heap.size w w2 := ((Below.refl _ _).alloc (Nat.le_refl _) _).trans (hb2.mono (by simp))
          have hz2 : w.heap.size < w2.heap.size := by have := hb2.size; simp at this; omega
          have hne : ∀ x, fa = some x → x.block ≠ w.heap.size := fun x hx => by have := hfb x hx; simp at this; omega
          go_wp2
          refine bodyPost_ret (v := .tuple #[.agg #[.int .i64 (key / 2), .bool true, .int .u64 0, .slice fa mm fc], .int .i64 ((s1 : Int) + s2 + mm), .int .i64 0]) (by simp [results, Tryz.results95, go_sem, hc2]) rfl ⟨fa, fc, by rw [E2.out, Fld.val, HLM.out], ?_, fun x hx => by have := hfb x hx; simp at this; omega, (((hB2.setCell (Nat.le_refl _) _).setCell (Nat.le_refl _) _).setCell (Nat.le_refl _) _).setCell (Nat.le_refl _) _⟩
          rw [E2.out]
          refine ⟨(((hfr.setCell _ _ hne).setCell _ _ hne).setCell _ _ hne).setCell _ _ hne, ?_, ?_, hfm⟩
          · intro h; have := hfn h; simp only [HLM.out]; exact this
          · simp only [HLM.out]; exact hfl
    · have hrf : rf zs = (zeroF, 0, (rd (zs.drop s1)).2.2) := by simp [rf, HQ.out, h2]
      have E : Hid (rf zs = (zeroF, 0, (rd (zs.drop s1)).2.2)) := hrf
      have hne : ((rd (zs.drop s1)).2.2 != 0) = true := by simpa using h2
      clear hrf h2
      generalize rd (zs.drop s1) = q2 at *
      obtain ⟨m, s2, e2⟩ := q2
      simp only at hne
      go_enter Tryz.func95, Tryz.ntmps95
      go_wp2_with fail
      refine (read_any a zs cap _ (hr.alloc _) (by omega)).mono ?_
      rintro e w1 ⟨rfl, rfl⟩
      rw [HQ.out]
      go_wp2_with fail
      refine (CR.out _ (hr.alloc _)).mono ?_
      rintro e w1 ⟨rfl, rfl⟩
      go_wp2
      refine bodyPost_ret (v := .tuple #[.agg #[.int .i64 0, .bool false, .int .u64 0, .slice none 0 0], .int .i64 0, .int .i64 e2]) (by simp [results, Tryz.results95, go_sem]) rfl ⟨none, 0, by rw [E.out]; rfl, by rw [E.out]; exact zero_shown _, by simp, (Below.refl _ _).alloc (Nat.le_refl _) _⟩
  · have hrf : rf zs = (zeroF, 0, (rd zs).2.2) := by simp [rf, h0]
    have E : Hid (rf zs = (zeroF, 0, (rd zs).2.2)) := hrf
    have hne : ((rd zs).2.2 != 0) = true := by simpa using h0
    clear hrf h0
    have CR : Hid (∀ W, Row W a zs → Calls Tryz.prog 108 #[.slice a zs.length cap] W fun e w' => e = .returned (.tuple #[.int .u64 (rd zs).1, .int .i64 (rd zs).2.1, .int .i64 (rd zs).2.2]) ∧ W = w') := fun W h => read_any a zs cap W h (by omega)
    generalize rd zs = q2 at *
    obtain ⟨m, s2, e2⟩ := q2
    simp only at hne
    go_enter Tryz.func95, Tryz.ntmps95
    go_wp2_with fail
    refine (CR.out _ (hr.alloc _)).mono ?_
    rintro e w1 ⟨rfl, rfl⟩
    go_wp2
    refine bodyPost_ret (v := .tuple #[.agg #[.int .i64 0, .bool false, .int .u64 0, .slice none 0 0], .int .i64 0, .int .i64 e2]) (by simp [results, Tryz.results95, go_sem]) rfl ⟨none, 0, by rw [E.out]; rfl, by rw [E.out]; exact zero_shown _, by simp, (Below.refl _ _).alloc (Nat.le_refl _) _⟩
end Go.Proofs.YtepohbcpepkboaaGreat

namespace Go.Proofs.YtepohbcpepkboaaGreat
open Go.RowKit

set_option maxRecDepth 100000 in
theorem Row.grown {w w' : World} {a : Option Addr} {zs : List Int} {row : Option Nat} (h : Row w a zs) (hne : zs ≠ [] → ∀ x, a = some x → some x.block ≠ row) (hg : w.grownBy w' row) : Row w' a zs := by
  refine ⟨h.1, fun hz => ?_⟩
  obtain ⟨b, off, rfl, hc⟩ := h.2 hz
  exact ⟨b, off, rfl, fun j hj => hg.cell (hc j hj) (hne hz ⟨b, off, none⟩ rfl)⟩

def bc (p : List Int × Option Addr × Nat) : Value := .slice p.2.1 p.1.length p.2.2
/-- A slice of bytes that a call makes, each bytes in memory. -/
structure BOwn (w : World) (base : Nat) (v : Value) (ps : List (List Int × Option Addr × Nat)) : Prop where
  own : w.ownsRow base 29 1 v ps.length (ps.map bc)
  sh : ∀ p ∈ ps, Row w p.2.1 p.1
  ap : ∀ p ∈ ps, p.1 ≠ [] → ∀ x, p.2.1 = some x → some x.block ≠ v.ownBlock
set_option maxRecDepth 100000 in
theorem BOwn.nil (w : World) (base : Nat) : BOwn w base (.slice none 0 0) [] := ⟨World.ownsRow_nil _ _ _ _, by simp, by simp⟩
set_option maxRecDepth 100000 in
theorem BOwn.below {w w' : World} {base : Nat} {v : Value} {ps : List (List Int × Option Addr × Nat)} (h : BOwn w base v ps) (hb : Below w.heap.size w w') : BOwn w' base v ps :=
  ⟨h.own.kept (row := none) ⟨hb.os, hb.tape, hb.output, hb.size, fun k hk _ => hb.block k hk⟩ (by cases hv : v.ownBlock with | none => exact Or.inl rfl | some k => exact Or.inr (by simp)), fun p hp => (h.sh p hp).below hb, h.ap⟩
set_option maxRecDepth 100000 in
theorem BOwn.append {w w' : World} {base : Nat} {v v' : Value} {ps : List (List Int × Option Addr × Nat)} {p : List Int × Option Addr × Nat} (h : BOwn w base v ps)
    (hown : w'.ownsRow base 29 1 v' (ps.length + 1) (ps.map bc ++ [bc p])) (hg : w.grownBy w' v.ownBlock) (hat : v'.ownBlock = v.ownBlock ∨ v'.ownBlock = some w.heap.size)
    (hsh : Row w p.2.1 p.1) (hap : p.1 ≠ [] → ∀ x, p.2.1 = some x → some x.block ≠ v.ownBlock) : BOwn w' base v' (ps ++ [p]) := by
  have hap' : ∀ q : List Int × Option Addr × Nat, Row w q.2.1 q.1 → (q.1 ≠ [] → ∀ x, q.2.1 = some x → some x.block ≠ v.ownBlock) → q.1 ≠ [] → ∀ x, q.2.1 = some x → some x.block ≠ v'.ownBlock := fun q hs ha hne x hx => by
    rcases hat with e | e
    · rw [e]; exact ha hne x hx
    · rw [e]
      obtain ⟨b, off, hx1, -⟩ := hs.2 hne
      rw [hx1] at hx hs
      obtain rfl := Option.some.inj hx
      have := Row.lt hs hne
      simp; omega
  refine ⟨by rw [List.length_append, List.map_append]; exact hown, ?_, ?_⟩
  · intro q hq
    rcases List.mem_append.1 hq with hq | hq
    · exact (h.sh q hq).grown (h.ap q hq) hg
    · simp at hq; subst hq; exact hsh.grown hap hg
  · intro q hq
    rcases List.mem_append.1 hq with hq | hq
    · exact hap' q (h.sh q hq) (h.ap q hq)
    · simp at hq; subst hq; exact hap' q hsh hap
/-- Bytes in memory, a row of them. -/
def BRow (w : World) (a : Option Addr) (bs : List (List Int)) : Prop := bs ≠ [] → ∃ b, a = some ⟨b, 0, none⟩ ∧ ∀ j (hj : j < bs.length), ∃ x c, w.cell? ⟨b, j, none⟩ = some (.slice x bs[j].length c) ∧ Row w x bs[j]
set_option maxRecDepth 100000 in
theorem BRow.below {w w' : World} {a : Option Addr} {bs : List (List Int)} (h : BRow w a bs) (hb : Below w.heap.size w w') : BRow w' a bs := fun hz => by
  obtain ⟨b, rfl, hc⟩ := h hz
  refine ⟨b, rfl, fun j hj => ?_⟩
  obtain ⟨x, c, h1, h2⟩ := hc j hj
  exact ⟨x, c, (hb.cell (p := ⟨b, j, none⟩) (World.block_lt_of_cell? w ⟨b, j, none⟩ h1)).trans h1, h2.below hb⟩
set_option maxRecDepth 100000 in
theorem BOwn.view {w : World} {base : Nat} {v : Value} {ps : List (List Int × Option Addr × Nat)} (h : BOwn w base v ps) : ∃ a cap, v = .slice a ps.length cap ∧ BRow w a (ps.map (·.1)) := by
  rcases h.own.2 with ⟨hv, h0⟩ | ⟨g, cap, cur, hv, -⟩
  · have hz : ps = [] := List.eq_nil_of_length_eq_zero h0
    subst hz
    exact ⟨none, 0, hv, fun hz => absurd rfl hz⟩
  · have ho := h.own
    subst hv
    refine ⟨some ⟨g, 0, none⟩, cap, rfl, fun _ => ⟨g, rfl, fun j hj => ?_⟩⟩
    have hj' : j < ps.length := by simpa using hj
    have hc := ho.cellAt j (by omega)
    rw [List.getElem?_map, List.getElem?_eq_getElem hj'] at hc
    rw [List.getElem_map]
    exact ⟨_, _, hc, h.sh ps[j] (List.getElem_mem hj')⟩
set_option maxRecDepth 100000 in
theorem infoB : (Tryz.prog.info? 29).map (fun i => (i.zero, i.size, i.bytes)) = some (some (.slice none 0 0), 1, 24) := by kernel_rfl

end Go.Proofs.YtepohbcpepkboaaGreat

namespace Go.Proofs.YtepohbcpepkboaaGreat
open Go.RowKit

/-- A field, and where its bytes lie. -/
def pcells (p : Fld × Option Addr × Nat) : List Value := [.int .i64 p.1.tag, .bool p.1.isB, .int .u64 p.1.n, .slice p.2.1 p.1.b.length p.2.2]
def cellsP (ps : List (Fld × Option Addr × Nat)) : List Value := (ps.map pcells).flatten
set_option maxRecDepth 100000 in
theorem cellsP_snoc (ps : List (Fld × Option Addr × Nat)) (p : Fld × Option Addr × Nat) : cellsP (ps ++ [p]) = cellsP ps ++ pcells p := by simp [cellsP]
set_option maxRecDepth 100000 in
theorem cellsP_get : ∀ (ps : List (Fld × Option Addr × Nat)) (j : Nat) (hj : j < ps.length) (i : Nat), i < 4 → (cellsP ps)[j * 4 + i]? = (pcells ps[j])[i]?
  | [], j, hj, _, _ => by simp at hj
  | p :: ps, 0, hj, i, hi => by
    have e : cellsP (p :: ps) = pcells p ++ cellsP ps := by simp [cellsP]
    rw [e, Nat.zero_mul, Nat.zero_add, List.getElem?_append_left (by simpa [pcells] using hi)]; rfl
  | p :: ps, j + 1, hj, i, hi => by
    have e : cellsP (p :: ps) = pcells p ++ cellsP ps := by simp [cellsP]
    have hl : (pcells p).length = 4 := rfl
    rw [e, List.getElem?_append_right (by omega), hl, show (j + 1) * 4 + i - 4 = j * 4 + i by omega]
    exact cellsP_get ps j (by simpa using hj) i hi

structure FOwn (T : TypeId) (w : World) (base : Nat) (v : Value) (ps : List (Fld × Option Addr × Nat)) : Prop where
  own : w.ownsRow base T 4 v ps.length (cellsP ps)
  ok : ∀ p ∈ ps, p.1.ok
  sh : ∀ p ∈ ps, p.1.shown w p.2.1 p.2.2
  ap : ∀ p ∈ ps, p.1.b ≠ [] → ∀ x, p.2.1 = some x → some x.block ≠ v.ownBlock

set_option maxRecDepth 100000 in
theorem FOwn.nil (T : TypeId) (w : World) (base : Nat) : FOwn T w base (.slice none 0 0) [] := ⟨World.ownsRow_nil _ _ _ _, by simp, by simp, by simp⟩
set_option maxRecDepth 100000 in
theorem FOwn.below {T : TypeId} {w w' : World} {base : Nat} {v : Value} {ps : List (Fld × Option Addr × Nat)} (h : FOwn T w base v ps) (hb : Below w.heap.size w w') : FOwn T w' base v ps :=
  ⟨h.own.kept (row := none) ⟨hb.os, hb.tape, hb.output, hb.size, fun k hk _ => hb.block k hk⟩ (by cases hv : v.ownBlock with | none => exact Or.inl rfl | some k => exact Or.inr (by simp)), h.ok, fun p hp => (h.sh p hp).below hb, h.ap⟩
set_option maxRecDepth 100000 in
theorem FOwn.append {T : TypeId} {w w' : World} {base : Nat} {v v' : Value} {ps : List (Fld × Option Addr × Nat)} {p : Fld × Option Addr × Nat} (h : FOwn T w base v ps)
    (hown : w'.ownsRow base T 4 v' (ps.length + 1) (cellsP ps ++ pcells p)) (hg : w.grownBy w' v.ownBlock) (hat : v'.ownBlock = v.ownBlock ∨ v'.ownBlock = some w.heap.size)
    (hok : p.1.ok) (hsh : p.1.shown w p.2.1 p.2.2) (hap : p.1.b ≠ [] → ∀ x, p.2.1 = some x → some x.block ≠ v.ownBlock) : FOwn T w' base v' (ps ++ [p]) := by
  have hsh' : ∀ q : Fld × Option Addr × Nat, q.1.shown w q.2.1 q.2.2 → (q.1.b ≠ [] → ∀ x, q.2.1 = some x → some x.block ≠ v.ownBlock) → q.1.shown w' q.2.1 q.2.2 := fun q hs ha => ⟨hs.1.grown ha hg, hs.2⟩
  have hap' : ∀ q : Fld × Option Addr × Nat, q.1.shown w q.2.1 q.2.2 → (q.1.b ≠ [] → ∀ x, q.2.1 = some x → some x.block ≠ v.ownBlock) → q.1.b ≠ [] → ∀ x, q.2.1 = some x → some x.block ≠ v'.ownBlock := fun q hs ha hne x hx => by
    rcases hat with e | e
    · rw [e]; exact ha hne x hx
    · rw [e]
      obtain ⟨b, off, hx1, -⟩ := hs.1.2 hne
      have hr := hs.1
      rw [hx1] at hx hr
      obtain rfl := Option.some.inj hx
      have := Row.lt hr hne
      simp; omega
  refine ⟨by rw [List.length_append, cellsP_snoc]; exact hown, ?_, ?_, ?_⟩
  · intro q hq
    rcases List.mem_append.1 hq with hq | hq
    · exact h.ok q hq
    · simp at hq; subst hq; exact hok
  · intro q hq
    rcases List.mem_append.1 hq with hq | hq
    · exact hsh' q (h.sh q hq) (h.ap q hq)
    · simp at hq; subst hq; exact hsh' q hsh hap
  · intro q hq
    rcases List.mem_append.1 hq with hq | hq
    · exact hap' q (h.sh q hq) (h.ap q hq)
    · simp at hq; subst hq; exact hap' q hsh hap
set_option maxRecDepth 100000 in
theorem own_fview {T : TypeId} {w : World} {base : Nat} {v : Value} {ps : List (Fld × Option Addr × Nat)} (hown : w.ownsRow base T 4 v ps.length (cellsP ps)) (hok0 : ∀ p ∈ ps, p.1.ok) (hsh0 : ∀ p ∈ ps, p.1.shown w p.2.1 p.2.2) :
    ∃ a cap, v = .slice a ps.length cap ∧ FRow w a (ps.map (·.1)) ∧ (a = none → ps.length = 0 ∧ cap = 0) ∧ ps.length ≤ cap ∧ cap ≤ maxLen := by
  have hok : ∀ f ∈ ps.map (·.1), f.ok := by
    intro f hf
    obtain ⟨p, hp, rfl⟩ := List.mem_map.1 hf
    exact hok0 p hp
  rcases hown.2 with ⟨hv, h0⟩ | ⟨g, cap, cur, hv, -, -, hc, hm, -⟩
  · have hz : ps = [] := List.eq_nil_of_length_eq_zero h0
    subst hz
    exact ⟨none, 0, hv, FRow.nil _ _, fun _ => ⟨rfl, rfl⟩, Nat.le_refl _, by simp [maxLen]⟩
  · subst hv
    refine ⟨some ⟨g, 0, none⟩, cap, rfl, ⟨hok, fun hz => ⟨g, 0, rfl, fun j hj => ?_⟩⟩, (fun e => by cases e), hc, hm⟩
    have hj' : j < ps.length := by simpa using hj
    have hcell : ∀ i, i < 4 → w.cell? ⟨g, 0 + j * 4 + i, none⟩ = (pcells ps[j])[i]? := fun i hi => by
      rw [Nat.zero_add, hown.cellAt (j * 4 + i) (by omega), cellsP_get ps j hj' i hi]
    have hsh := hsh0 ps[j] (List.getElem_mem hj')
    rw [List.getElem_map]
    exact ⟨_, _, hcell 0 (by omega), hcell 1 (by omega), hcell 2 (by omega), hcell 3 (by omega), hsh⟩
set_option maxRecDepth 100000 in
theorem FOwn.view {T : TypeId} {w : World} {base : Nat} {v : Value} {ps : List (Fld × Option Addr × Nat)} (h : FOwn T w base v ps) :
    ∃ a cap, v = .slice a ps.length cap ∧ FRow w a (ps.map (·.1)) ∧ (a = none → ps.length = 0 ∧ cap = 0) ∧ ps.length ≤ cap ∧ cap ≤ maxLen := own_fview h.own h.ok h.sh
set_option maxRecDepth 100000 in
/-- A row of fields of the call's own stays while no old block is written. -/
theorem fown_below {T : TypeId} {w w' : World} {base n : Nat} {v : Value} {xs : List Value} (h : w.ownsRow base T 4 v n xs) (hb : Below w.heap.size w w') : w'.ownsRow base T 4 v n xs :=
  h.kept (row := none) ⟨hb.os, hb.tape, hb.output, hb.size, fun k hk _ => hb.block k hk⟩ (by cases hv : v.ownBlock with | none => exact Or.inl rfl | some k => exact Or.inr (by simp))
set_option maxRecDepth 100000 in
theorem cellsP_append (ps qs : List (Fld × Option Addr × Nat)) : cellsP (ps ++ qs) = cellsP ps ++ cellsP qs := by simp [cellsP]
set_option maxRecDepth 100000 in
theorem cellsP_one (ps : List (Fld × Option Addr × Nat)) : ∀ u ∈ cellsP ps, u.oneCell' = true := by
  intro u hu
  obtain ⟨l, hl, hu⟩ := List.mem_flatten.1 hu
  obtain ⟨p, -, rfl⟩ := List.mem_map.1 hl
  simp only [pcells, List.mem_cons, List.not_mem_nil, or_false] at hu
  rcases hu with rfl | rfl | rfl | rfl <;> rfl
set_option maxRecDepth 100000 in
theorem cellsP_len : ∀ ps : List (Fld × Option Addr × Nat), (cellsP ps).length = ps.length * 4
  | [] => rfl
  | p :: ps => by
    have e : cellsP (p :: ps) = pcells p ++ cellsP ps := by simp [cellsP]
    have hl : (pcells p).length = 4 := rfl
    rw [e, List.length_append, hl, cellsP_len ps, List.length_cons]; omega
set_option maxRecDepth 100000 in
theorem pcells_one (p : Fld × Option Addr × Nat) : ∀ u ∈ pcells p, u.oneCell' = true := by
  intro u hu
  simp only [pcells, List.mem_cons, List.not_mem_nil, or_false] at hu
  rcases hu with rfl | rfl | rfl | rfl <;> rfl
set_option maxRecDepth 100000 in
/-- The cells of one field in a new block. -/
theorem pcells_new (w : World) (T : TypeId) (p : Fld × Option Addr × Nat) : ∀ j u, (pcells p)[j]? = some u → (w.alloc (.cells #[.int .i64 p.1.tag, .bool p.1.isB, .int .u64 p.1.n, .slice p.2.1 p.1.b.length p.2.2] T)).cell? ((⟨w.heap.size, 0, none⟩ : Addr).add j) = some u := by
  intro j u hj
  rw [Addr.add_lit, cell_of_row _ _ _ _ _ _ (heap_alloc_new w _), Nat.zero_add, ← hj]
  simp [pcells]
end Go.Proofs.YtepohbcpepkboaaGreat

