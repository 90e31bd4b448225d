/- mark.Leaks, mark.Clean: whether a secret stands in a text; the text without any. Conditions: the secrets lie in memory; they are not too many, nor too long. -/
import Derived.Test.YtgknefpefeghcaaMkH
import Derived.Test.YtgknefpefeghcaaBld
namespace Go.Proofs.Ytgknefpefeghcaa
open Go.RowKit

set_option maxRecDepth 100000 in
theorem finder_any {W : World} {a : Option Addr} {cap : Nat} {l : List ByteArray} (T : ByteArray) (h : StrsIn W a cap l) (hT : T.size ≤ 10000) (hl : l.length ≤ 1000) (hb90 : T.size * l.length ≤ 90000) :
    Calls Try.prog 26 #[.string T, .slice a l.length cap] W fun e w' => ∃ F, e = .returned (.pointer (some ⟨F, 0, none⟩)) ∧ FindIs w' W.heap.size F T l ∧ Below W.heap.size W w' := by
  cases a with
  | none =>
    obtain ⟨h0, rfl⟩ := h.hnil rfl
    have : l = [] := List.eq_nil_of_length_eq_zero h0
    subst this
    exact finder_nil T
  | some ad => exact finder_some T h hT hl hb90
set_option maxRecDepth 100000 in
theorem places_of {W : World} {base F : Nat} {T : ByteArray} {l : List ByteArray} (h : FindIs W base F T l) (hT : T.size ≤ 10000) :
    Calls Try.prog 27 #[.pointer (some ⟨F, 0, none⟩), .string T] W fun e w' => ∃ v, e = .returned v ∧ PIn w' v (plcF (sec l) (bsI T) 0) ∧ Below W.heap.size W w' := by
  obtain ⟨Mb, nv, N, M, h1, h2, h3, h4⟩ := h
  have := places_any h1 h2 h3 T hT
  rwa [plc_sec h4] at this
set_option maxRecDepth 100000 in
theorem leaks_any {W : World} {a : Option Addr} {cap : Nat} {l : List ByteArray} (T : ByteArray) (h : StrsIn W a cap l) (hT : T.size ≤ 10000) (hl : l.length ≤ 1000) (hb90 : T.size * l.length ≤ 90000) :
    Calls Try.prog 11 #[.string T, .slice a l.length cap] W fun e w' => e = .returned (.bool (leaksS (sec l) (bsI T))) ∧ Below W.heap.size W w' := by
  have hR : Hid (leaksS (sec l) (bsI T) = decide (0 < (plcF (sec l) (bsI T) 0).length)) := rfl
  have CF : Hid (Calls Try.prog 26 #[.string T, .slice a l.length cap] W fun e w' => ∃ F, e = .returned (.pointer (some ⟨F, 0, none⟩)) ∧ FindIs w' W.heap.size F T l ∧ Below W.heap.size W w') := finder_any T h hT hl hb90
  go_enter Try.func11, Try.ntmps11
  go_wp2_with fail
  refine CF.out.mono ?_
  rintro e w1 ⟨F, rfl, hf, hb1⟩
  go_wp2_with fail
  refine (places_of hf hT).mono ?_
  rintro e w2 ⟨v, rfl, ⟨p, c, rfl, -⟩, hb2⟩
  have hb := hb1.trans (hb2.mono hb1.size)
  clear hf hb1 hb2 CF h
  generalize (plcF (sec l) (bsI T) 0).length = n at *
  by_cases hn : 0 < n
  · have e : Hid (leaksS (sec l) (bsI T) = true) := by rw [hR.out]; exact decide_eq_true hn
    clear hR
    go_wp2_with fail
    go_ret
    rw [e.out]
    exact ⟨rfl, hb⟩
  · have e : Hid (leaksS (sec l) (bsI T) = false) := by rw [hR.out]; exact decide_eq_false hn
    have hn : n = 0 := by omega
    subst hn
    clear hR
    go_wp2_with fail
    go_ret
    rw [e.out]
    exact ⟨rfl, hb⟩
/-- Bytes that a builder holds. -/
def BHas (W : World) (base b : Nat) (o : List UInt8) : Prop := Lib.IsBuilder 57 5 base b (Lib.byteCells o) W
set_option maxRecDepth 100000 in
theorem BHas.below1 {W W' : World} {base b : Nat} {o : List UInt8} (h : BHas W base b o) (hb : Below W.heap.size W W') : BHas W' base b o := by
  have key : ∀ p, Lib.BuilderAt 57 5 base b p (Lib.byteCells o) W → Lib.BuilderAt 57 5 base b p (Lib.byteCells o) W' := by
    rintro p ⟨h1, v, h2, ⟨h0, h3⟩, h4⟩
    refine ⟨h1, v, (hb.block b (Array.getElem?_eq_some_iff.1 h2).1).trans h2, ⟨h0, ?_⟩, h4⟩
    rcases h3 with h3 | ⟨g, cap, cur, hv, hg, hh, h5⟩
    · exact Or.inl h3
    · exact Or.inr ⟨g, cap, cur, hv, hg, (hb.block g (Array.getElem?_eq_some_iff.1 hh).1).trans hh, h5⟩
  rcases h with h | h
  · exact Or.inl (key _ h)
  · exact Or.inr (key _ h)
set_option maxRecDepth 100000 in
theorem ws_has {W : World} {base b : Nat} {o : List UInt8} (h : BHas W base b o) (s : ByteArray) (hlen : o.length + s.size ≤ 1000000) (hB : base ≤ W.heap.size) :
    Calls Try.prog 28 #[.pointer (some ⟨b, 0, none⟩), .string s] W fun e w' => e = .returned (.tuple #[.int .i64 s.size, .nilIface]) ∧ BHas w' base b (o ++ s.data.toList) ∧ Below base W w' ∧ KeptB W w' b := by
  refine (ws_any h s (by rw [Lib.byteCells_length]; exact hlen) hB).mono ?_
  rintro e w' ⟨rfl, h2, h3, h4⟩
  refine ⟨rfl, Or.inr ?_, h3, h4⟩
  have e1 : Lib.byteCells (o ++ s.data.toList) = Lib.byteCells o ++ Lib.strCells s := by simp [Lib.byteCells, Lib.strCells]
  rw [e1]
  exact h2
set_option maxRecDepth 100000 in
theorem str_has {W : World} {base b : Nat} {o : List UInt8} (h : BHas W base b o) (hB : base ≤ W.heap.size) : Calls Try.prog 29 #[.pointer (some ⟨b, 0, none⟩)] W fun e w' => e = .returned (.string ⟨o.toArray⟩) ∧ Below base W w' := bld_String_any base b o W h hB
set_option maxRecDepth 100000 in
theorem plc_range (M : List (List Int)) : ∀ (t : List Int) (i : Nat), ∀ p ∈ plcF M t i, (i : Int) ≤ p.1 ∧ p.1 < p.2 ∧ p.2 ≤ (i : Int) + (t.length : Int)
  | [], i, p, h => by cases h
  | b :: r, i, p, h => by
    have ih := plc_range M r (i + 1)
    have hm := mx_len M (b :: r)
    unfold plcF at h
    split at h
    · rename_i h0
      rcases List.mem_cons.1 h with rfl | h
      · simp only [List.length_cons] at *
        omega
      · obtain ⟨h1, h2, h3⟩ := ih p h
        simp only [List.length_cons]
        omega
    · obtain ⟨h1, h2, h3⟩ := ih p h
      simp only [List.length_cons]
      omega
set_option maxRecDepth 100000 in
theorem fold_snoc (t : List Int) (l : List (Int × Int)) (x : List Int × Nat) (k : Nat) (hk : k < l.length) : foldC t (l.take (k + 1)) x = stepC t (foldC t (l.take k) x) l[k] := by
  unfold foldC
  rw [List.take_succ_eq_append_getElem hk, List.foldl_append]
  rfl
set_option maxRecDepth 100000 in
theorem PIn.below {W W' : World} {v : Value} {l : List (Int × Int)} (h : PIn W v l) (hb : Below W.heap.size W W') : PIn W' v l := by
  obtain ⟨p, c, rfl, h1⟩ := h
  refine ⟨p, c, rfl, fun hne => ?_⟩
  obtain ⟨g, rfl, ⟨cur, hg⟩, h2⟩ := h1 hne
  refine ⟨g, rfl, ⟨cur, (hb.block g (Array.getElem?_eq_some_iff.1 hg).1).trans hg⟩, fun j hj => ?_⟩
  obtain ⟨c0, c1⟩ := h2 j hj
  exact ⟨(hb.cell (p := ⟨g, j * 2, none⟩) (World.block_lt_of_cell? _ _ c0)).trans c0, (hb.cell (p := ⟨g, j * 2 + 1, none⟩) (World.block_lt_of_cell? _ _ c1)).trans c1⟩
set_option maxRecDepth 100000 in
theorem PIn.keptB {W W' : World} {v : Value} {l : List (Int × Int)} {b : Nat} (h : PIn W v l) (hk : KeptB W W' b) (hb : ∀ g cur, W.heap[g]? = some (.cells cur 63 (0, 0)) → g ≠ b) : PIn W' v l := by
  obtain ⟨p, c, rfl, h1⟩ := h
  refine ⟨p, c, rfl, fun hne => ?_⟩
  obtain ⟨g, rfl, ⟨cur, hg⟩, h2⟩ := h1 hne
  have hg2 := hk.2 g _ hg (hb g cur hg) (fun _ _ e => by injection e with _ e; exact absurd e (by decide))
  refine ⟨g, rfl, ⟨cur, hg2⟩, fun j hj => ?_⟩
  obtain ⟨c0, c1⟩ := h2 j hj
  have e := hg2.trans hg.symm
  exact ⟨(World.cell?_of_block (a := ⟨g, j * 2, none⟩) e).trans c0, (World.cell?_of_block (a := ⟨g, j * 2 + 1, none⟩) e).trans c1⟩
set_option maxRecDepth 100000 in
theorem BHas.ne {W : World} {base b : Nat} {o : List UInt8} (h : BHas W base b o) {g : Nat} {cur : Array Value} (hg : W.heap[g]? = some (.cells cur 63 (0, 0))) : g ≠ b := by
  intro e
  subst e
  have key : ∀ p, ¬ Lib.BuilderAt 57 5 base g p (Lib.byteCells o) W := by
    rintro p ⟨-, v, h2, -⟩
    rw [hg] at h2
    injection h2 with h2
    injection h2 with _ h2
    exact absurd h2 (by decide)
  rcases h with h | h
  · exact key _ h
  · exact key _ h
/-- Bytes as numbers. -/
def nums (o : List UInt8) : List Int := o.map (fun c => (c.toNat : Int))
set_option maxRecDepth 100000 in
theorem nums_ext (T : ByteArray) (d x : Nat) : nums (T.extract d x).data.toList = ((bsI T).drop d).take (x - d) := by
  unfold nums bsI
  simp [ByteArray.data_extract, List.map_drop, List.map_take]
set_option maxRecDepth 100000 in
theorem nums_of (s : ByteArray) : bsI s = nums s.data.toList := rfl
set_option maxRecDepth 100000 in
theorem nums_app (a b : List UInt8) : nums (a ++ b) = nums a ++ nums b := List.map_append ..
set_option maxRecDepth 100000 in
set_option maxHeartbeats 1600000 in
theorem mclean_any {W : World} {a : Option Addr} {cap : Nat} {l : List ByteArray} (T : ByteArray) (h : StrsIn W a cap l) (hT : T.size ≤ 10000) (hl : l.length ≤ 1000) (hb90 : T.size * l.length ≤ 90000) :
    Calls Try.prog 9 #[.string T, .slice a l.length cap] W fun e w' => (∃ c : ByteArray, e = .returned (.string c) ∧ bsI c = cleanS (sec l) (bsI T)) ∧ Below W.heap.size W w' := by
  have hbx := (Below.refl W.heap.size W).alloc (Nat.le_refl _) (.cells #[.pointer none, .slice none 0 0] 57)
  have CF : Hid (Calls Try.prog 26 #[.string T, .slice a l.length cap] (W.alloc (.cells #[.pointer none, .slice none 0 0] 57)) fun e w' => ∃ F, e = .returned (.pointer (some ⟨F, 0, none⟩)) ∧ FindIs w' (W.alloc (.cells #[.pointer none, .slice none 0 0] 57)).heap.size F T l ∧ Below (W.alloc (.cells #[.pointer none, .slice none 0 0] 57)).heap.size (W.alloc (.cells #[.pointer none, .slice none 0 0] 57)) w') := finder_any T (h.below hbx) hT hl hb90
  have hbl : BHas (W.alloc (.cells #[.pointer none, .slice none 0 0] 57)) W.heap.size W.heap.size [] := Lib.fresh_isBuilder 57 5 W
  have hpl := plc_range (sec l) (bsI T) 0
  have hall := clean_all (sec l) (bsI T)
  have hpn := plc_len (sec l) (bsI T) 0
  have hbn := bsI_len T
  rw [hbn] at hpl hall hpn
  have hpl' : Hid (∀ p ∈ plcF (sec l) (bsI T) 0, ((0 : Nat) : Int) ≤ p.1 ∧ p.1 < p.2 ∧ p.2 ≤ ((0 : Nat) : Int) + (T.size : Int)) := hpl
  have hall' : Hid ((foldC (bsI T) (plcF (sec l) (bsI T) 0) ([], 0)).2 ≤ T.size ∧ (foldC (bsI T) (plcF (sec l) (bsI T) 0) ([], 0)).1 ++ (bsI T).drop (foldC (bsI T) (plcF (sec l) (bsI T) 0) ([], 0)).2 = cleanS (sec l) (bsI T)) := hall
  clear h hbn hpl hall
  go_enter Try.func9, Try.ntmps9
  go_wp2_with fail
  refine CF.out.mono ?_
  rintro e w1 ⟨F, rfl, hf, hb1⟩
  have hbl1 : BHas w1 W.heap.size W.heap.size [] := hbl.below1 hb1
  have hbb1 := hbx.trans (hb1.mono hbx.size)
  clear hbx hbl CF hb1
  go_wp2_with fail
  refine (places_of hf hT).mono ?_
  rintro e w2 ⟨v, rfl, hP, hb2⟩
  have hbl2 := hbl1.below1 hb2
  have hbb2 := hbb1.trans (hb2.mono hbb1.size)
  clear hf hb2 hbl1 hbb1
  obtain ⟨PL, hPL⟩ : ∃ PL, Hid (PL = plcF (sec l) (bsI T) 0) := ⟨_, rfl⟩
  rw [← hPL.out] at hpl' hall' hpn hP
  obtain ⟨p, c, rfl, hPc⟩ := hP
  have hPc : Hid (PIn w2 (.slice p PL.length c) PL) := ⟨p, c, rfl, hPc⟩
  go_wp2_with fail
  go_loopw [6, 8, 15] (fun s6 s8 s15 wr => ∃ (k d : Nat) (o : List UInt8), k ≤ PL.length ∧ s15 = .int .i64 (k : Int) ∧ s6 = .int .i64 (d : Int) ∧ Hid ((nums o, d) = foldC (bsI T) (PL.take k) ([], 0)) ∧ d ≤ T.size ∧ o.length ≤ d + 3 * k ∧ BHas wr W.heap.size W.heap.size o ∧ Hid (PIn wr (.slice p PL.length c) PL) ∧ Below W.heap.size W wr) (fun _ _ s15 _ => PL.length - (intOf s15).toNat)
  case atStart => exact ⟨0, 0, [], by omega, rfl, rfl, rfl, by omega, by simp, hbl2, hPc, hbb2⟩
  case round =>
    clear hbl2 hPc hbb2
    obtain ⟨k, d, o, hk, rfl, rfl, hfo, hd, hol, hbl, hPc, hb⟩ := hrel
    by_cases hlt : k < PL.length
    · obtain ⟨x, y, hxy, hyT, hpk⟩ : ∃ x y : Nat, x < y ∧ y ≤ T.size ∧ PL[k] = ((x : Int), (y : Int)) := by
        have h5 := hpl'.out _ (List.getElem_mem hlt)
        exact ⟨PL[k].1.toNat, PL[k].2.toNat, by omega, by omega, Prod.ext (by show _ = ((PL[k].1.toNat : Nat) : Int); omega) (by show _ = ((PL[k].2.toNat : Nat) : Int); omega)⟩
      obtain ⟨p0, c0, e0, hPc2⟩ := hPc.out
      injection e0 with e1 e2 e3
      subst e1 e3
      obtain ⟨g, rfl, -, hcell⟩ := hPc2 (by intro e; rw [e] at hlt; simp at hlt)
      obtain ⟨c0, c1⟩ := hcell k hlt
      rw [hpk] at c0 c1
      have hgl := World.block_lt_of_cell? _ _ c0
      have hsn := fold_snoc (bsI T) PL ([], 0) k hlt
      rw [← hfo.out, hpk] at hsn
      have hX := heap_alloc_new wr (.cells #[.int .i64 (x : Int), .int .i64 (y : Int)] 63)
      have hbX := (Below.refl wr.heap.size wr).alloc (Nat.le_refl _) (.cells #[.int .i64 (x : Int), .int .i64 (y : Int)] 63)
      have hblX := hbl.below1 hbX
      have hPcX : Hid (PIn (wr.alloc (.cells #[.int .i64 (x : Int), .int .i64 (y : Int)] 63)) (.slice (some ⟨g, 0, none⟩) PL.length c) PL) := hPc.out.below hbX
      have hbbX := hb.trans (hbX.mono hb.size)
      clear hcell hPc2 hPc hbX hfo e2
      by_cases hdx : d ≤ x
      · have hsn2 : Hid (foldC (bsI T) (PL.take (k + 1)) ([], 0) = (nums o ++ (((bsI T).drop d).take (x - d) ++ [42, 42, 42]), y)) := by
          rw [hsn]
          unfold stepC
          rw [if_pos (by show ((d : Nat) : Int) ≤ (x : Int); omega)]
          rfl
        have hdl : (T.extract d x ++ ({ data := #[42, 42, 42] } : ByteArray)).data.toList = (T.extract d x).data.toList ++ [42, 42, 42] := by rw [ByteArray.data_append, Array.toList_append]
        have hxl : (T.extract d x).data.toList.length = x - d := by
          rw [Array.length_toList]
          show (T.extract d x).size = _
          rw [ByteArray.size_extract]
          omega
        have hnn : nums (o ++ (T.extract d x ++ ({ data := #[42, 42, 42] } : ByteArray)).data.toList) = nums o ++ (((bsI T).drop d).take (x - d) ++ [42, 42, 42]) := by
          rw [hdl, nums_app, nums_app, nums_ext]
          rfl
        have hsl : (T.extract d x ++ ({ data := #[42, 42, 42] } : ByteArray)).size = x - d + 3 := by
          rw [ByteArray.size_append, ByteArray.size_extract]
          show min x T.size - d + 3 = _
          omega
        have hsn3 : Hid ((nums (o ++ (T.extract d x ++ ({ data := #[42, 42, 42] } : ByteArray)).data.toList), y) = foldC (bsI T) (PL.take (k + 1)) ([], 0)) := by
          show _ = _
          rw [hsn2.out, hnn]
        have hol2 : (o ++ (T.extract d x ++ ({ data := #[42, 42, 42] } : ByteArray)).data.toList).length ≤ y + 3 * (k + 1) := by
          rw [hdl, List.length_append, List.length_append, hxl]
          simp only [List.length_cons, List.length_nil]
          omega
        have hXk : wr.heap.size < (wr.alloc (.cells #[.int .i64 (x : Int), .int .i64 (y : Int)] 63)).heap.size := by simp
        have CW : Hid (Calls Try.prog 28 #[.pointer (some ⟨W.heap.size, 0, none⟩), .string (T.extract d x ++ ({ data := #[42, 42, 42] } : ByteArray))] (wr.alloc (.cells #[.int .i64 (x : Int), .int .i64 (y : Int)] 63)) fun e w' => (∃ z : Int, e = .returned (.tuple #[.int .i64 z, .nilIface])) ∧ w'.heap[wr.heap.size]? = some (.cells #[.int .i64 (x : Int), .int .i64 (y : Int)] 63) ∧ BHas w' W.heap.size W.heap.size (o ++ (T.extract d x ++ ({ data := #[42, 42, 42] } : ByteArray)).data.toList) ∧ Hid (PIn w' (.slice (some ⟨g, 0, none⟩) PL.length c) PL) ∧ Below W.heap.size W w') := by
          refine (ws_has hblX (T.extract d x ++ ({ data := #[42, 42, 42] } : ByteArray)) (by rw [hsl]; omega) hbbX.size).mono ?_
          rintro e w' ⟨rfl, h1, h2, h3⟩
          exact ⟨⟨_, rfl⟩, h3.2 _ _ hX (hblX.ne hX) (fun _ _ e => by injection e with _ e; exact absurd e (by decide)), h1, hPcX.out.keptB h3 (fun g cur hg => hblX.ne hg), hbbX.trans h2⟩
        clear hsn hsn2 hnn hsl hdl hxl
        go_wp2_with fail
        refine CW.out.mono ?_
        rintro e w5 ⟨⟨z, rfl⟩, hX5, hbl5, hPc5, hb5⟩
        have z1 := cell_of_row _ _ 1 _ _ _ hX5
        have hX5l := (Array.getElem?_eq_some_iff.1 hX5).1
        clear CW hX hblX hPcX hbbX
        go_wp2_with fail
        go_roundw
        case rel => exact ⟨k + 1, y, _, by omega, by go_num, rfl, hsn3, hyT, hol2, hbl5, hPc5, hb5⟩
        case measure => simp [intOf]; omega
      · have hsn2 : Hid ((nums o, d) = foldC (bsI T) (PL.take (k + 1)) ([], 0)) := by
          rw [hsn]
          unfold stepC
          rw [if_neg (by show ¬ ((d : Nat) : Int) ≤ (x : Int); omega)]
          rfl
        clear hsn
        go_wp2_with fail
        go_roundw
        case rel => exact ⟨k + 1, d, o, by omega, by go_num, rfl, hsn2, hd, by omega, hblX, hPcX, hbbX⟩
        case measure => simp [intOf]; omega
    · have hkn : k = PL.length := by omega
      subst hkn
      rw [List.take_length] at hfo
      have hall := hall'.out
      rw [← hfo.out] at hall
      have hall2 : Hid (d ≤ T.size ∧ nums o ++ (bsI T).drop d = cleanS (sec l) (bsI T)) := hall
      clear hfo hall hall'
      have CW : Hid (Calls Try.prog 28 #[.pointer (some ⟨W.heap.size, 0, none⟩), .string (T.extract d T.size)] wr fun e w' => (∃ z : Int, e = .returned (.tuple #[.int .i64 z, .nilIface])) ∧ BHas w' W.heap.size W.heap.size (o ++ (T.extract d T.size).data.toList) ∧ Below W.heap.size W w') := by
        refine (ws_has hbl (T.extract d T.size) (by rw [ByteArray.size_extract]; omega) hb.size).mono ?_
        rintro e w' ⟨rfl, h1, h2, -⟩
        exact ⟨⟨_, rfl⟩, h1, hb.trans h2⟩
      have hfin : Hid (bsI ⟨(o ++ (T.extract d T.size).data.toList).toArray⟩ = cleanS (sec l) (bsI T)) := by
        rw [← hall2.out.2]
        show nums _ = _
        rw [List.toList_toArray, nums_app, nums_ext, List.take_of_length_le (by rw [List.length_drop, bsI_len]; exact Nat.le_refl _)]
      clear hbl hb hall2 hPc
      go_wp2_with fail
      refine CW.out.mono ?_
      rintro e w5 ⟨⟨z, rfl⟩, hbl5, hb5⟩
      clear CW
      generalize o ++ (T.extract d T.size).data.toList = oo at *
      have CS : Hid (Calls Try.prog 29 #[.pointer (some ⟨W.heap.size, 0, none⟩)] w5 fun e w' => e = .returned (.string ⟨oo.toArray⟩) ∧ Below W.heap.size W w') := by
        refine (str_has hbl5 hb5.size).mono ?_
        rintro e w' ⟨rfl, h1⟩
        exact ⟨rfl, hb5.trans h1⟩
      go_wp2_with fail
      refine CS.out.mono ?_
      rintro e w6 ⟨rfl, hb6⟩
      go_wp2_with fail
      go_ret
      exact ⟨⟨_, rfl, hfin.out⟩, hb6⟩
end Go.Proofs.Ytgknefpefeghcaa
