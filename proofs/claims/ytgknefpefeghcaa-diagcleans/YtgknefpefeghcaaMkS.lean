/- slices.SortFunc at texts of the call's own: longer ones first. Conditions: they lie in memory. -/
import Derived.Test.YtgknefpefeghcaaMkE
import Derived.Test.YtgknefpefeghcaaMkL
import Derived.Shelf.SlSortCmp.NoneTotal
namespace Go.Proofs.Ytgknefpefeghcaa
open Go.RowKit Go.Sort Go.Shelf Go.Lib

/-- A text that is not too long. -/
abbrev Sh := {s : ByteArray // s.size ≤ 1000000}
instance : Inhabited Sh := ⟨⟨ByteArray.empty, by decide⟩⟩
def encSh (s : Sh) : Value := .string s.1
def cfSh (x y : Sh) : Int := (y.1.size : Int) - x.1.size
set_option maxRecDepth 100000 in
theorem ltSh (x y : Sh) : ltOf cfSh x y = decide (y.1.size < x.1.size) := decide_eq_decide.2 (by unfold cfSh; omega)
set_option maxRecDepth 100000 in
theorem swoSh : SWO (ltOf cfSh) where
  irrefl x := by rw [ltSh]; exact decide_eq_false (by omega)
  trans x y z h1 h2 := by
    rw [ltSh] at *
    have := of_decide_eq_true h1
    have := of_decide_eq_true h2
    exact decide_eq_true (by omega)
  ntrans x y z h1 h2 := by
    rw [ltSh] at *
    have := of_decide_eq_false h1
    have := of_decide_eq_false h2
    exact decide_eq_false (by omega)
set_option maxRecDepth 100000 in
theorem cmpSh_any (x y : Sh) (W : World) : Calls Try.prog 52 #[.string x.1, .string y.1] W fun e w' => e = .returned (.int .i64 (cfSh x y)) ∧ W = w' := by
  obtain ⟨x, hx⟩ := x
  obtain ⟨y, hy⟩ := y
  unfold cfSh
  simp only
  go_enter Try.func52, Try.ntmps52
  go_wp2_with fail
  go_ret
  exact ⟨rfl, rfl⟩
set_option maxRecDepth 100000 in
theorem cmpLaysSh (blk off size : Nat) (w : World) : CmpLays1 Try.prog 52 #[] encSh cfSh blk off size w := fun m os dk _ x y =>
  (cmpSh_any x y (sortWorld encSh w blk off m dk os)).mono (fun e w' ⟨h1, h2⟩ => ⟨h1, 0, #[], by rw [← h2]; simp [grow, World.drewN]⟩)
set_option maxRecDepth 100000 in
theorem sort_none (p : Option Addr) (cap : Nat) (W : World) : Calls Try.prog 51 #[.slice p 0 cap, .func (.func 52) #[] #[]] W fun e w' => e = .returned (.tuple #[]) ∧ W = w' := by
  have hc := AnyF.slices_SortFunc_none { sortSL with } p cap (.func (.func 52) #[] #[]) W
  change Calls Try.prog 51 _ _ _ at hc
  refine hc.mono ?_
  rintro e w' ⟨rfl, rfl⟩
  exact ⟨rfl, rfl⟩
set_option maxRecDepth 100000 in
theorem sort_row {W : World} {g cap n : Nat} {f : Nat → Value} (h : W.rowIs g 9 cap f) (m : Nat) (d : Array Sh) (os : Array Obj) (hd : d.size = n) (hH : Holds encSh (sortWorld encSh W g 0 m d os) g 0 d) : ∃ f', (sortWorld encSh W g 0 m d os).rowIs g 9 cap f' ∧ ∀ j, j < n → f' j = encSh d[j]! := by
  obtain ⟨c, hb, hs, hc⟩ := h
  have hlt := (Array.getElem?_eq_some_iff.1 hb).1
  have hb2 : (sortWorld encSh W g 0 m d os).heap[g]? = some (.cells (putCells encSh 0 d c) 9 (0, 0)) := by
    unfold sortWorld
    have hl2 : g < (putRow encSh (Sort.ahead W m) g 0 d).heap.size := by simpa [putRow, mapBlock, Sort.ahead] using hlt
    rw [heap_grow_old _ _ hl2]
    simp [putRow, mapBlock, Sort.ahead, Array.getElem?_modify, hb, onCells]
  have hs2 : (putCells encSh 0 d c).size = cap := by rw [← hs]; simp [putCells]
  refine ⟨fun j => ((putCells encSh 0 d c)[j]?).getD default, ⟨_, hb2, hs2, fun i hi => ?_⟩, fun j hj => ?_⟩
  · have : i < (putCells encSh 0 d c).size := by rw [hs2]; exact hi
    simp [this]
  · have h3 := (hH j (by omega)).1
    rw [Nat.zero_add, cell_of_row _ _ _ _ _ _ hb2] at h3
    show ((putCells encSh 0 d c)[j]?).getD default = _
    rw [h3]
    rfl
set_option maxRecDepth 100000 in
theorem sortS_any {W : World} {base g cap : Nat} {l : List ByteArray} (h : SL W g cap l) (hl : l.length ≤ 100000) (hs : ∀ s ∈ l, s.size ≤ 1000000) (hg : base ≤ g) (hbase : base ≤ W.heap.size) :
    Calls Try.prog 51 #[.slice (some ⟨g, 0, none⟩) l.length cap, .func (.func 52) #[] #[]] W fun e w' => e = .returned (.tuple #[]) ∧ ∃ l', l'.Perm l ∧ l'.Pairwise (fun x y => y.size ≤ x.size) ∧ SL w' g cap l' ∧ RowKit.Below base W w' := by
  by_cases hz : l = []
  · subst hz
    refine (sort_none _ _ _).mono ?_
    rintro e w' ⟨rfl, rfl⟩
    exact ⟨rfl, [], List.Perm.refl _, List.Pairwise.nil, h, RowKit.Below.refl _ _⟩
  · have eg : ∀ args w, (callFunc 52 args).run Try.prog w = .ok (.enter 52 args) w := enters_of Try.func52 (by kernel_rfl) rfl
    obtain ⟨L, hL⟩ : ∃ L : List Sh, L.map Subtype.val = l := ⟨l.pmap Subtype.mk hs, by rw [List.map_pmap]; simp⟩
    subst hL
    obtain ⟨f, hrow, hlc, hf⟩ := h
    have hgl := hrow.lt
    have hsz : L.toArray.size = L.length := by simp
    have hll : (L.map Subtype.val).length = L.length := by simp
    rw [hll] at hl hlc ⊢
    have hH : Holds encSh W g 0 L.toArray := by
      intro j hj
      have hj' : j < L.length := by simpa using hj
      refine ⟨?_, hrow.frozen _⟩
      rw [Nat.zero_add, hrow.cell (by omega), hf j (by rw [hll]; exact hj')]
      simp [encSh, hj']
    have hc := Any.slices_SortFunc sortSL encSh (fun _ => rfl) cfSh swoSh 52 #[] g 0 cap L.toArray W eg (cmpLaysSh g 0 _ W) hH hgl (by rw [hsz]; omega)
    change Calls Try.prog 51 _ _ _ at hc
    rw [hsz] at hc
    refine hc.mono ?_
    rintro e w' ⟨rfl, d', n, os, hp, hss, rfl⟩
    have hd : d'.size = L.length := hp.1.trans hsz
    have hperm : d'.toList.Perm L := by
      have := hp.2.2
      rw [show d'.extract 0 L.length = d' by rw [← hd]; exact Array.extract_size .., show L.toArray.extract 0 L.length = L.toArray by rw [← hsz]; exact Array.extract_size ..] at this
      simpa using this
    have hH' := holds_sortWorld encSh W g 0 n L.toArray d' os hgl hH (by rw [hd, hsz])
    obtain ⟨f', hr', hf'⟩ := sort_row hrow n d' os hd hH'
    refine ⟨rfl, d'.toList.map Subtype.val, hperm.map _, ?_, ⟨f', hr', by simp [hd]; exact hlc, fun j hj => ?_⟩, ?_⟩
    · rw [List.pairwise_map, List.pairwise_iff_getElem]
      intro i j hi hj hij
      simp only [Array.length_toList] at hi hj
      have h5 := hss i j (Nat.zero_le _) hij (by omega)
      rw [ltSh] at h5
      have h6 := of_decide_eq_false h5
      have e1 : d'[i]! = d'.toList[i] := by simp [hi]
      have e2 : d'[j]! = d'.toList[j] := by simp [hj]
      rw [e1, e2] at h6
      omega
    · have hj' : j < d'.size := by simpa using hj
      rw [hf' j (by omega)]
      simp [encSh, hj']
    · refine (RowKit.Below.refl base W).grown (row := some g) ⟨rfl, rfl, rfl, by simp [sortWorld, putRow, mapBlock, grow], fun k hk hne => ?_⟩ hbase (fun k hk => by cases hk; exact hg)
      unfold sortWorld
      rw [heap_grow_old _ _ (by simpa [putRow, mapBlock] using hk)]
      have : g ≠ k := fun e => hne (by rw [e])
      simp [putRow, mapBlock, Sort.ahead, Array.getElem?_modify, this]
end Go.Proofs.Ytgknefpefeghcaa
