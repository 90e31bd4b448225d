/- What slices.SortFunc does with a row of alarms of the call's own: it holds them sorted; by the library's own contract, laid at this program. Conditions: fewer than 2^40 of them, no name twice. -/
import Derived.Test.YtjgonfaniincbaaCkQ
import Derived.Test.YtjgonfaniincbaaCkL
import Derived.Shelf.SlSortCmp.NoneTotal
namespace Go.Proofs.Ytjgonfaniincbaa
open Go.RowKit Go.Sort Go.Shelf Go.Lib

set_option maxRecDepth 100000 in
theorem cmpLaysA (blk off size : Nat) (w : World) : CmpLays Try.prog 24 #[] encA 2 cfA blk off size w := fun _ _ _ _ x y => sooner_any x y _
set_option maxRecDepth 100000 in
/-- A list in order, place by place, is one in order. -/
theorem pairwise_of {l : List (Int × ByteArray)} (hn : (l.map Prod.snd).Nodup) (h : ∀ i j (hi : i < l.length) (hj : j < l.length), i < j → ¬ ltA l[j] l[i]) : l.Pairwise ltA := by
  rw [List.pairwise_iff_getElem]
  intro i j hi hj hij
  refine (ltA_total (fun e => ?_)).resolve_right (h i j hi hj hij)
  have h1 := List.pairwise_iff_getElem.1 hn i j (by simpa using hi) (by simpa using hj) hij
  simp at h1
  exact h1 e
set_option maxRecDepth 100000 in
theorem sort_any {W : World} {base : Nat} {v : Value} {l : List (Int × ByteArray)} (hown : W.ownsRow base 57 2 v l.length (flatA l)) (hl : l.length < 1099511627776) (hn : (l.map Prod.snd).Nodup) (hbase : base ≤ W.heap.size) :
    Calls Try.prog 23 #[v, .func (.func 24) #[] #[]] W fun e w' => e = .returned (.tuple #[]) ∧ ∃ l', l'.Perm l ∧ l'.Pairwise ltA ∧ ARow w' base v l' ∧ RowKit.Below base W w' := by
  rcases hown.2 with ⟨hv, h0⟩ | ⟨g, cap, cur, hv, hg, hb, h1, h2, h3, h4⟩
  · subst hv
    have hz : l = [] := List.eq_nil_of_length_eq_zero h0
    subst hz
    have hc := AnyF.slices_SortFunc_none { sortAL with } none 0 (.func (.func 24) #[] #[]) W
    change Calls Try.prog 23 _ _ _ at hc
    refine hc.mono ?_
    rintro e w' ⟨rfl, rfl⟩
    exact ⟨rfl, [], List.Perm.refl _, List.Pairwise.nil, Or.inl ⟨rfl, none, 0, rfl⟩, RowKit.Below.refl _ _⟩
  · by_cases hz : l = []
    · subst hz hv
      have hc := AnyF.slices_SortFunc_none { sortAL with } (some ⟨g, 0, none⟩) cap (.func (.func 24) #[] #[]) W
      change Calls Try.prog 23 _ _ _ at hc
      refine hc.mono ?_
      rintro e w' ⟨rfl, rfl⟩
      exact ⟨rfl, [], List.Perm.refl _, List.Pairwise.nil, Or.inl ⟨rfl, some ⟨g, 0, none⟩, cap, rfl⟩, RowKit.Below.refl _ _⟩
    · subst hv
      have hgl : g < W.heap.size := (Array.getElem?_eq_some_iff.1 hb).1
      have eg : ∀ args w, (callFunc 24 args).run Try.prog w = .ok (.enter 24 args) w := enters_of Try.func24 (by kernel_rfl) rfl
      have hH := holds_own (l := l) hb (by rw [← h4])
      have hsz : l.toArray.size = l.length := by simp
      have hc := AnyQ.slices_SortFunc sortAL 2 Try.isAgg57 Try.sizeOf57 encA (fun _ => rfl) (fun x u hu => by simp [encA] at hu; rcases hu with rfl | rfl <;> rfl) cfA swoA 24 #[] g 0 cap l.toArray W eg (cmpLaysA g 0 _ W) hH hgl (by rw [hsz]; omega)
      change Calls Try.prog 23 _ _ _ at hc
      rw [hsz] at hc
      refine hc.mono ?_
      rintro e w' ⟨rfl, d', n, os, hp, hs, rfl⟩
      have hd : d'.size = l.length := hp.1.trans hsz
      have hperm : d'.toList.Perm l := by
        have := hp.2.2
        rw [show d'.extract 0 l.length = d' by rw [← hd]; exact Array.extract_size .., show l.toArray.extract 0 l.length = l.toArray by rw [← hsz]; exact Array.extract_size ..] at this
        simpa using this
      have hnd : (d'.toList.map Prod.snd).Nodup := ((hperm.map Prod.snd).nodup_iff).2 hn
      have hH' := holdsK_sortWorldK_c encA 2 W g 0 l.toArray d' n os hH hgl (by rw [hd, hsz])
      refine ⟨rfl, d'.toList, hperm, pairwise_of hnd (fun i j hi hj hij hlt => ?_), Or.inr ⟨g, cap, ?_, ?_, hg, ?_, fun j hj => ?_⟩, ?_⟩
      · simp only [Array.length_toList] at hi hj
        have h5 := hs i j (Nat.zero_le _) hij (by omega)
        rw [ltOf_eq] at h5
        have h6 := of_decide_eq_false h5
        apply h6
        simpa [hi, hj] using hlt
      · intro e
        have : d'.size = 0 := by simpa using congrArg List.length e
        exact hz (List.eq_nil_of_length_eq_zero (by omega))
      · rw [show d'.toList.length = l.length by simp [hd]]
      · exact Nat.lt_of_lt_of_le hgl (grownBy_sortA d').size
      · simp only [Array.length_toList] at hj
        have c0 := (hH'.cell (i := j) (c := 0) hj (by omega)).1
        have c1 := (hH'.cell (i := j) (c := 1) hj (by omega)).1
        simp only [Nat.zero_add, Nat.add_zero] at c0 c1
        have e : d'[j]! = d'.toList[j] := by simp [hj]
        rw [e] at c0 c1
        exact ⟨c0, c1⟩
      · exact (RowKit.Below.refl base W).grown (grownBy_sortA d') hbase (fun k hk => by cases hk; exact hg)
end Go.Proofs.Ytjgonfaniincbaa
