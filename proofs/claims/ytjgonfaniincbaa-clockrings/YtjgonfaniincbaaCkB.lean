/- by: the alarms by a tick, in the order in which they ring: a map ranged over, a row that grows, sorted. Conditions: the alarms lie in memory, at most 32. -/
import Derived.Test.YtjgonfaniincbaaCkT
import Derived.Maps.RangeWalk
import Derived.Maps.AppendAt
import Derived.Sort.OwnSorted
namespace Go.Proofs.Ytjgonfaniincbaa
open Go.RowKit Go.Maps Go.ChangeMaps Go.WideShapes Go.WideMaps Go.Sort

/-- What has been collected, while some entries are still to come. -/
def Col (l : List (Int × ByteArray)) (tick : Int) (left : Lit → Bool) (acc : List (Int × ByteArray)) : Prop := acc.Nodup ∧ ∀ x, x ∈ acc ↔ x ∈ l ∧ x.1 ≤ tick ∧ left (keyS x.2) = false
def dueA (tick : Int) (l : List (Int × ByteArray)) : List (Int × ByteArray) := l.filter (fun x => decide (x.1 ≤ tick))
set_option maxRecDepth 100000 in
theorem Col.start {D : DataW Unit} {l : List (Int × ByteArray)} (hv : ViewA D l) (tick : Int) : Col l tick (Maps.has D) [] := by
  refine ⟨List.nodup_nil, fun x => Iff.intro (fun h => by cases h) (fun g => ?_)⟩
  have h2 := g.2.2
  rw [hv.has, hasA_of (n := x.1) g.1] at h2
  cases h2
set_option maxRecDepth 100000 in
theorem Col.done {l : List (Int × ByteArray)} {tick : Int} {left : Lit → Bool} {acc : List (Int × ByteArray)} (h : Col l tick left acc) (hok : OkA l) (hl : ∀ kl, left kl = false) : acc.Perm (dueA tick l) := by
  have hn : l.Nodup := List.Pairwise.imp (fun {a b} (hab : ltA a b) (e : a = b) => ltA_irrefl a (by rw [← e] at hab; exact hab)) hok.1
  refine (List.perm_ext_iff_of_nodup h.1 (hn.sublist List.filter_sublist)).2 (fun x => ?_)
  rw [h.2 x]
  show _ ↔ x ∈ l.filter (fun x => decide (x.1 ≤ tick))
  rw [List.mem_filter]
  simp [hl]
set_option maxRecDepth 100000 in
theorem Col.take {l : List (Int × ByteArray)} {tick : Int} {left : Lit → Bool} {acc : List (Int × ByteArray)} (h : Col l tick left acc) (hok : OkA l) {c : Int} {s : ByteArray} (hm : (c, s) ∈ l) (hc : c ≤ tick) (hx : left (keyS s) = true) :
    Col l tick (fun z => left z && !z.sameKey (keyS s)) (acc ++ [(c, s)]) := by
  have hno : (c, s) ∉ acc := fun g => by have := ((h.2 _).1 g).2.2; rw [hx] at this; cases this
  refine ⟨?_, fun x => ?_⟩
  · rw [List.nodup_append]
    refine ⟨h.1, by simp, fun a ha b hb e => ?_⟩
    simp at hb
    subst e hb
    exact hno ha
  · rw [List.mem_append, h.2 x, List.mem_singleton]
    dsimp only
    rw [keyS_same]
    constructor
    · rintro (⟨h1, h2, h3⟩ | rfl)
      · exact ⟨h1, h2, by rw [h3]; rfl⟩
      · exact ⟨hm, hc, by simp⟩
    · rintro ⟨h1, h2, h3⟩
      by_cases e : x.2 = s
      · refine Or.inr ?_
        have : x.1 = c := name_once hok.2.1 (s := s) (by rw [← e]; exact h1) hm
        rw [← this, ← e]
      · exact Or.inl ⟨h1, h2, by simpa [e] using h3⟩
set_option maxRecDepth 100000 in
theorem Col.skip {l : List (Int × ByteArray)} {tick : Int} {left : Lit → Bool} {acc : List (Int × ByteArray)} (h : Col l tick left acc) (hok : OkA l) {c : Int} {s : ByteArray} (hm : (c, s) ∈ l) (hc : ¬ c ≤ tick) :
    Col l tick (fun z => left z && !z.sameKey (keyS s)) acc := by
  refine ⟨h.1, fun x => ?_⟩
  rw [h.2 x]
  dsimp only
  rw [keyS_same]
  by_cases e : x.2 = s
  · constructor
    · rintro ⟨h1, h2, h3⟩; exact ⟨h1, h2, by rw [h3]; rfl⟩
    · rintro ⟨h1, h2, _⟩
      have : x.1 = c := name_once hok.2.1 (s := s) (by rw [← e]; exact h1) hm
      omega
  · simp [e]
set_option maxRecDepth 100000 in
theorem at_in {D : DataW Unit} {l : List (Int × ByteArray)} (hv : ViewA D l) (hok : OkA l) {c : Int} {s : ByteArray} (hat : ∀ zd, D.atKey (keyS s) zd = .lit (.int .i64 c)) : (c, s) ∈ l := by
  have h1 := has_true_of_atKey hat
  rw [hv.has] at h1
  obtain ⟨n, hn⟩ := hasA_mem h1
  have h2 := (hv.at hok.2.1 hn (.map [])).symm.trans (hat _)
  cases h2
  exact hn
set_option maxRecDepth 100000 in
theorem infoA : (Try.prog.info? 57).map (fun i => (i.zero, i.size, i.bytes)) = some (some (.agg #[.int .i64 0, .string ByteArray.empty]), 2, 24) := by kernel_rfl
set_option maxRecDepth 100000 in
theorem invK (key : Value) (kl : Lit) (h : keyOf Try.prog 9 key = some kl) : ∃ s, key = Value.string s := by
  obtain ⟨s, rfl, -, -⟩ := string_of_keyOf Try.underlying9 h
  exact ⟨s, rfl⟩
set_option maxRecDepth 100000 in
theorem invV (v : Value) (y : DataW Unit × List MemPlace) (h : plainElem Try.prog 3 v = some y) : ∃ c, v = Value.int .i64 c := by
  obtain ⟨c, rfl, -, -⟩ := plainElem_int_inv Try.underlying3 h
  exact ⟨c, rfl⟩
set_option maxRecDepth 100000 in
theorem by_nil (tick : Int) (W : World) : Calls Try.prog 22 #[.pointer none, .int .i64 tick] W fun e w' => e = .returned (.slice none 0 0) ∧ W = w' := by
  go_enter Try.func22, Try.ntmps22
  go_wp2
  go_ret
  exact ⟨rfl, rfl⟩
set_option maxRecDepth 100000 in
set_option maxHeartbeats 1600000 in
theorem by_any {W : World} {B Mb : Nat} {now : Int} {l : List (Int × ByteArray)} (h : AlIn W B Mb now l) (hok : OkA l) (hl : l.length ≤ 32) (tick : Int) : Calls Try.prog 22 #[.pointer (some ⟨B, 0, none⟩), .int .i64 tick] W fun e w' =>
    ∃ v, e = .returned v ∧ ARow w' W.heap.size v (dueA tick l) ∧ Below W.heap.size W w' := by
  obtain ⟨z0, z1, zf⟩ := h.cells
  have hlt := h.1.lt
  have hml := h.2.lt
  obtain ⟨-, D, hown, hv⟩ := h
  obtain ⟨i0, hi, hz0, hz1, hz2⟩ := info_parts infoA
  go_enter Try.func22, Try.ntmps22
  go_wp2_with (at_range; refine wpList_range_own _ rfl _ 51 rfl 9 3 keyed Try.underlying51 _ Mb l.length D rfl hown ?_; intro w0 hrg0 hg0 hs0)
  go_frame
  clear zf
  go_loopw [5] (fun s5 wr => ∃ (left : Lit → Bool) (cnt : Nat) (acc : List (Int × ByteArray)), wr.ranges Try.prog 9 (plainElem Try.prog 3) Mb W.heap.size l.length D left cnt ∧ wr.ownsRow (W.heap.size + 1) 57 2 s5 acc.length (flatA acc) ∧ Col l tick left acc ∧ acc.length + cnt ≤ l.length ∧ Below W.heap.size W wr ∧ W.heap.size + 1 ≤ wr.heap.size)
    (fun _ wr => wr.rangeLeft Mb W.heap.size)
  case atStart =>
    exact ⟨_, _, [], hrg0, World.ownsRow_nil _ _ _ _, Col.start hv tick, by rw [hv.size]; simp, (Below.refl _ _).grown hg0 (Nat.le_refl _) (fun k hk => by cases hk), by omega⟩
  case round =>
    obtain ⟨left, cnt, acc, hrg, hrow, hcol, hcnt, hbel, hsz⟩ := hrel
    clear hrg0 hg0 hs0
    go_wp2_with (at_next; refine wpList_next_ranges _ rfl _ rfl 9 keyed (plainElem Try.prog 3) Value.string (Value.int .i64) invK invV Mb W.heap.size l.length D left cnt rfl hrg ?_ ?_)
    · intro _ hl0
      have hperm := hcol.done hok hl0
      have hnd : (acc.map Prod.snd).Nodup := ((hperm.map Prod.snd).nodup_iff).2 (hok.2.1.sublist (List.filter_sublist.map _))
      have hen : acc.length < 1099511627776 := by omega
      have hmono : ∀ (V : World) (v : Value) (q : List (Int × ByteArray)), ARow V (W.heap.size + 1) v q → ARow V W.heap.size v q := fun V v q g => g.mono (by omega)
      go_wp2_with fail
      refine (sort_any hrow hen hnd hsz).mono ?_
      rintro e w2 ⟨rfl, l', hp, hs, hA, hb2⟩
      have e1 : l' = dueA tick l := rising_one hs (hok.1.sublist List.filter_sublist) (hp.trans hperm)
      subst e1
      go_wp2_with fail
      go_ret
      exact ⟨_, rfl, hmono _ _ _ hA, hbel.trans (hb2.mono (by omega))⟩
    · intro s c kl yd yp w1 cnt1 hkl hlx hR hat hrg1 hlt1 hg1 hs1 hen
      obtain ⟨s', e1, rfl, hss⟩ := string_of_keyOf Try.underlying9 hkl
      cases e1
      obtain ⟨c', e2, e3, hcw⟩ := plainElem_int_inv Try.underlying3 hR
      cases e2
      cases e3
      have hm : (c, s) ∈ l := at_in hv hok hat
      have hrow1 : w1.ownsRow (W.heap.size + 1) 57 2 u5 acc.length (flatA acc) := hrow.kept hg1 (Or.inr (fun e => row_ne_low hrow (b := W.heap.size) (by omega) e.symm))
      have hbel1 : RowKit.Below W.heap.size W w1 := hbel.grown hg1 (by omega) (fun k hk => by cases hk; exact Nat.le_refl _)
      have hsz1 : W.heap.size + 1 ≤ w1.heap.size := by omega
      clear hs1
      by_cases hc : c ≤ tick
      · have hcol1 := hcol.take hok hm hc hlx
        have hrow2 := hrow1.alloc (.cells #[.int .i64 c, .string s] 57)
        clear hrow hcol hR hat hbel z0 z1
        go_wp2_with (at_builtin; go_must (refine wpList_append_own_at _ rfl (.tmp 23) (.tmp 27) 54 rfl (W.heap.size + 1) 57 i0 _ 2 24 Try.underlying54 hi hz0 hz1 hz2 rfl (by decide) _ _ _ rfl hrow2 ⟨w1.heap.size, 0, none⟩ 1 1 [.int .i64 c, .string s] rfl rfl ?c1 ?c2 (by unfold maxLen; omega) (by omega) (by simp; omega) ?_))
        case c1 =>
          intro j u hj
          match j, hj with
          | 0, hj => simp at hj; subst hj; simp [Addr.add]
          | 1, hj => simp at hj; subst hj; simp [Addr.add]
          | j + 2, hj => simp at hj
        case c2 =>
          intro u hu
          simp only [List.mem_cons, List.not_mem_nil, or_false] at hu
          rcases hu with rfl | rfl <;> rfl
        intro v6 w6 hown6 hgrow6 _ hat6
        have hrg6 := (hrg1.alloc (.cells #[.int .i64 c, .string s] 57)).kept hgrow6 (row_ne_low hrow2 (by omega)) (row_ne_low hrow2 (by omega))
        have hB6 : RowKit.Below W.heap.size W w6 := (hbel1.alloc (by omega) _).grown hgrow6 (by simp; omega) (fun q hq => by have := (hrow2.lt q hq).1; omega)
        have hsz6 : W.heap.size + 1 ≤ w6.heap.size := by have := hgrow6.size; simp at this; omega
        rw [← flatA_snoc acc (c, s)] at hown6
        clear hrow2 hrow1 hgrow6 hat6 hbel1
        go_wp2
        go_roundw
        case rel => exact ⟨_, cnt1, acc ++ [(c, s)], hrg6, by simpa using hown6, hcol1, by simp; omega, hB6, hsz6⟩
        case measure => rw [hrg6.left_eq, hrg.left_eq]; exact hlt1
      · have hcol1 := hcol.skip hok hm hc
        clear hrow hcol hR hat hbel z0 z1
        go_wp2_with fail
        go_roundw
        case rel => exact ⟨_, cnt1, acc, hrg1, hrow1, hcol1, by omega, hbel1, by omega⟩
        case measure => rw [hrg1.left_eq, hrg.left_eq]; exact hlt1
end Go.Proofs.Ytjgonfaniincbaa
