/- Alarms in plain mathematics: their order, what a map keyed by names holds of them. No conditions; no function of the program. -/
import Derived.Test.YtjgonfaniincbaaRows
import Derived.Maps.OwnSet
import Derived.Maps.RangeWalk
namespace Go.Proofs.Ytjgonfaniincbaa
open Go.Maps Go.WideShapes

/-- An alarm: when it rings, and its name. This one rings ahead of that one. -/
def ltA (x y : Int × ByteArray) : Prop := x.1 < y.1 ∨ x.1 = y.1 ∧ x.2.data.toList < y.2.data.toList
instance (x y : Int × ByteArray) : Decidable (ltA x y) := by unfold ltA; infer_instance
set_option maxRecDepth 100000 in
theorem name_inj {s t : ByteArray} (h : s.data.toList = t.data.toList) : s = t := by
  cases s; cases t; simp only [ByteArray.mk.injEq]; exact Array.toList_inj.1 h
set_option maxRecDepth 100000 in
theorem ltA_irrefl (x : Int × ByteArray) : ¬ ltA x x := by
  rintro (h | ⟨-, h⟩)
  · omega
  · exact List.lt_irrefl _ h
set_option maxRecDepth 100000 in
theorem ltA_trans {x y z : Int × ByteArray} (h1 : ltA x y) (h2 : ltA y z) : ltA x z := by
  rcases h1 with h1 | ⟨e1, h1⟩ <;> rcases h2 with h2 | ⟨e2, h2⟩
  · exact Or.inl (by omega)
  · exact Or.inl (by omega)
  · exact Or.inl (by omega)
  · exact Or.inr ⟨by omega, List.lt_trans h1 h2⟩
set_option maxRecDepth 100000 in
theorem ltA_asymm {x y : Int × ByteArray} (h1 : ltA x y) (h2 : ltA y x) : False := ltA_irrefl x (ltA_trans h1 h2)
set_option maxRecDepth 100000 in
theorem ltA_total {x y : Int × ByteArray} (h : x.2 ≠ y.2) : ltA x y ∨ ltA y x := by
  rcases Int.lt_trichotomy x.1 y.1 with h1 | h1 | h1
  · exact Or.inl (Or.inl h1)
  · rcases List.le_total x.2.data.toList y.2.data.toList with h2 | h2 <;> rcases List.le_iff_lt_or_eq.1 h2 with h2 | h2
    · exact Or.inl (Or.inr ⟨h1, h2⟩)
    · exact absurd (name_inj h2) h
    · exact Or.inr (Or.inr ⟨h1.symm, h2⟩)
    · exact absurd (name_inj h2.symm) h
  · exact Or.inr (Or.inl h1)
/-- Alarms that may be: rising, no name twice, each a tick and a text. -/
def OkA (l : List (Int × ByteArray)) : Prop := l.Pairwise ltA ∧ (l.map Prod.snd).Nodup ∧ ∀ x ∈ l, 0 ≤ x.1 ∧ x.1 ≤ 1152921504606846976 ∧ x.2.size ≤ maxLen
set_option maxRecDepth 100000 in
theorem OkA.nil : OkA [] := ⟨List.Pairwise.nil, List.nodup_nil, fun _ h => by cases h⟩
/-- All but those of a name. -/
def delA (s : ByteArray) (l : List (Int × ByteArray)) : List (Int × ByteArray) := l.filter (fun x => !decide (x.2 = s))
/-- One more, at its place. -/
def insA (x : Int × ByteArray) : List (Int × ByteArray) → List (Int × ByteArray)
  | [] => [x]
  | y :: r => if ltA y x then y :: insA x r else x :: y :: r
set_option maxRecDepth 100000 in
theorem insA_perm (x : Int × ByteArray) : ∀ l, (insA x l).Perm (x :: l)
  | [] => List.Perm.refl _
  | y :: r => by
    unfold insA
    split
    · exact ((insA_perm x r).cons y).trans (List.Perm.swap x y r)
    · exact List.Perm.refl _
set_option maxRecDepth 100000 in
theorem insA_sorted {x : Int × ByteArray} : ∀ {l : List (Int × ByteArray)}, l.Pairwise ltA → (∀ y ∈ l, y.2 ≠ x.2) → (insA x l).Pairwise ltA
  | [], _, _ => List.pairwise_singleton _ _
  | y :: r, h, hn => by
    obtain ⟨h1, h2⟩ := List.pairwise_cons.1 h
    unfold insA
    split
    · rename_i hlt
      refine List.pairwise_cons.2 ⟨fun z hz => ?_, insA_sorted h2 (fun z hz => hn z (List.mem_cons_of_mem _ hz))⟩
      rcases List.mem_cons.1 ((insA_perm x r).mem_iff.1 hz) with rfl | hz
      · exact hlt
      · exact h1 z hz
    · rename_i hlt
      have hxy : ltA x y := (ltA_total (hn y (List.mem_cons_self ..)).symm).resolve_right hlt
      refine List.pairwise_cons.2 ⟨fun z hz => ?_, h⟩
      rcases List.mem_cons.1 hz with rfl | hz
      · exact hxy
      · exact ltA_trans hxy (h1 z hz)
set_option maxRecDepth 100000 in
theorem OkA.del {l : List (Int × ByteArray)} (h : OkA l) (s : ByteArray) : OkA (delA s l) :=
  ⟨h.1.sublist List.filter_sublist, h.2.1.sublist (List.filter_sublist.map _), fun x hx => h.2.2 x (List.mem_filter.1 hx).1⟩
set_option maxRecDepth 100000 in
theorem delA_names {s : ByteArray} {l : List (Int × ByteArray)} : ∀ y ∈ delA s l, y.2 ≠ s := fun y hy => by
  have := (List.mem_filter.1 hy).2
  simpa using this
set_option maxRecDepth 100000 in
theorem OkA.put {l : List (Int × ByteArray)} (h : OkA l) (n : Int) (s : ByteArray) (h0 : 0 ≤ n) (h1 : n ≤ 1152921504606846976) (hs : s.size ≤ maxLen) : OkA (insA (n, s) (delA s l)) := by
  have hd := h.del s
  refine ⟨insA_sorted hd.1 delA_names, ?_, fun x hx => ?_⟩
  · have hp : ((insA (n, s) (delA s l)).map Prod.snd).Perm (s :: (delA s l).map Prod.snd) := (insA_perm (n, s) (delA s l)).map Prod.snd
    refine hp.nodup_iff.2 (List.nodup_cons.2 ⟨fun hm => ?_, hd.2.1⟩)
    obtain ⟨y, hy, e⟩ := List.mem_map.1 hm
    exact delA_names y hy e
  · rcases List.mem_cons.1 ((insA_perm (n, s) (delA s l)).mem_iff.1 hx) with rfl | hx
    · exact ⟨h0, h1, hs⟩
    · exact hd.2.2 x hx
/-- Is a name there? -/
def hasA (l : List (Int × ByteArray)) (s : ByteArray) : Bool := l.any (fun x => decide (x.2 = s))
set_option maxRecDepth 100000 in
theorem hasA_mem {l : List (Int × ByteArray)} {s : ByteArray} (h : hasA l s = true) : ∃ n, (n, s) ∈ l := by
  obtain ⟨x, hx, e⟩ := List.any_eq_true.1 h
  have e := of_decide_eq_true e
  exact ⟨x.1, by rw [← e]; exact hx⟩
set_option maxRecDepth 100000 in
theorem hasA_of {l : List (Int × ByteArray)} {n : Int} {s : ByteArray} (h : (n, s) ∈ l) : hasA l s = true := List.any_eq_true.2 ⟨_, h, decide_eq_true rfl⟩
set_option maxRecDepth 100000 in
theorem delA_same {l : List (Int × ByteArray)} {s : ByteArray} (h : hasA l s = false) : delA s l = l := by
  refine List.filter_eq_self.2 (fun x hx => ?_)
  have := List.any_eq_false.1 h x hx
  simpa using this
set_option maxRecDepth 100000 in
theorem delA_len {l : List (Int × ByteArray)} (h : (l.map Prod.snd).Nodup) (s : ByteArray) : (delA s l).length + (if hasA l s = true then 1 else 0) = l.length := by
  induction l with
  | nil => rfl
  | cons x r ih =>
    obtain ⟨h1, h2⟩ := List.nodup_cons.1 (by simpa using h : (x.2 :: r.map Prod.snd).Nodup)
    by_cases e : x.2 = s
    · subst e
      have hr : hasA r x.2 = false := by
        rw [Bool.eq_false_iff]
        intro hh
        obtain ⟨n, hn⟩ := hasA_mem hh
        exact h1 (List.mem_map.2 ⟨_, hn, rfl⟩)
      have hx : hasA (x :: r) x.2 = true := by simp [hasA]
      have hd : delA x.2 (x :: r) = delA x.2 r := by simp [delA]
      rw [hx, hd, delA_same hr]
      rfl
    · have hx : hasA (x :: r) s = hasA r s := by simp [hasA, e]
      have hd : delA s (x :: r) = x :: delA s r := by simp [delA, e]
      rw [hx, hd, List.length_cons, List.length_cons, ← ih h2]
      omega
set_option maxRecDepth 100000 in
/-- When a name's alarm rings. -/
theorem name_once {l : List (Int × ByteArray)} (h : (l.map Prod.snd).Nodup) {n m : Int} {s : ByteArray} (h1 : (n, s) ∈ l) (h2 : (m, s) ∈ l) : n = m := by
  induction l with
  | nil => cases h1
  | cons x r ih =>
    obtain ⟨g1, g2⟩ := List.nodup_cons.1 (by simpa using h : (x.2 :: r.map Prod.snd).Nodup)
    rcases List.mem_cons.1 h1 with e1 | e1 <;> rcases List.mem_cons.1 h2 with e2 | e2
    · rw [← e1] at e2; exact (congrArg Prod.fst e2).symm
    · exact absurd (List.mem_map.2 ⟨_, e2, by rw [← e1]⟩) g1
    · exact absurd (List.mem_map.2 ⟨_, e1, by rw [← e2]⟩) g1
    · exact ih g2 e1 e2
/-- A key, and an entry, of the map. -/
def keyS (s : ByteArray) : Lit := .string s.data.toList
def entA (x : Int × ByteArray) : Lit × DataW Unit := (keyS x.2, .lit (.int .i64 x.1))
set_option maxRecDepth 100000 in
theorem keyS_same (s t : ByteArray) : (keyS s).sameKey (keyS t) = decide (s = t) := by
  show (s.data.toList == t.data.toList) = _
  by_cases h : s = t
  · subst h; simp
  · rw [decide_eq_false h]
    simpa using fun e => h (name_inj e)
/-- The map reads as these alarms. -/
def ViewA (D : DataW Unit) (l : List (Int × ByteArray)) : Prop := ∃ es, D = .map es ∧ es.Perm (l.map entA)
set_option maxRecDepth 100000 in
theorem ViewA.perm {D : DataW Unit} {l l' : List (Int × ByteArray)} (h : ViewA D l) (hp : l.Perm l') : ViewA D l' := by
  obtain ⟨es, rfl, h⟩ := h
  exact ⟨es, rfl, h.trans (hp.map _)⟩
set_option maxRecDepth 100000 in
theorem ViewA.empty : ViewA (.map []) [] := ⟨[], rfl, List.Perm.refl _⟩
set_option maxRecDepth 100000 in
theorem ViewA.size {D : DataW Unit} {l : List (Int × ByteArray)} (h : ViewA D l) : Maps.size D = l.length := by
  obtain ⟨es, rfl, h⟩ := h
  rw [size_eq, h.length_eq, List.length_map]
set_option maxRecDepth 100000 in
theorem ViewA.has {D : DataW Unit} {l : List (Int × ByteArray)} (h : ViewA D l) (s : ByteArray) : Maps.has D (keyS s) = hasA l s := by
  obtain ⟨es, rfl, h⟩ := h
  rw [has_eq, h.any_eq, List.any_map]
  congr 1
  funext x
  exact keyS_same _ _
set_option maxRecDepth 100000 in
theorem ViewA.at {D : DataW Unit} {l : List (Int × ByteArray)} (h : ViewA D l) (hn : (l.map Prod.snd).Nodup) {n : Int} {s : ByteArray} (hm : (n, s) ∈ l) (z : DataW Unit) : D.atKey (keyS s) z = .lit (.int .i64 n) := by
  obtain ⟨es, rfl, h⟩ := h
  have hin : entA (n, s) ∈ es := h.mem_iff.2 (List.mem_map.2 ⟨_, hm, rfl⟩)
  have hf : (es.find? (fun p => p.1.sameKey (keyS s))).isSome = true := by
    rw [List.find?_isSome]
    exact ⟨_, hin, by show (keyS s).sameKey (keyS s) = true; rw [keyS_same]; exact decide_eq_true rfl⟩
  obtain ⟨p, hp⟩ := Option.isSome_iff_exists.1 hf
  have h1 := List.mem_of_find?_eq_some hp
  have h2 := List.find?_some hp
  obtain ⟨y, hy, rfl⟩ := List.mem_map.1 (h.mem_iff.1 h1)
  have e : y.2 = s := of_decide_eq_true ((keyS_same y.2 s).symm.trans h2)
  have e1 : y.1 = n := name_once hn (s := s) (by rw [← e]; exact hy) hm
  have : (DataW.map es).atKey (keyS s) z = (entA y).2 := by simp only [DataW.atKey, hp]
  rw [this]
  show DataW.lit (.int .i64 y.1) = _
  rw [e1]
set_option maxRecDepth 100000 in
theorem ViewA.off {D : DataW Unit} {l : List (Int × ByteArray)} (h : ViewA D l) {s : ByteArray} (hm : hasA l s = false) (z : DataW Unit) : D.atKey (keyS s) z = z := atKey_of_not_has (by rw [h.has, hm]) z
set_option maxRecDepth 100000 in
theorem ent_filter (s : ByteArray) (l : List (Int × ByteArray)) : (l.map entA).filter (fun p => !p.1.sameKey (keyS s)) = (delA s l).map entA := by
  rw [List.filter_map]
  unfold delA
  congr 1
  refine List.filter_congr (fun x _ => ?_)
  show (!(keyS x.2).sameKey (keyS s)) = _
  rw [keyS_same]
set_option maxRecDepth 100000 in
theorem ViewA.del {D : DataW Unit} {l : List (Int × ByteArray)} (h : ViewA D l) (s : ByteArray) : ViewA (D.del (keyS s)) (delA s l) := by
  obtain ⟨es, rfl, h⟩ := h
  refine ⟨_, rfl, ?_⟩
  rw [← ent_filter]
  exact h.filter _
set_option maxRecDepth 100000 in
theorem ViewA.put {D : DataW Unit} {l : List (Int × ByteArray)} (h : ViewA D l) (n : Int) (s : ByteArray) : ViewA (D.put (keyS s) (.lit (.int .i64 n))) (insA (n, s) (delA s l)) := by
  obtain ⟨es, rfl, h⟩ := h
  refine ⟨_, rfl, ?_⟩
  refine (insert_perm _ _).trans ?_
  have h1 := h.filter (fun p => !p.1.sameKey (keyS s))
  rw [ent_filter] at h1
  exact (h1.cons (entA (n, s))).trans ((insA_perm (n, s) (delA s l)).symm.map entA)
end Go.Proofs.Ytjgonfaniincbaa
