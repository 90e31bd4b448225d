/- A value with another one where steps lead, in plain mathematics: what is put in is there; another way that parts from it leads where it led; no greater. No conditions; no program. -/
import Derived.Test.YtigdcnoggjcddaaVGWith
namespace Go.Proofs.Ytigdcnoggjcddaa
open Go.RowKit

set_option maxRecDepth 100000 in
theorem hasAt_notin {key : ByteArray} {ks : List ByteArray} (h : key ∉ ks) : hasAt key ks = false := by
  unfold hasAt
  cases h1 : ks[below key ks]? with
  | none => rfl
  | some y =>
    have := List.mem_of_getElem? h1
    simp only [decide_eq_false_iff_not]
    intro e; subst e; exact h this
/-- A Map with another value of a key. -/
def mapPut (l : List V) (q : List ByteArray) (key : ByteArray) (x : V) : V :=
  if (V.mk 7 false 0 0 ByteArray.empty l q).hasK key = true then V.map (putAt l (posK q key) x) q else V.map (l.take (below key q) ++ x :: l.drop (below key q)) (q.take (below key q) ++ key :: q.drop (below key q))
set_option maxRecDepth 100000 in
theorem ins_bulk (l : List V) (i : Nat) (x : V) : V.bulk.go (l.take i ++ x :: l.drop i) = V.bulk.go l + x.bulk := by
  rw [bulkL_append, V.bulk.go]
  have h1 : V.bulk.go l = V.bulk.go (l.take i) + V.bulk.go (l.drop i) := by rw [← bulkL_append, List.take_append_drop]
  omega
set_option maxRecDepth 100000 in
theorem ins_rising {key : ByteArray} {q : List ByteArray} (hq : Rising q) (h : key ∉ q) : Rising (q.take (below key q) ++ key :: q.drop (below key q)) := by
  have := insKeys_rising key q hq
  unfold insKeys at this
  rw [if_neg (by rw [hasAt_notin h]; simp)] at this
  simpa using this
set_option maxRecDepth 100000 in
theorem putAt_get {α : Type} (l : List α) (i j : Nat) (x : α) (hi : i ≤ l.length) : (putAt l i x)[j]? = if j = i then some x else l[j]? := by
  unfold putAt
  split
  · rename_i h
    rw [List.getElem?_set]
    by_cases h1 : i = j
    · subst h1; simp [h]
    · rw [if_neg h1, if_neg (Ne.symm h1)]
  · have : i = l.length := by omega
    subst this
    rw [List.getElem?_append]
    by_cases h1 : j < l.length
    · rw [if_pos h1, if_neg (by omega)]
    · rw [if_neg h1]
      by_cases h2 : j = l.length
      · subst h2; simp
      · rw [if_neg h2, List.getElem?_eq_none (by simp; omega), List.getElem?_eq_none (by omega)]
set_option maxRecDepth 100000 in
theorem insAt_get {α : Type} (l : List α) (i j : Nat) (x : α) (hi : i ≤ l.length) : (l.take i ++ x :: l.drop i)[i]? = some x ∧ (l.take i ++ x :: l.drop i)[if j < i then j else j + 1]? = l[j]? := by
  have e : (l.take i).length = i := by simp; omega
  refine ⟨by rw [List.getElem?_append_right (by omega), e]; simp, ?_⟩
  by_cases h : j < i
  · rw [if_pos h, List.getElem?_append_left (by omega), List.getElem?_take, if_pos h]
  · rw [if_neg h, List.getElem?_append_right (by omega), e, show j + 1 - i = (j - i) + 1 from by omega, List.getElem?_cons_succ, List.getElem?_drop]
    congr 1; omega
set_option maxRecDepth 100000 in
theorem posK_some {q : List ByteArray} (hn : q.Nodup) {j : Nat} {k : ByteArray} (h : q[j]? = some k) : posK q k = j := by
  obtain ⟨hj, rfl⟩ := List.getElem?_eq_some_iff.1 h
  exact posK_nodup hn hj
set_option maxRecDepth 100000 in
theorem posK_get {q : List ByteArray} {k : ByteArray} (h : k ∈ q) : q[posK q k]? = some k := by
  rw [List.getElem?_eq_getElem (posK_lt h), posK_at h]
set_option maxRecDepth 100000 in
/-- What a Map with another value of a key has of that key, and of others. -/
theorem mapPut_k (l : List V) (q : List ByteArray) (key : ByteArray) (x : V) : (mapPut l q key x).k = 7 := by
  unfold mapPut; split <;> rfl
set_option maxRecDepth 100000 in
theorem mapPut_at (l : List V) (q : List ByteArray) (hq : q.length = l.length) (hr : Rising q) (key : ByteArray) (x : V) :
    (mapPut l q key x).hasK key = true ∧ (mapPut l q key x).under key = x := by
  unfold mapPut
  by_cases h : (V.mk 7 false 0 0 ByteArray.empty l q).hasK key = true
  · rw [if_pos h]
    have hm := (hasK_mem _ _).1 h
    have hp := posK_lt hm
    have h1 : (V.map (putAt l (posK q key) x) q).hasK key = true := (hasK_mem _ _).2 hm
    refine ⟨h1, ?_⟩
    rw [under_yes h1]
    show (putAt l (posK q key) x)[posK q key]?.getD V.null = x
    simp only at hp
    rw [putAt_get _ _ _ _ (by omega), if_pos rfl]; rfl
  · rw [if_neg h]
    have hm : key ∉ q := fun hm => h ((hasK_mem _ _).2 hm)
    have hn := (ins_rising hr hm).nodup
    have hb := below_le key q
    have h1 : (V.map (l.take (below key q) ++ x :: l.drop (below key q)) (q.take (below key q) ++ key :: q.drop (below key q))).hasK key = true := (hasK_mem _ _).2 (by show key ∈ _; simp [V.map])
    refine ⟨h1, ?_⟩
    rw [under_yes h1]
    show (l.take (below key q) ++ x :: l.drop (below key q))[posK (q.take (below key q) ++ key :: q.drop (below key q)) key]?.getD V.null = x
    rw [posK_some hn (insAt_get q (below key q) 0 key hb).1, (insAt_get l (below key q) 0 x (by omega)).1]; rfl
set_option maxRecDepth 100000 in
theorem mapPut_other (l : List V) (q : List ByteArray) (hq : q.length = l.length) (hr : Rising q) (key : ByteArray) (x : V) {k2 : ByteArray} (hne : k2 ≠ key) :
    (mapPut l q key x).hasK k2 = (V.mk 7 false 0 0 ByteArray.empty l q).hasK k2 ∧ (mapPut l q key x).under k2 = (V.mk 7 false 0 0 ByteArray.empty l q).under k2 := by
  have H : (mapPut l q key x).hasK k2 = (V.mk 7 false 0 0 ByteArray.empty l q).hasK k2 := by
    rw [Bool.eq_iff_iff, hasK_mem, hasK_mem]
    unfold mapPut
    split
    · rfl
    · show k2 ∈ q.take (below key q) ++ key :: q.drop (below key q) ↔ k2 ∈ q
      have e : k2 ∈ q ↔ k2 ∈ q.take (below key q) ++ q.drop (below key q) := by rw [List.take_append_drop]
      rw [e]
      simp only [List.mem_append, List.mem_cons]
      constructor
      · rintro (h | h | h)
        · exact Or.inl h
        · exact absurd h hne
        · exact Or.inr h
      · rintro (h | h)
        · exact Or.inl h
        · exact Or.inr (Or.inr h)
  refine ⟨H, ?_⟩
  cases h2 : (V.mk 7 false 0 0 ByteArray.empty l q).hasK k2
  · rw [under_no h2, under_no (H.trans h2)]
  · rw [under_yes h2, under_yes (H.trans h2)]
    have hm2 : k2 ∈ q := (hasK_mem _ _).1 h2
    unfold mapPut
    split
    · rename_i h
      have hm := (hasK_mem _ _).1 h
      have hp := posK_lt hm
      show (putAt l (posK q key) x)[posK q k2]?.getD V.null = l[posK q k2]?.getD V.null
      simp only at hp hm
      rw [putAt_get _ _ _ _ (by omega), if_neg]
      intro e
      have h3 := posK_get hm2
      rw [e, posK_get hm] at h3
      exact hne (by injection h3 with h3; exact h3.symm)
    · rename_i h
      have hm : key ∉ q := fun hm => h ((hasK_mem _ _).2 hm)
      have hn := (ins_rising hr hm).nodup
      have hb := below_le key q
      show (l.take (below key q) ++ x :: l.drop (below key q))[posK (q.take (below key q) ++ key :: q.drop (below key q)) k2]?.getD V.null = l[posK q k2]?.getD V.null
      have h3 := (insAt_get q (below key q) (posK q k2) key hb).2
      rw [posK_get hm2] at h3
      rw [posK_some hn h3, (insAt_get l (below key q) (posK q k2) x (by omega)).2]
set_option maxRecDepth 100000 in
theorem mapPut_cl (l : List V) (q : List ByteArray) (hq : q.length = l.length) (hr : Rising q) (hl : ∀ y ∈ l, y.cl) (key : ByteArray) {x : V} (hx : x.cl) : (mapPut l q key x).cl := by
  unfold mapPut
  split
  · rename_i h
    have hm := (hasK_mem _ _).1 h
    have hp := posK_lt hm
    simp only at hp
    unfold V.map
    simp only [V.cl]
    refine ⟨by omega, by simp, by simp, by simp, by simp, by simp, by simp, fun _ => ⟨?_, hr⟩, by simp, clL_of ?_⟩
    · rw [putAt_len, if_pos (by omega)]; exact hq
    · intro y hy
      unfold putAt at hy
      rw [if_pos (by omega)] at hy
      exact (List.mem_or_eq_of_mem_set hy).elim (hl y) (fun e => by rw [e]; exact hx)
  · rename_i h
    have hm : key ∉ q := fun hm => h ((hasK_mem _ _).2 hm)
    have hb := below_le key q
    unfold V.map
    simp only [V.cl]
    refine ⟨by omega, by simp, by simp, by simp, by simp, by simp, by simp, fun _ => ⟨?_, ins_rising hr hm⟩, by simp, clL_of ?_⟩
    · simp; omega
    · intro y hy
      rcases List.mem_append.1 hy with h1 | h1
      · exact hl y (List.mem_of_mem_take h1)
      · rcases List.mem_cons.1 h1 with rfl | h1
        · exact hx
        · exact hl y (List.mem_of_mem_drop h1)
/-- A value with another one, where a step leads. -/
def V.put (v x : V) (s : St) : V × Int :=
  if s.byKey = true then (if v.k = 7 then (mapPut v.l v.keys s.key x, 0) else (V.null, 6))
  else if v.k = 6 then (if s.at_ ≤ v.l.length then (V.list (putAt v.l s.at_.toNat x), 0) else (V.null, 2)) else (V.null, 6)
/-- A value with another one, where steps lead. -/
def V.withR (v x : V) : List St → V × Int
  | [] => (x, 0)
  | s :: r => if r.isEmpty = true then v.put x s else if (v.follow s).2 = 0 then (if ((v.follow s).1.withR x r).2 = 0 then v.put ((v.follow s).1.withR x r).1 s else (V.null, ((v.follow s).1.withR x r).2)) else (V.null, (v.follow s).2)
set_option maxRecDepth 100000 in
theorem cl_map {v : V} (h : v.cl) (hk : v.k = 7) : v = V.map v.l v.keys ∧ v.keys.length = v.l.length ∧ Rising v.keys ∧ ∀ y ∈ v.l, y.cl := by
  obtain ⟨k, b, n, m, s, l, q⟩ := v
  simp only at hk
  subst hk
  simp only [V.cl] at h
  obtain ⟨-, h1, h2, h3, h4, -, -, h5, -, h6⟩ := h
  obtain ⟨h7, h8⟩ := h5 trivial
  refine ⟨?_, h7, h8, fun y hy => clL_mem h6 hy⟩
  rw [h1 (by decide), h2 (by decide) (by decide), h3 (by decide), h4 (by decide)]; rfl
set_option maxRecDepth 100000 in
theorem cl_list {v : V} (h : v.cl) (hk : v.k = 6) : v = V.list v.l ∧ ∀ y ∈ v.l, y.cl := by
  obtain ⟨k, b, n, m, s, l, q⟩ := v
  simp only at hk
  subst hk
  simp only [V.cl] at h
  obtain ⟨-, h1, h2, h3, h4, -, h0, -, -, h6⟩ := h
  refine ⟨?_, fun y hy => clL_mem h6 hy⟩
  rw [h1 (by decide), h2 (by decide) (by decide), h3 (by decide), h4 (by decide), h0 (by decide)]; rfl
set_option maxRecDepth 100000 in
theorem put_cl {v x : V} (h : v.cl) (hx : x.cl) (s : St) : (v.put x s).1.cl := by
  have h0 : V.null.cl := by simp [V.null, V.cl, V.cl.go]
  unfold V.put
  split
  · split
    · rename_i hk
      obtain ⟨-, h1, h2, h3⟩ := cl_map h hk
      exact mapPut_cl _ _ h1 h2 h3 _ hx
    · exact h0
  · split
    · rename_i hk
      obtain ⟨-, h3⟩ := cl_list h hk
      split
      · rename_i hi
        unfold V.list
        simp only [V.cl]
        refine ⟨by omega, by simp, by simp, by simp, by simp, by simp, by simp, by simp, by simp, clL_of ?_⟩
        intro y hy
        unfold putAt at hy
        split at hy
        · exact (List.mem_or_eq_of_mem_set hy).elim (h3 y) (fun e => by rw [e]; exact hx)
        · rcases List.mem_append.1 hy with h1 | h1
          · exact h3 y h1
          · simp at h1; subst h1; exact hx
      · exact h0
    · exact h0
set_option maxRecDepth 100000 in
theorem follow_cl {v : V} (h : v.cl) (s : St) : (v.follow s).1.cl := by
  have h0 : V.null.cl := by simp [V.null, V.cl, V.cl.go]
  have hg : ∀ (l : List V) (i : Nat), (∀ y ∈ l, y.cl) → (l[i]?.getD V.null).cl := fun l i hl => by
    cases h1 : l[i]? with
    | none => exact h0
    | some y => exact hl y (List.mem_of_getElem? h1)
  unfold V.follow
  split
  · split
    · rename_i hk
      obtain ⟨-, h1, h2, h3⟩ := cl_map h hk
      split
      · unfold V.under
        split
        · exact hg _ _ h3
        · exact h0
      · exact h0
    · exact h0
  · split
    · rename_i hk
      obtain ⟨-, h3⟩ := cl_list h hk
      split
      · exact hg _ _ h3
      · exact h0
    · exact h0
set_option maxRecDepth 100000 in
theorem put_map {v x : V} {s : St} (hb : s.byKey = true) (hk : v.k = 7) : v.put x s = (mapPut v.l v.keys s.key x, 0) := by
  unfold V.put; rw [if_pos hb, if_pos hk]
set_option maxRecDepth 100000 in
theorem put_list {v x : V} {s : St} (hb : s.byKey = false) (hk : v.k = 6) : v.put x s = if s.at_ ≤ v.l.length then (V.list (putAt v.l s.at_.toNat x), 0) else (V.null, 2) := by
  unfold V.put; rw [if_neg (by rw [hb]; simp), if_pos hk]
set_option maxRecDepth 100000 in
theorem put_kind {v x : V} {s : St} (h0 : (v.put x s).2 = 0) : (s.byKey = true → v.k = 7) ∧ (s.byKey = false → v.k = 6 ∧ s.at_ ≤ v.l.length) := by
  refine ⟨fun hb => ?_, fun hb => ?_⟩
  · unfold V.put at h0
    rw [if_pos hb] at h0
    by_cases hk : v.k = 7
    · exact hk
    · rw [if_neg hk] at h0; cases h0
  · unfold V.put at h0
    rw [if_neg (by rw [hb]; simp)] at h0
    by_cases hk : v.k = 6
    · refine ⟨hk, ?_⟩
      rw [if_pos hk] at h0
      by_cases hi : s.at_ ≤ v.l.length
      · exact hi
      · rw [if_neg hi] at h0; cases h0
    · rw [if_neg hk] at h0; cases h0
set_option maxRecDepth 100000 in
theorem follow_map {v : V} {t : St} (hb : t.byKey = true) (hk : v.k = 7) : v.follow t = if v.hasK t.key = true then (v.under t.key, 0) else (V.null, 8) := by
  unfold V.follow; rw [if_pos hb, if_pos hk]
set_option maxRecDepth 100000 in
theorem follow_list {v : V} {t : St} (hb : t.byKey = false) (hk : v.k = 6) : v.follow t = if t.at_ < v.l.length then (v.item t.at_, 0) else (V.null, 2) := by
  unfold V.follow; rw [if_neg (by rw [hb]; simp), if_pos hk]
set_option maxRecDepth 100000 in
theorem follow_kind {v : V} {t : St} (h0 : (v.follow t).2 = 0) : (t.byKey = true → v.k = 7) ∧ (t.byKey = false → v.k = 6 ∧ t.at_ < v.l.length) := by
  refine ⟨fun hb => ?_, fun hb => ?_⟩
  · unfold V.follow at h0
    rw [if_pos hb] at h0
    by_cases hk : v.k = 7
    · exact hk
    · rw [if_neg hk] at h0; cases h0
  · unfold V.follow at h0
    rw [if_neg (by rw [hb]; simp)] at h0
    by_cases hk : v.k = 6
    · refine ⟨hk, ?_⟩
      rw [if_pos hk] at h0
      by_cases hi : t.at_ < v.l.length
      · exact hi
      · rw [if_neg hi] at h0; cases h0
    · rw [if_neg hk] at h0; cases h0
set_option maxRecDepth 100000 in
theorem put_follow {v x : V} (h : v.cl) (s : St) (h0 : (v.put x s).2 = 0) : (v.put x s).1.follow s = (x, 0) := by
  cases hb : s.byKey
  · obtain ⟨hk, hi⟩ := (put_kind h0).2 hb
    have hp : 0 ≤ s.at_ := byKey_at hb
    rw [put_list hb hk, if_pos hi, follow_list hb rfl]
    have e : (V.list (putAt v.l s.at_.toNat x)).l = putAt v.l s.at_.toNat x := rfl
    have h4 : s.at_ < (putAt v.l s.at_.toNat x).length := by rw [putAt_len]; split <;> omega
    unfold V.item
    rw [e, if_pos h4, putAt_get _ _ _ _ (by omega), if_pos rfl]; rfl
  · have hk := (put_kind h0).1 hb
    obtain ⟨-, h1, h2, -⟩ := cl_map h hk
    obtain ⟨a, b⟩ := mapPut_at v.l v.keys h1 h2 s.key x
    rw [put_map hb hk, follow_map hb (mapPut_k _ _ _ _)]
    simp only [a, b, if_true]
set_option maxRecDepth 100000 in
theorem toList_nil {b : ByteArray} (h : b.toList.isEmpty = true) : b = ByteArray.empty := by
  obtain ⟨d⟩ := b
  rw [ByteArray.toList_eq] at h
  have : d = #[] := by simpa using h
  subst this; rfl
set_option maxRecDepth 100000 in
theorem put_other {v x : V} (h : v.cl) (s t : St) (h0 : (v.put x s).2 = 0) (ht : (v.follow t).2 = 0) (hne : s ≠ t) (hl : s.key ≠ t.key ∨ s.key = ByteArray.empty ∧ 0 ≤ s.at_ ∧ 0 ≤ t.at_) : (v.put x s).1.follow t = v.follow t := by
  have key0 : ∀ {u : St}, u.byKey = false → u.key = ByteArray.empty := fun {u} hu => by
    unfold St.byKey at hu
    rw [Bool.or_eq_false_iff] at hu
    exact toList_nil (by simpa using hu.1)
  cases hb : s.byKey
  · obtain ⟨hk, hi⟩ := (put_kind h0).2 hb
    cases hbt : t.byKey
    · obtain ⟨-, ht2⟩ := (follow_kind ht).2 hbt
      have hp : 0 ≤ s.at_ := byKey_at hb
      have hp2 : 0 ≤ t.at_ := byKey_at hbt
      have hat : t.at_ ≠ s.at_ := fun e => hne (by
        have k1 := key0 hb
        have k2 := key0 hbt
        obtain ⟨a, i⟩ := s
        obtain ⟨b, j⟩ := t
        simp only at k1 k2 e
        rw [k1, k2, e])
      rw [put_list hb hk, if_pos hi, follow_list hbt rfl, follow_list hbt hk]
      have e : (V.list (putAt v.l s.at_.toNat x)).l = putAt v.l s.at_.toNat x := rfl
      have h4 : t.at_ < (putAt v.l s.at_.toNat x).length := by rw [putAt_len]; split <;> omega
      unfold V.item
      rw [e, if_pos h4, if_pos ht2, putAt_get _ _ _ _ (by omega), if_neg (by omega)]
    · have h7 := (follow_kind ht).1 hbt
      omega
  · have hk := (put_kind h0).1 hb
    cases hbt : t.byKey
    · have h6 := ((follow_kind ht).2 hbt).1
      omega
    · obtain ⟨he, h1, h2, -⟩ := cl_map h hk
      have hkey : t.key ≠ s.key := by
        rcases hl with hl | ⟨hl, h3, -⟩
        · exact fun e => hl e.symm
        · exfalso
          unfold St.byKey at hb
          rw [hl, Bool.or_eq_true] at hb
          rcases hb with hb | hb
          · rw [ByteArray.toList_eq] at hb; cases hb
          · have := of_decide_eq_true hb; omega
      obtain ⟨a, b⟩ := mapPut_other v.l v.keys h1 h2 s.key x hkey
      have e1 : v.hasK t.key = (V.mk 7 false 0 0 ByteArray.empty v.l v.keys).hasK t.key := rfl
      have e2 : v.under t.key = (V.mk 7 false 0 0 ByteArray.empty v.l v.keys).under t.key := rfl
      rw [put_map hb hk, follow_map hbt (mapPut_k _ _ _ _), follow_map hbt hk, a, b, e1, e2]
set_option maxRecDepth 100000 in
/-- What a value with another one where steps lead is made of: the step's own. -/
theorem withR_cons {v x : V} {s : St} {r : List St} (h0 : (v.withR x (s :: r)).2 = 0) : ∃ y, v.withR x (s :: r) = v.put y s ∧ (v.put y s).2 = 0 ∧ (r = [] → y = x) ∧ (r ≠ [] → (v.follow s).2 = 0 ∧ (v.follow s).1.withR x r = (y, 0)) := by
  cases r with
  | nil => exact ⟨x, rfl, h0, fun _ => rfl, fun h => absurd rfl h⟩
  | cons t r =>
    rw [V.withR] at h0 ⊢
    rw [if_neg (by simp)] at h0 ⊢
    by_cases h1 : (v.follow s).2 = 0
    · rw [if_pos h1] at h0 ⊢
      by_cases h2 : ((v.follow s).1.withR x (t :: r)).2 = 0
      · rw [if_pos h2] at h0 ⊢
        exact ⟨_, rfl, h0, fun h => (by cases h), fun _ => ⟨h1, Prod.ext rfl h2⟩⟩
      · rw [if_neg h2] at h0
        exact absurd h0 h2
    · rw [if_neg h1] at h0
      exact absurd h0 h1
set_option maxRecDepth 100000 in
theorem withR_cl {x : V} (hx : x.cl) : ∀ (l : List St) {v : V}, v.cl → (v.withR x l).1.cl
  | [], v, h => hx
  | s :: r, v, h => by
    have h0 : V.null.cl := by simp [V.null, V.cl, V.cl.go]
    unfold V.withR
    split
    · exact put_cl h hx s
    · split
      · split
        · exact put_cl h (withR_cl hx r (follow_cl h s)) s
        · exact h0
      · exact h0
set_option maxRecDepth 100000 in
/-- What is put in is there. -/
theorem withR_goTo {x : V} : ∀ (l : List St) {v : V}, v.cl → x.cl → (v.withR x l).2 = 0 → (v.withR x l).1.goTo l = (x, 0)
  | [], v, h, hx, h0 => rfl
  | s :: r, v, h, hx, h0 => by
    obtain ⟨y, e, h1, h2, h3⟩ := withR_cons h0
    rw [e]
    have hf := put_follow h s h1
    unfold V.goTo
    rw [hf]
    simp only [if_true]
    by_cases hr : r = []
    · subst hr; rw [h2 rfl]; rfl
    · obtain ⟨h4, h5⟩ := h3 hr
      have ih := withR_goTo r (follow_cl h s) hx (by rw [h5])
      rw [h5] at ih
      exact ih
set_option maxRecDepth 100000 in
/-- A way that parts leads where it led. -/
theorem withR_part {x : V} (hx : x.cl) (s t : St) (l k : List St) (hne : s ≠ t) (hl : s.key ≠ t.key ∨ s.key = ByteArray.empty ∧ 0 ≤ s.at_ ∧ 0 ≤ t.at_) : ∀ (p : List St) {v : V}, v.cl → (v.withR x (p ++ s :: l)).2 = 0 → (v.goTo (p ++ t :: k)).2 = 0 → (v.withR x (p ++ s :: l)).1.goTo (p ++ t :: k) = v.goTo (p ++ t :: k)
  | [], v, h, h0, hg => by
    simp only [List.nil_append] at *
    obtain ⟨y, e, h1, -, -⟩ := withR_cons h0
    have ht : (v.follow t).2 = 0 := by
      unfold V.goTo at hg
      split at hg
      · rename_i h2; exact h2
      · exact hg
    rw [e, V.goTo, V.goTo, put_other h s t h1 ht hne hl]
  | a :: p, v, h, h0, hg => by
    simp only [List.cons_append] at *
    obtain ⟨y, e, h1, -, h3⟩ := withR_cons h0
    obtain ⟨h4, h5⟩ := h3 (by simp)
    rw [e, V.goTo, put_follow h a h1, V.goTo, h4]
    simp only [if_true]
    rw [V.goTo, h4] at hg
    simp only [if_true] at hg
    have ih := withR_part hx s t l k hne hl p (follow_cl h a) (by rw [h5]) hg
    rw [h5] at ih
    exact ih
end Go.Proofs.Ytigdcnoggjcddaa

