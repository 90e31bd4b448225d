/- A tree of Aho and Corasick in plain mathematics: nodes by their bytes, read from their ends. No conditions; no function of the program. -/
import Derived.Test.YtgknefpefeghcaaRows
namespace Go.Proofs.Ytgknefpefeghcaa

/-- A node: its bytes, where it leads back, the longest secret that its bytes begin with. -/
structure Nd where
  lab : List Int
  back : Nat
  long : Nat
/-- The node k has the most bytes that s begins with. -/
def Best (N : List Nd) (s : List Int) (k : Nat) : Prop := ∃ (x : Nd), N[k]? = some x ∧ x.lab <+: s ∧ ∀ (j : Nat) (y : Nd), N[j]? = some y → y.lab <+: s → y.lab.length ≤ x.lab.length
/-- A tree that is right. -/
structure TreeOk (N : List Nd) : Prop where
  root : ∃ (x : Nd), N[0]? = some x ∧ x.lab = [] ∧ x.back = 0 ∧ x.long = 0
  once : ∀ (i j : Nat) (x y : Nd), N[i]? = some x → N[j]? = some y → x.lab = y.lab → i = j
  tail : ∀ (i : Nat) (x : Nd) (b : Int) (q : List Int), N[i]? = some x → x.lab = b :: q → ∃ (j : Nat) (y : Nd), N[j]? = some y ∧ y.lab = q
  back : ∀ (i : Nat) (x : Nd), N[i]? = some x → i ≠ 0 → ∃ (y : Nd), N[x.back]? = some y ∧ y.lab <+: x.lab ∧ y.lab.length < x.lab.length ∧ ∀ (j : Nat) (z : Nd), N[j]? = some z → z.lab <+: x.lab → z.lab.length < x.lab.length → z.lab.length ≤ y.lab.length
set_option maxRecDepth 100000 in
theorem prefix_len_eq {a b : List Int} (h : a <+: b) (hl : b.length ≤ a.length) : a = b := h.eq_of_length_le hl
set_option maxRecDepth 100000 in
theorem prefix_of_two {a b s : List Int} (ha : a <+: s) (hb : b <+: s) (hl : a.length ≤ b.length) : a <+: b := List.prefix_of_prefix_length_le ha hb hl
/-- Where a byte leads: the edge. -/
def EdgeTo (N : List Nd) (i : Nat) (b : Int) (j : Nat) : Prop := ∃ (x y : Nd), N[i]? = some x ∧ N[j]? = some y ∧ y.lab = b :: x.lab
set_option maxRecDepth 100000 in
theorem EdgeTo.one {N : List Nd} (h : TreeOk N) {i : Nat} {b : Int} {j k : Nat} (h1 : EdgeTo N i b j) (h2 : EdgeTo N i b k) : j = k := by
  obtain ⟨x, y, a1, a2, a3⟩ := h1
  obtain ⟨x', y', b1, b2, b3⟩ := h2
  rw [a1] at b1
  obtain rfl := Option.some.inj b1
  exact h.once _ _ _ _ a2 b2 (a3.trans b3.symm)
/-- Where follow stands: all that begins what is read, and has more bytes than this node, has no such edge. -/
def Foll (N : List Nd) (s : List Int) (b : Int) (k : Nat) : Prop := ∃ (x : Nd), N[k]? = some x ∧ x.lab <+: s ∧ ∀ (j : Nat) (y : Nd), N[j]? = some y → y.lab <+: s → x.lab.length < y.lab.length → ∀ t, ¬ EdgeTo N j b t
set_option maxRecDepth 100000 in
theorem Foll.start {N : List Nd} {s : List Int} {k : Nat} (h : Best N s k) (b : Int) : Foll N s b k := by
  obtain ⟨x, h1, h2, h3⟩ := h
  exact ⟨x, h1, h2, fun j y hj hy hl => absurd (h3 j y hj hy) (by omega)⟩
set_option maxRecDepth 100000 in
theorem Foll.hit {N : List Nd} (ht : TreeOk N) {s : List Int} {b : Int} {k t : Nat} (h : Foll N s b k) (he : EdgeTo N k b t) : Best N (b :: s) t := by
  obtain ⟨x, h1, h2, h3⟩ := h
  obtain ⟨x', y, e1, e2, e3⟩ := he
  rw [h1] at e1
  obtain rfl := Option.some.inj e1
  refine ⟨y, e2, by rw [e3]; exact List.cons_prefix_cons.2 ⟨rfl, h2⟩, fun j z hj hz => ?_⟩
  rw [e3]
  cases hl : z.lab with
  | nil => simp
  | cons c q =>
    rw [hl] at hz
    obtain ⟨rfl, hq⟩ := List.cons_prefix_cons.1 hz
    obtain ⟨j', z', hj', hz'⟩ := ht.tail j z c q hj hl
    rw [← hz'] at hq
    by_cases hc : x.lab.length < z'.lab.length
    · exact absurd ⟨z', z, hj', hj, by rw [hl, hz']⟩ (h3 j' z' hj' hq hc j)
    · rw [hz'] at hc
      simp only [List.length_cons]; omega
set_option maxRecDepth 100000 in
theorem Foll.root {N : List Nd} (ht : TreeOk N) {s : List Int} {b : Int} (h : Foll N s b 0) (he : ∀ t, ¬ EdgeTo N 0 b t) : Best N (b :: s) 0 := by
  obtain ⟨x, h1, h2, h3⟩ := h
  obtain ⟨r, r1, r2, -⟩ := ht.root
  rw [h1] at r1
  obtain rfl := Option.some.inj r1
  refine ⟨x, h1, by rw [r2]; exact List.nil_prefix, fun j z hj hz => ?_⟩
  cases hl : z.lab with
  | nil => simp
  | cons c q =>
    rw [hl] at hz
    obtain ⟨rfl, hq⟩ := List.cons_prefix_cons.1 hz
    obtain ⟨j', z', hj', hz'⟩ := ht.tail j z c q hj hl
    rw [← hz'] at hq
    by_cases hc : x.lab.length < z'.lab.length
    · exact absurd ⟨z', z, hj', hj, by rw [hl, hz']⟩ (h3 j' z' hj' hq hc j)
    · rw [r2] at hc
      have h0 : z'.lab = [] := List.eq_nil_of_length_eq_zero (by simp only [List.length_nil] at hc; omega)
      have : j' = 0 := ht.once _ _ _ _ hj' h1 (by rw [h0, r2])
      subst this
      rw [h1] at hj'
      obtain rfl := Option.some.inj hj'
      exact absurd ⟨x, z, h1, hj, by rw [hl, ← hz']⟩ (he j)
set_option maxRecDepth 100000 in
theorem Foll.step {N : List Nd} (ht : TreeOk N) {s : List Int} {b : Int} {k : Nat} (h : Foll N s b k) (hk : k ≠ 0) (he : ∀ t, ¬ EdgeTo N k b t) : ∃ (x : Nd), N[k]? = some x ∧ Foll N s b x.back ∧ ∃ (y : Nd), N[x.back]? = some y ∧ y.lab.length < x.lab.length := by
  obtain ⟨x, h1, h2, h3⟩ := h
  obtain ⟨y, y1, y2, y3, y4⟩ := ht.back k x h1 hk
  refine ⟨x, h1, ⟨y, y1, y2.trans h2, fun j z hj hz hl t => ?_⟩, y, y1, y3⟩
  by_cases hc : x.lab.length < z.lab.length
  · exact h3 j z hj hz hc t
  · by_cases hc2 : z.lab.length < x.lab.length
    · exact absurd (y4 j z hj (prefix_of_two hz h2 (by omega)) hc2) (by omega)
    · have e : z.lab = x.lab := prefix_len_eq (prefix_of_two hz h2 (by omega)) (by omega)
      have := ht.once _ _ _ _ hj h1 e
      subst this
      exact he t
set_option maxRecDepth 100000 in
/-- One more byte ahead. -/
theorem Best.cons {N : List Nd} (ht : TreeOk N) {s : List Int} {b : Int} {k r : Nat} {x : Nd} (hx : N[k]? = some x) (h : Best N s k) (hr : Best N (b :: x.lab) r) : Best N (b :: s) r := by
  obtain ⟨x', h1, h2, h3⟩ := h
  rw [hx] at h1
  obtain rfl := Option.some.inj h1
  obtain ⟨y, y1, y2, y3⟩ := hr
  refine ⟨y, y1, y2.trans (List.cons_prefix_cons.2 ⟨rfl, h2⟩), fun j z hj hz => ?_⟩
  cases hl : z.lab with
  | nil => simp
  | cons c q =>
    rw [hl] at hz
    obtain ⟨rfl, hq⟩ := List.cons_prefix_cons.1 hz
    obtain ⟨j', z', hj', hz'⟩ := ht.tail j z c q hj hl
    rw [← hz'] at hq
    have := h3 j' z' hj' hq
    have := y3 j z hj (by rw [hl]; exact List.cons_prefix_cons.2 ⟨rfl, by rw [← hz']; exact prefix_of_two hq h2 this⟩)
    rw [hl] at this
    exact this
/-- The longest of some texts that a text begins with. -/
def mx (M : List (List Int)) (s : List Int) : Nat := M.foldr (fun m n => if m <+: s then max m.length n else n) 0
set_option maxRecDepth 100000 in
theorem mx_cons (m : List Int) (M : List (List Int)) (s : List Int) : mx (m :: M) s = if m <+: s then max m.length (mx M s) else mx M s := rfl
set_option maxRecDepth 100000 in
theorem mx_le {M : List (List Int)} {s : List Int} {n : Nat} : mx M s ≤ n ↔ ∀ m ∈ M, m <+: s → m.length ≤ n := by
  induction M with
  | nil => simp [mx]
  | cons a r ih =>
    rw [mx_cons]
    constructor
    · intro h m hm hp
      rcases List.mem_cons.1 hm with rfl | hm
      · rw [if_pos hp] at h; omega
      · refine ih.1 ?_ m hm hp
        split at h <;> omega
    · intro h
      have h2 := ih.2 (fun m hm => h m (List.mem_cons_of_mem _ hm))
      split
      · rename_i hp
        have := h a (List.mem_cons_self ..) hp
        omega
      · exact h2
set_option maxRecDepth 100000 in
theorem mx_ge {M : List (List Int)} {s m : List Int} (hm : m ∈ M) (hp : m <+: s) : m.length ≤ mx M s := mx_le.1 (Nat.le_refl _) m hm hp
set_option maxRecDepth 100000 in
theorem mx_same {M M' : List (List Int)} {s s' : List Int} (h1 : ∀ m ∈ M, m <+: s → m ∈ M' ∧ m <+: s') (h2 : ∀ m ∈ M', m <+: s' → m ∈ M ∧ m <+: s) : mx M s = mx M' s' := by
  refine Nat.le_antisymm (mx_le.2 fun m hm hp => ?_) (mx_le.2 fun m hm hp => ?_)
  · obtain ⟨a, b⟩ := h1 m hm hp; exact mx_ge a b
  · obtain ⟨a, b⟩ := h2 m hm hp; exact mx_ge a b
/-- What each node knows of the secrets that were told by now; each of these is a node's. -/
structure Known (N : List Nd) (M : List (List Int)) : Prop where
  long : ∀ (i : Nat) (x : Nd), N[i]? = some x → x.long = mx M x.lab
  there : ∀ m ∈ M, ∃ (i : Nat) (x : Nd), N[i]? = some x ∧ x.lab = m
set_option maxRecDepth 100000 in
theorem Known.best {N : List Nd} {M : List (List Int)} (h : Known N M) {s : List Int} {k : Nat} {x : Nd} (hx : N[k]? = some x) (hb : Best N s k) : x.long = mx M s := by
  obtain ⟨x', h1, h2, h3⟩ := hb
  rw [hx] at h1
  obtain rfl := Option.some.inj h1
  rw [h.long k x hx]
  refine mx_same (fun m hm hp => ⟨hm, hp.trans h2⟩) (fun m hm hp => ⟨hm, ?_⟩)
  obtain ⟨i, y, hy, rfl⟩ := h.there m hm
  exact prefix_of_two hp h2 (h3 i y hy hp)
/-- All nodes have so many bytes at most. -/
def Upto (N : List Nd) (n : Nat) : Prop := ∀ (i : Nat) (x : Nd), N[i]? = some x → x.lab.length ≤ n
set_option maxRecDepth 100000 in
theorem get_snoc {N : List Nd} {e : Nd} {i : Nat} {x : Nd} (h : (N ++ [e])[i]? = some x) : N[i]? = some x ∨ i = N.length ∧ x = e := by
  by_cases hi : i < N.length
  · rw [List.getElem?_append_left hi] at h; exact Or.inl h
  · rw [List.getElem?_append_right (by omega)] at h
    by_cases h0 : i - N.length = 0
    · rw [h0] at h
      exact Or.inr ⟨by omega, (Option.some.inj h).symm⟩
    · rw [List.getElem?_eq_none (by simp; omega)] at h; cases h
set_option maxRecDepth 100000 in
theorem get_old {N : List Nd} {i : Nat} {x : Nd} (h : N[i]? = some x) (e : Nd) : (N ++ [e])[i]? = some x := by
  rw [List.getElem?_append_left (List.getElem?_eq_some_iff.1 h).1]; exact h
set_option maxRecDepth 100000 in
theorem get_new (N : List Nd) (e : Nd) : (N ++ [e])[N.length]? = some e := by simp
set_option maxRecDepth 100000 in
/-- A new node: its bytes are one more than another one's. -/
theorem TreeOk.grow {N : List Nd} (h : TreeOk N) {M : List (List Int)} (hM : Known N M) {r : Nat} (hu : Upto N (r + 1)) (hMr : ∀ m ∈ M, m.length ≤ r) {i : Nat} {x : Nd} (hx : N[i]? = some x) (hl : x.lab.length = r) {b : Int} (hno : ∀ t, ¬ EdgeTo N i b t)
    {k : Nat} {y : Nd} (hy : N[k]? = some y) (hp : y.lab <+: b :: x.lab) (hlt : y.lab.length < r + 1) (hbest : ∀ (j : Nat) (z : Nd), N[j]? = some z → z.lab <+: b :: x.lab → z.lab.length < r + 1 → z.lab.length ≤ y.lab.length) :
    TreeOk (N ++ [⟨b :: x.lab, k, y.long⟩]) ∧ Known (N ++ [⟨b :: x.lab, k, y.long⟩]) M ∧ Upto (N ++ [⟨b :: x.lab, k, y.long⟩]) (r + 1) := by
  refine ⟨⟨?_, ?_, ?_, ?_⟩, ⟨?_, ?_⟩, ?_⟩
  · obtain ⟨q, q1, q2⟩ := h.root
    exact ⟨q, get_old q1 _, q2⟩
  · intro a c u v ha hc huv
    rcases get_snoc ha with ha | ⟨rfl, rfl⟩ <;> rcases get_snoc hc with hc | ⟨rfl, rfl⟩
    · exact h.once _ _ _ _ ha hc huv
    · exact absurd ⟨x, u, hx, ha, huv⟩ (hno a)
    · exact absurd ⟨x, v, hx, hc, huv.symm⟩ (hno c)
    · rfl
  · intro a u c q ha hu2
    rcases get_snoc ha with ha | ⟨rfl, rfl⟩
    · obtain ⟨j, z, hj, hz⟩ := h.tail a u c q ha hu2
      exact ⟨j, z, get_old hj _, hz⟩
    · simp only [List.cons.injEq] at hu2
      exact ⟨i, x, get_old hx _, hu2.2⟩
  · intro a u ha ha0
    rcases get_snoc ha with ha | ⟨rfl, rfl⟩
    · obtain ⟨z, z1, z2, z3, z4⟩ := h.back a u ha ha0
      refine ⟨z, get_old z1 _, z2, z3, fun j v hj hv hvl => ?_⟩
      rcases get_snoc hj with hj | ⟨rfl, rfl⟩
      · exact z4 j v hj hv hvl
      · have := hu a u ha
        simp only [List.length_cons] at hvl
        omega
    · refine ⟨y, get_old hy _, hp, by simp only [List.length_cons]; omega, fun j v hj hv hvl => ?_⟩
      rcases get_snoc hj with hj | ⟨rfl, rfl⟩
      · exact hbest j v hj hv (by simp only [List.length_cons] at hvl; omega)
      · omega
  · intro a u ha
    rcases get_snoc ha with ha | ⟨rfl, rfl⟩
    · exact hM.long a u ha
    · show y.long = mx M (b :: x.lab)
      rw [hM.long k y hy]
      refine mx_same (fun m hm hq => ⟨hm, hq.trans hp⟩) (fun m hm hq => ⟨hm, ?_⟩)
      obtain ⟨j, z, hz, rfl⟩ := hM.there m hm
      exact prefix_of_two hq hp (hbest j z hz hq (by have := hMr _ hm; omega))
  · intro m hm
    obtain ⟨j, z, hz, e⟩ := hM.there m hm
    exact ⟨j, z, get_old hz _, e⟩
  · intro a u ha
    rcases get_snoc ha with ha | ⟨rfl, rfl⟩
    · exact hu a u ha
    · simp only [List.length_cons]; omega
set_option maxRecDepth 100000 in
/-- Where a byte leads from nodes that are led back to: the new node's way back. -/
theorem back_best {N : List Nd} (h : TreeOk N) {i : Nat} {x : Nd} (hx : N[i]? = some x) (hi : i ≠ 0) {b : Int} {z : Nd} (hz : N[x.back]? = some z) {k : Nat} (hb : Best N (b :: z.lab) k) :
    ∃ (y : Nd), N[k]? = some y ∧ y.lab <+: b :: x.lab ∧ y.lab.length < x.lab.length + 1 ∧ ∀ (j : Nat) (v : Nd), N[j]? = some v → v.lab <+: b :: x.lab → v.lab.length < x.lab.length + 1 → v.lab.length ≤ y.lab.length := by
  obtain ⟨z', z1, z2, z3, z4⟩ := h.back i x hx hi
  rw [hz] at z1
  obtain rfl := Option.some.inj z1
  obtain ⟨y, y1, y2, y3⟩ := hb
  have hyl := y2.length_le
  simp only [List.length_cons] at hyl
  refine ⟨y, y1, y2.trans (List.cons_prefix_cons.2 ⟨rfl, z2⟩), by omega, fun j v hj hv hvl => ?_⟩
  cases hl : v.lab with
  | nil => simp
  | cons c q =>
    rw [hl] at hv hvl
    obtain ⟨rfl, hq⟩ := List.cons_prefix_cons.1 hv
    obtain ⟨j', v', hj', hv'⟩ := h.tail j v c q hj hl
    rw [← hv'] at hq
    have h5 := z4 j' v' hj' hq (by rw [hv']; simp only [List.length_cons] at hvl; omega)
    have := y3 j v hj (by rw [hl]; exact List.cons_prefix_cons.2 ⟨rfl, by rw [← hv']; exact prefix_of_two hq z2 h5⟩)
    rw [hl] at this
    exact this
set_option maxRecDepth 100000 in
theorem root_best {N : List Nd} (h : TreeOk N) {x : Nd} (hx : N[0]? = some x) (b : Int) : ∃ (y : Nd), N[0]? = some y ∧ y.lab <+: b :: x.lab ∧ y.lab.length < x.lab.length + 1 ∧ ∀ (j : Nat) (v : Nd), N[j]? = some v → v.lab <+: b :: x.lab → v.lab.length < x.lab.length + 1 → v.lab.length ≤ y.lab.length := by
  obtain ⟨r, r1, r2, -⟩ := h.root
  rw [hx] at r1
  obtain rfl := Option.some.inj r1
  exact ⟨x, hx, by rw [r2]; exact List.nil_prefix, by omega, fun j v _ _ hl => by omega⟩
set_option maxRecDepth 100000 in
/-- A secret is told: the node that is the whole of it knows. -/
theorem Known.mark {N : List Nd} (h : TreeOk N) {M : List (List Int)} (hM : Known N M) {r : Nat} (hu : Upto N r) (hMr : ∀ m ∈ M, m.length ≤ r) {k : Nat} {x : Nd} (hx : N[k]? = some x) (hl : x.lab.length = r) (hk : k < N.length) :
    TreeOk (N.set k ⟨x.lab, x.back, r⟩) ∧ Known (N.set k ⟨x.lab, x.back, r⟩) (x.lab :: M) ∧ Upto (N.set k ⟨x.lab, x.back, r⟩) r := by
  have hget : ∀ (j : Nat) (z : Nd), (N.set k ⟨x.lab, x.back, r⟩)[j]? = some z → ∃ (z' : Nd), N[j]? = some z' ∧ z.lab = z'.lab ∧ z.back = z'.back ∧ (j = k ∧ z.long = r ∨ j ≠ k ∧ z.long = z'.long) := by
    intro j z hz
    by_cases e : j = k
    · subst e
      rw [List.getElem?_set_self hk] at hz
      obtain rfl := Option.some.inj hz
      exact ⟨x, hx, rfl, rfl, Or.inl ⟨rfl, rfl⟩⟩
    · rw [List.getElem?_set_ne (Ne.symm e)] at hz
      exact ⟨z, hz, rfl, rfl, Or.inr ⟨e, rfl⟩⟩
  have hput : ∀ (j : Nat) (z' : Nd), N[j]? = some z' → ∃ (z : Nd), (N.set k ⟨x.lab, x.back, r⟩)[j]? = some z ∧ z.lab = z'.lab ∧ z.back = z'.back ∧ (j ≠ k → z.long = z'.long) := by
    intro j z' hz
    by_cases e : j = k
    · subst e
      rw [hx] at hz
      obtain rfl := Option.some.inj hz
      exact ⟨_, List.getElem?_set_self hk, rfl, rfl, fun g => absurd rfl g⟩
    · exact ⟨z', by rw [List.getElem?_set_ne (Ne.symm e)]; exact hz, rfl, rfl, fun _ => rfl⟩
  refine ⟨⟨?_, ?_, ?_, ?_⟩, ⟨?_, ?_⟩, ?_⟩
  · obtain ⟨q, q1, q2, q3, q4⟩ := h.root
    obtain ⟨z, a1, a2, a3, a4⟩ := hput 0 q q1
    refine ⟨z, a1, a2.trans q2, a3.trans q3, ?_⟩
    by_cases e : 0 = k
    · subst e
      rw [hx] at q1
      obtain rfl := Option.some.inj q1
      obtain ⟨z', -, -, -, hz⟩ := hget _ _ a1
      rcases hz with ⟨-, hz⟩ | ⟨g, -⟩
      · rw [hz, ← hl, q2]; rfl
      · exact absurd rfl g
    · exact (a4 e).trans q4
  · intro a c u v ha hc huv
    obtain ⟨u', u1, u2, -⟩ := hget a u ha
    obtain ⟨v', v1, v2, -⟩ := hget c v hc
    exact h.once _ _ _ _ u1 v1 (by rw [← u2, ← v2, huv])
  · intro a u c q ha hq
    obtain ⟨u', u1, u2, -⟩ := hget a u ha
    obtain ⟨j, y, hj, hy⟩ := h.tail a u' c q u1 (by rw [← u2]; exact hq)
    obtain ⟨z, a1, a2, -⟩ := hput j y hj
    exact ⟨j, z, a1, a2.trans hy⟩
  · intro a u ha ha0
    obtain ⟨u', u1, u2, u3, -⟩ := hget a u ha
    obtain ⟨y, y1, y2, y3, y4⟩ := h.back a u' u1 ha0
    obtain ⟨z, a1, a2, -⟩ := hput _ _ y1
    refine ⟨z, by rw [u3]; exact a1, by rw [a2, u2]; exact y2, by rw [a2, u2]; exact y3, fun j v hj hv hvl => ?_⟩
    obtain ⟨v', v1, v2, -⟩ := hget j v hj
    rw [v2] at hv hvl ⊢
    rw [u2] at hv hvl
    rw [a2]
    exact y4 j v' v1 hv hvl
  · intro a u ha
    obtain ⟨u', u1, u2, -, hu3⟩ := hget a u ha
    rw [mx_cons]
    rcases hu3 with ⟨rfl, hu3⟩ | ⟨hne, hu3⟩
    · rw [hx] at u1
      obtain rfl := Option.some.inj u1
      rw [u2, if_pos (List.prefix_refl _), hu3, hl]
      have : mx M x.lab ≤ r := mx_le.2 (fun m hm _ => hMr m hm)
      omega
    · have hn : ¬ x.lab <+: u.lab := fun hp => hne (h.once _ _ _ _ u1 hx (by
        rw [← u2]
        exact (prefix_len_eq hp (by rw [hl, u2]; exact hu a u' u1)).symm))
      rw [if_neg hn, hu3, hM.long a u' u1, u2]
  · intro m hm
    rcases List.mem_cons.1 hm with rfl | hm
    · obtain ⟨z, a1, a2, -⟩ := hput k x hx
      exact ⟨k, z, a1, a2⟩
    · obtain ⟨j, y, hj, hy⟩ := hM.there m hm
      obtain ⟨z, a1, a2, -⟩ := hput j y hj
      exact ⟨j, z, a1, a2.trans hy⟩
  · intro a u ha
    obtain ⟨u', u1, u2, -⟩ := hget a u ha
    rw [u2]
    exact hu a u' u1
set_option maxRecDepth 100000 in
theorem tree_start : TreeOk [⟨[], 0, 0⟩] ∧ Known [⟨[], 0, 0⟩] [] ∧ Upto [⟨[], 0, 0⟩] 0 := by
  have hz : ∀ (i : Nat) (x : Nd), ([⟨[], 0, 0⟩] : List Nd)[i]? = some x → i = 0 ∧ x = ⟨[], 0, 0⟩ := by
    intro i x h
    match i, h with
    | 0, h => exact ⟨rfl, (Option.some.inj h).symm⟩
    | i + 1, h => simp at h
  refine ⟨⟨⟨_, rfl, rfl, rfl, rfl⟩, ?_, ?_, ?_⟩, ⟨?_, ?_⟩, ?_⟩
  · intro i j x y hi hj _
    rw [(hz i x hi).1, (hz j y hj).1]
  · intro i x b q hi hq
    rw [(hz i x hi).2] at hq
    cases hq
  · intro i x hi h0
    exact absurd (hz i x hi).1 h0
  · intro i x hi
    rw [(hz i x hi).2]
    rfl
  · intro m hm
    cases hm
  · intro i x hi
    rw [(hz i x hi).2]
    exact Nat.le_refl _
end Go.Proofs.Ytgknefpefeghcaa
