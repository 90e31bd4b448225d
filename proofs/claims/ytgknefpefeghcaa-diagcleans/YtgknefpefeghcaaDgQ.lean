/- What diag.Clean gives, in plain mathematics: short, plain, no two the same; clean already. No conditions; no function of the program. -/
import Derived.Test.YtgknefpefeghcaaDgO
namespace Go.Proofs.Ytgknefpefeghcaa

/-- A text that every screen shows. -/
def Plain (s : ByteArray) : Prop := ∀ c ∈ s.data.toList, ¬ (c.toNat < 32 ∨ 126 < c.toNat)
set_option maxRecDepth 100000 in
theorem plainB_ok (c : UInt8) : ¬ ((plainB c).toNat < 32 ∨ 126 < (plainB c).toNat) := by
  unfold plainB
  by_cases h : c.toNat < 32 ∨ 126 < c.toNat
  · rw [if_pos h]; decide
  · rw [if_neg h]; exact h
set_option maxRecDepth 100000 in
theorem plainT_plain (s : ByteArray) : Plain (plainT s) := by
  intro c hc
  have hc : c ∈ (s.data.toList.map plainB).toArray.toList := hc
  rw [List.toList_toArray] at hc
  obtain ⟨x, -, rfl⟩ := List.mem_map.1 hc
  exact plainB_ok x
set_option maxRecDepth 100000 in
theorem plainT_id {s : ByteArray} (h : Plain s) : plainT s = s := by
  apply ByteArray.ext
  apply Array.ext'
  show (s.data.toList.map plainB).toArray.toList = _
  rw [List.toList_toArray]
  have : ∀ l : List UInt8, (∀ c ∈ l, ¬ (c.toNat < 32 ∨ 126 < c.toNat)) → l.map plainB = l := by
    intro l
    induction l with
    | nil => intro _; rfl
    | cons c r ih =>
      intro hl
      rw [List.map_cons, ih (fun x hx => hl x (List.mem_cons_of_mem _ hx))]
      unfold plainB
      rw [if_neg (hl c List.mem_cons_self)]
  exact this _ h
set_option maxRecDepth 100000 in
theorem textB_plain (c : ByteArray) : Plain (textB c) := by
  unfold textB
  by_cases h : 80 < c.size
  · rw [if_pos h]
    intro x hx
    rw [ByteArray.data_append, Array.toList_append, List.mem_append] at hx
    rcases hx with hx | hx
    · exact plainT_plain _ x hx
    · have : x = 46 := by
        have hx : x ∈ [(46 : UInt8), 46, 46] := hx
        simp at hx; exact hx
      subst this; decide
  · rw [if_neg h]
    exact plainT_plain c
set_option maxRecDepth 100000 in
theorem textB_zero {c : ByteArray} (h : (textB c).size = 0) : c.size = 0 := by
  unfold textB at h
  by_cases h8 : 80 < c.size
  · rw [if_pos h8, ByteArray.size_append] at h
    have : (⟨#[46, 46, 46]⟩ : ByteArray).size = 3 := rfl
    omega
  · rw [if_neg h8, plainT_size] at h
    exact h
set_option maxRecDepth 100000 in
theorem clean_pos {M : List (List Int)} {t : List Int} (h : t ≠ []) : cleanS M t ≠ [] := by
  cases t with
  | nil => exact absurd rfl h
  | cons b r =>
    by_cases hm : 0 < mx M (b :: r)
    · rw [clean_hit hm]; simp
    · rw [clean_miss (by omega)]; simp
set_option maxRecDepth 100000 in
theorem strN_size (l : List Int) : (strN l).size = l.length := by
  show (l.map _).toArray.size = _
  simp
/-- A clean note. -/
def Good (x : ByteArray) : Prop := Plain x ∧ x.size ≤ 80 ∧ x.size ≠ 0
set_option maxRecDepth 100000 in
theorem textD_good {s : List ByteArray} {T : ByteArray} (h : T.size ≠ 0) : Good (textD s T) := by
  refine ⟨textB_plain _, textB_size _, fun e => ?_⟩
  have e1 := textB_zero e
  rw [strN_size] at e1
  exact clean_pos (M := sec s) (t := bsI T) (fun e2 => h (by rw [← bsI_len, e2]; rfl)) (List.eq_nil_of_length_eq_zero e1)
set_option maxRecDepth 100000 in
theorem textD_id {x : ByteArray} (h : Good x) : textD [] x = x := by
  unfold textD
  rw [show sec [] = [] by rfl, clean_none, strN_bsI]
  unfold textB
  rw [if_neg (by have := h.2.1; omega), plainT_id h.1]
set_option maxRecDepth 100000 in
theorem go_good (s : List ByteArray) : ∀ (l seen out : List (Bool × ByteArray)), (∀ x ∈ out, Good x.2) → out.Nodup → out.length ≤ 8 → (∀ x ∈ cleanGo s l seen out, Good x.2) ∧ (cleanGo s l seen out).Nodup ∧ (cleanGo s l seen out).length ≤ 8
  | [], seen, out, h1, h2, h3 => ⟨h1, h2, h3⟩
  | n :: r, seen, out, h1, h2, h3 => by
    by_cases hk : memN n seen = true ∨ n.2.size = 0
    · rw [go_skip hk]; exact go_good s r seen out h1 h2 h3
    · by_cases h8 : out.length = 8
      · rw [go_full hk h8]; exact ⟨h1, h2, h3⟩
      · by_cases hm : memN (n.1, textD s n.2) out = true
        · rw [go_old hk h8 hm]; exact go_good s r (n :: seen) out h1 h2 h3
        · rw [go_new hk h8 hm]
          refine go_good s r (n :: seen) _ (fun x hx => ?_) ?_ (by simp; omega)
          · rcases List.mem_append.1 hx with hx | hx
            · exact h1 x hx
            · simp only [List.mem_singleton] at hx
              subst hx
              exact textD_good (fun e => hk (Or.inr e))
          · rw [List.nodup_append]
            refine ⟨h2, by simp, fun a ha b hb e => ?_⟩
            simp only [List.mem_singleton] at hb
            subst hb
            subst e
            exact hm ((memN_iff _ _).2 ha)
set_option maxRecDepth 100000 in
theorem go_again : ∀ (l out seen : List (Bool × ByteArray)), (out ++ l).Nodup → (∀ x ∈ l, Good x.2) → (∀ x ∈ seen, x ∈ out) → (out ++ l).length ≤ 8 → cleanGo [] l seen out = out ++ l
  | [], out, seen, _, _, _, _ => by simp [cleanGo]
  | n :: r, out, seen, h1, h2, h3, h4 => by
    have hno : n ∉ out := by
      intro hn
      rw [List.nodup_append] at h1
      exact h1.2.2 n hn n List.mem_cons_self rfl
    have hg := h2 n List.mem_cons_self
    have hid : textD [] n.2 = n.2 := textD_id hg
    have hlen : out.length + (r.length + 1) ≤ 8 := by simpa using h4
    have hm : ¬ memN (n.1, textD [] n.2) out = true := by
      rw [hid]
      exact fun h => hno ((memN_iff _ _).1 h)
    have hns : ¬ (memN n seen = true ∨ n.2.size = 0) := fun h => h.elim (fun h => hno (h3 n ((memN_iff _ _).1 h))) (fun h => hg.2.2 h)
    rw [go_new hns (by omega) hm, hid]
    have e : (out ++ [(n.1, n.2)]) ++ r = out ++ n :: r := by simp
    rw [go_again r (out ++ [(n.1, n.2)]) (n :: seen) (by rw [e]; exact h1) (fun x hx => h2 x (List.mem_cons_of_mem _ hx)) (fun x hx => ?_) (by rw [e]; exact h4), e]
    rcases List.mem_cons.1 hx with rfl | hx
    · simp
    · exact List.mem_append_left _ (h3 x hx)
set_option maxRecDepth 100000 in
theorem go_twice (s : List ByteArray) (l : List (Bool × ByteArray)) : cleanGo [] (cleanGo s l [] []) [] [] = cleanGo s l [] [] := by
  obtain ⟨h1, h2, h3⟩ := go_good s l [] [] (fun x hx => by cases hx) List.nodup_nil (by simp)
  have := go_again (cleanGo s l [] []) [] [] (by simpa using h2) h1 (fun x hx => by cases hx) (by simpa using h3)
  simpa using this
end Go.Proofs.Ytgknefpefeghcaa
