/- What the document's Bytes makes: a new row of the number's bytes. Condition: the number is a uint64. -/
import Derived.Test.YtkcnpdcgonengaaVarA
import Derived.Deep.DeepMust
namespace Go.Proofs.Ytkcnpdcgonengaa
open Go.RowKit

def boolN : Value → Nat | .bool true => 1 | _ => 0
/-- What is still to be laid. -/
def todo (fl : Bool) (f : Nat) (cur : Int) : List Int := if fl = true ∨ 0 < cur then encF (f + 1) cur else []
theorem todo_end (f : Nat) (cur : Int) (h : cur ≤ 0) : todo false f cur = [] := by
  have : ¬ 0 < cur := by omega
  simp [todo, this]
theorem todo_last (fl : Bool) (f : Nat) (cur : Int) (hgo : fl = true ∨ 0 < cur) (h : cur < 128) : todo fl f cur = [cur] := by
  rw [todo, if_pos hgo, encF_lt _ _ h]
theorem todo_more (fl : Bool) (f : Nat) (cur : Int) (h : 128 ≤ cur) (hp : cur < 128 ^ (f + 1)) :
    ∃ g, f = g + 1 ∧ todo fl f cur = (cur % 128 + 128) :: todo false g (cur / 128) ∧ cur / 128 < 128 ^ (g + 1) := by
  cases f with
  | zero => omega
  | succ g =>
    refine ⟨g, rfl, ?_, ?_⟩
    · rw [todo, if_pos (Or.inr (by omega)), encF_ge _ _ h, todo, if_pos (Or.inr (by omega))]
    · rw [Int.pow_succ] at hp
      omega

set_option maxHeartbeats 1600000 in
set_option maxRecDepth 100000 in
theorem rbytes_any (n : Int) (w : World) (h0 : 0 ≤ n) (h1 : n < 18446744073709551616) :
    Calls Try.prog 30 #[.int .u64 n] w fun e w' => ∃ g cap, e = .returned (.slice (some ⟨g, 0, none⟩) (enc n).length cap) ∧ w.heap.size ≤ g ∧ (enc n).length ≤ cap ∧
      w'.ownsRow w.heap.size 5 1 (.slice (some ⟨g, 0, none⟩) (enc n).length cap) (enc n).length ((enc n).map (Value.int .u8)) ∧ Below w.heap.size w w' := by
  obtain ⟨i0, hi, hz0, hz1, hz2⟩ := info_parts info8
  have hl := enc_len n
  go_enter Try.func30, Try.ntmps30
  go_wp2
  go_loopw [0, 3, 4] (fun sn v sf wr => ∃ (f : Nat) (cur : Int) (pre : List Int) (fl : Bool), 0 ≤ cur ∧ cur ≤ n ∧ sn = .int .u64 cur ∧ sf = .bool fl ∧
      wr.ownsRow w.heap.size 5 1 v pre.length (pre.map (Value.int .u8)) ∧ Hid (enc n = pre ++ todo fl f cur ∧ cur < 128 ^ (f + 1)) ∧ Below w.heap.size w wr)
    (fun sn _ sf _ => (intOf sn).toNat + boolN sf)
  case atStart => exact ⟨9, n, [], true, h0, Int.le_refl _, rfl, rfl, World.ownsRow_nil _ _ _ _, ⟨rfl, by omega⟩, Below.refl _ _⟩
  case round =>
    obtain ⟨f, cur, pre, fl, hc0, hcn, rfl, rfl, hown, hid, hnx⟩ := hrel
    have hsz := hnx.size
    by_cases hlt : cur < 128
    · have hfl : fl = true ∨ (fl = false ∧ 0 < cur) ∨ (fl = false ∧ cur ≤ 0) := by cases fl <;> simp <;> omega
      rcases hfl with hfl | ⟨hfl, hpos⟩ | ⟨hfl, hz⟩
      · have hen : enc n = pre ++ [cur] := by rw [hid.out.1, todo_last _ _ _ (Or.inl hfl) hlt]
        have hlen1 : pre.length + 1 ≤ (enc n).length := by rw [hen]; simp
        have HE : Hid (enc n = pre ++ [cur]) := hen
        have hdiv : cur / 128 = 0 := by omega
        have hmod : cur % 128 = cur := by omega
        clear hen hid
        subst hfl
        go_wp2_with (at_builtin; go_must (refine wpList_append_own _ rfl _ _ 29 rfl w.heap.size 5 i0 (.int .u8 0) 1 1 Try.underlying29 hi hz0 hz1 hz2 rfl (by decide) _ _ _ rfl (hown.alloc _) ⟨wr.heap.size, 0, none⟩ 1 1 [.int .u8 cur] rfl rfl (by intro t u ht; match t, ht with | 0, ht => simp at ht; subst ht; simp [Addr.add]) (by intro u hu; simp at hu; subst hu; rfl) (by unfold maxLen; omega) (by omega) (by simp; omega) ?_; intro v2 w2 hown2 hgrow2 _))
        go_roundw
        case rel => exact ⟨9, 0, pre ++ [cur], false, by omega, by omega, rfl, rfl, by simpa using hown2, ⟨by rw [HE.out, todo_end _ _ (by omega)]; simp, by omega⟩, below_own (hnx.alloc hnx.size _) (hown.alloc _) (by simp; omega) hgrow2⟩
        case measure => simp [intOf, boolN]
      · have hen : enc n = pre ++ [cur] := by rw [hid.out.1, todo_last _ _ _ (Or.inr hpos) hlt]
        have hlen1 : pre.length + 1 ≤ (enc n).length := by rw [hen]; simp
        have HE : Hid (enc n = pre ++ [cur]) := hen
        have hdiv : cur / 128 = 0 := by omega
        have hmod : cur % 128 = cur := by omega
        clear hen hid
        subst hfl
        go_wp2_with (at_builtin; go_must (refine wpList_append_own _ rfl _ _ 29 rfl w.heap.size 5 i0 (.int .u8 0) 1 1 Try.underlying29 hi hz0 hz1 hz2 rfl (by decide) _ _ _ rfl (hown.alloc _) ⟨wr.heap.size, 0, none⟩ 1 1 [.int .u8 cur] rfl rfl (by intro t u ht; match t, ht with | 0, ht => simp at ht; subst ht; simp [Addr.add]) (by intro u hu; simp at hu; subst hu; rfl) (by unfold maxLen; omega) (by omega) (by simp; omega) ?_; intro v2 w2 hown2 hgrow2 _))
        go_roundw
        case rel => exact ⟨9, 0, pre ++ [cur], false, by omega, by omega, rfl, rfl, by simpa using hown2, ⟨by rw [HE.out, todo_end _ _ (by omega)]; simp, by omega⟩, below_own (hnx.alloc hnx.size _) (hown.alloc _) (by simp; omega) hgrow2⟩
        case measure => simp [intOf, boolN]; omega
      · subst hfl
        have HE : Hid (enc n = pre) := by
          show enc n = pre
          rw [hid.out.1, todo_end _ _ hz]; simp
        clear hid
        obtain ⟨g, cap, hv, hg, hcap, hmax⟩ := own_shape hown (by rw [← HE.out]; omega)
        subst hv
        go_wp2
        go_ret
        rw [HE.out]
        exact ⟨g, cap, rfl, hg, hcap, hown, hnx⟩
    · obtain ⟨g, rfl, hen, hp⟩ := todo_more fl f cur (by omega) hid.out.2
      have hen' : enc n = (pre ++ [cur % 128 + 128]) ++ todo false g (cur / 128) := by rw [hid.out.1, hen]; simp
      have hlen1 : pre.length + 1 ≤ (enc n).length := by rw [hen']; simp
      have HE : Hid (enc n = (pre ++ [cur % 128 + 128]) ++ todo false g (cur / 128) ∧ cur / 128 < 128 ^ (g + 1)) := ⟨hen', hp⟩
      clear hen hen' hid hp
      cases fl
      all_goals
        go_wp2_with (at_builtin; go_must (refine wpList_append_own _ rfl _ _ 29 rfl w.heap.size 5 i0 (.int .u8 0) 1 1 Try.underlying29 hi hz0 hz1 hz2 rfl (by decide) _ _ _ rfl (hown.alloc _) ⟨wr.heap.size, 0, none⟩ 1 1 [.int .u8 (cur % 128 + 128)] rfl rfl (by intro t u ht; match t, ht with | 0, ht => simp at ht; subst ht; simp [Addr.add]) (by intro u hu; simp at hu; subst hu; rfl) (by unfold maxLen; omega) (by omega) (by simp; omega) ?_; intro v2 w2 hown2 hgrow2 _))
        go_roundw
        case rel => exact ⟨g, cur / 128, pre ++ [cur % 128 + 128], false, by omega, by omega, rfl, rfl, by simpa using hown2, HE, below_own (hnx.alloc hnx.size _) (hown.alloc _) (by simp; omega) hgrow2⟩
        case measure => simp [intOf, boolN]; omega
end Go.Proofs.Ytkcnpdcgonengaa
