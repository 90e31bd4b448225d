/- What the document's Sum answers of two clean values. Condition: texts of at most 1048576 letters. -/
import Derived.Test.YtindmbedolokaaaVRSumA
namespace Go.Proofs.Ytindmbedolokaaa
open Go.RowKit Go.Maps

set_option maxRecDepth 100000 in
set_option maxHeartbeats 6400000 in
theorem rsum_any {x y : V} (p q : VP) (hx : x.cl) (hy : y.cl) (nx : I64 x.n) (ny : I64 y.n) (hs : x.s.size + y.s.size ≤ 1048576) (w : World) :
    Calls Try.prog 30 #[x.val p, y.val q] w fun e w' => e = .returned (.tuple #[(x.sum y).1.val ⟨none, 0, none, 0⟩, .int .i64 (x.sum y).2]) ∧ Below w.heap.size w w' := by
  by_cases hn : (isNum x.k = true ∧ isNum y.k = true) ∧ ¬ (x.k = 3 ∧ y.k = 3)
  · exact rsum_num p q hx hy nx ny hs hn.1 hn.2 w
  obtain ⟨k, b, n, m, s, l, ks⟩ := x
  obtain ⟨k', b', n', m', s', l', ks'⟩ := y
  obtain ⟨la, lc, ka, kc⟩ := p
  obtain ⟨la', lc', ka', kc'⟩ := q
  have mx := cl_m hx
  have my := cl_m hy
  have hE : Hid (V.sum (.mk k b n m s l ks) (.mk k' b' n' m' s' l' ks') = if k = 0 ∧ k' = 0 then (V.null, 0) else if k = 5 ∧ k' = 5 then (V.text (s ++ s'), 0) else if k = 3 ∧ k' = 3 then (if inI (n + n') = true then (V.int (n + n'), 0) else (V.null, 2)) else if isNum k = true ∧ isNum k' = true then (if (partB n && partB n' && partB (n + n') && partB (m + m')) = true then (V.point (n + n') (m + m'), 0) else (V.null, 2)) else (V.null, 6)) := rfl
  have hbR : ∀ o, Below w.heap.size w (((w.alloc (.cells #[.int .i64 k, .bool b, .int .i64 n, .int .i64 m, .string s, .slice la l.length lc, .slice ka ks.length kc] 25)).alloc (.cells #[.int .i64 k', .bool b', .int .i64 n', .int .i64 m', .string s', .slice la' l'.length lc', .slice ka' ks'.length kc'] 25)).alloc o) := fun o => (((Below.refl _ _).alloc (Nat.le_refl _) _).alloc (by simp) _).alloc (by simp; omega) _
  have HBR : Hid (∀ o, Below w.heap.size w (((w.alloc (.cells #[.int .i64 k, .bool b, .int .i64 n, .int .i64 m, .string s, .slice la l.length lc, .slice ka ks.length kc] 25)).alloc (.cells #[.int .i64 k', .bool b', .int .i64 n', .int .i64 m', .string s', .slice la' l'.length lc', .slice ka' ks'.length kc'] 25)).alloc o)) := hbR
  unfold V.val
  dsimp only [V.k, V.b, V.n, V.m, V.s, V.l, V.keys] at *
  generalize V.sum (.mk k b n m s l ks) (.mk k' b' n' m' s' l' ks') = R at *
  unfold I64 at nx ny
  clear hx hy hbR
  by_cases h0 : k = 0 ∧ k' = 0
  · have hR := hE.out
    rw [if_pos h0] at hR
    obtain ⟨rfl, rfl⟩ := h0
    subst hR
    clear hE nx ny mx my
    go_enter Try.func30, Try.ntmps30
    go_wp2_with fail
    exact bodyPost_ret (v := .tuple #[.agg #[.int .i64 0, .bool false, .int .i64 0, .int .i64 0, .string ByteArray.empty, .slice none 0 0, .slice none 0 0], .int .i64 0]) (by simp [results, Try.results30, go_sem] <;> rfl) rfl ⟨rfl, HBR.out _⟩
  by_cases h5 : k = 5 ∧ k' = 5
  · have hR := hE.out
    rw [if_neg h0, if_pos h5] at hR
    obtain ⟨rfl, rfl⟩ := h5
    subst hR
    clear hE nx ny mx my h0
    go_enter Try.func30, Try.ntmps30
    go_wp2_with fail
    exact bodyPost_ret (v := .tuple #[.agg #[.int .i64 5, .bool false, .int .i64 0, .int .i64 0, .string (s ++ s'), .slice none 0 0, .slice none 0 0], .int .i64 0]) (by simp [results, Try.results30, go_sem] <;> rfl) rfl ⟨rfl, HBR.out _⟩
  by_cases h3 : k = 3 ∧ k' = 3
  · have hR := hE.out
    rw [if_neg h0, if_neg h5, if_pos h3] at hR
    obtain ⟨rfl, rfl⟩ := h3
    have hiff : inI (n + n') = true ↔ -9223372036854775808 ≤ n + n' ∧ n + n' ≤ 9223372036854775807 := by simp [inI]
    clear hE mx my h0 h5
    have hw1 : 0 < n → IntKind.i64.wrap (9223372036854775807 - n) = 9223372036854775807 - n := fun _ => IntWalk.i64_in _ (by omega)
    have hw2 : n < 0 → IntKind.i64.wrap (-9223372036854775808 - n) = -9223372036854775808 - n := fun _ => IntWalk.i64_in _ (by omega)
    by_cases hi : inI (n + n') = true
    · rw [if_pos hi] at hR
      have hii := hiff.1 hi
      subst hR
      have hws : IntKind.i64.wrap (n + n') = n + n' := IntWalk.i64_in _ hii
      rcases (by omega : (0 < n ∧ ¬ 9223372036854775807 - n < n' ∧ ¬ n < 0) ∨ (n < 0 ∧ ¬ n' < -9223372036854775808 - n ∧ ¬ 0 < n) ∨ (¬ 0 < n ∧ ¬ n < 0)) with ⟨g1, g2, g3⟩ | ⟨g1, g2, g3⟩ | ⟨g1, g2⟩
      · have hw := hw1 g1
        clear hw1 hw2 hi hii hiff nx ny
        go_enter Try.func30, Try.ntmps30
        go_wp2_with fail
        exact bodyPost_ret (v := .tuple #[.agg #[.int .i64 3, .bool false, .int .i64 (n + n'), .int .i64 0, .string ByteArray.empty, .slice none 0 0, .slice none 0 0], .int .i64 0]) (by simp [results, Try.results30, go_sem] <;> rfl) rfl ⟨rfl, HBR.out _⟩
      · have hw := hw2 g1
        clear hw1 hw2 hi hii hiff nx ny
        go_enter Try.func30, Try.ntmps30
        go_wp2_with fail
        exact bodyPost_ret (v := .tuple #[.agg #[.int .i64 3, .bool false, .int .i64 (n + n'), .int .i64 0, .string ByteArray.empty, .slice none 0 0, .slice none 0 0], .int .i64 0]) (by simp [results, Try.results30, go_sem] <;> rfl) rfl ⟨rfl, HBR.out _⟩
      · clear hw1 hw2 hi hii hiff nx ny
        go_enter Try.func30, Try.ntmps30
        go_wp2_with fail
        exact bodyPost_ret (v := .tuple #[.agg #[.int .i64 3, .bool false, .int .i64 (n + n'), .int .i64 0, .string ByteArray.empty, .slice none 0 0, .slice none 0 0], .int .i64 0]) (by simp [results, Try.results30, go_sem] <;> rfl) rfl ⟨rfl, HBR.out _⟩
    · rw [if_neg hi] at hR
      have hii : ¬ (-9223372036854775808 ≤ n + n' ∧ n + n' ≤ 9223372036854775807) := fun h => hi (hiff.2 h)
      subst hR
      rcases (by omega : (0 < n ∧ 9223372036854775807 - n < n') ∨ (n < 0 ∧ n' < -9223372036854775808 - n ∧ ¬ 0 < n)) with ⟨g1, g2⟩ | ⟨g1, g2, g3⟩
      · have hw := hw1 g1
        clear hw1 hw2 hi hii hiff nx ny
        go_enter Try.func30, Try.ntmps30
        go_wp2_with fail
        exact bodyPost_ret (v := .tuple #[.agg #[.int .i64 0, .bool false, .int .i64 0, .int .i64 0, .string ByteArray.empty, .slice none 0 0, .slice none 0 0], .int .i64 2]) (by simp [results, Try.results30, go_sem] <;> rfl) rfl ⟨rfl, HBR.out _⟩
      · have hw := hw2 g1
        clear hw1 hw2 hi hii hiff nx ny
        go_enter Try.func30, Try.ntmps30
        go_wp2_with fail
        exact bodyPost_ret (v := .tuple #[.agg #[.int .i64 0, .bool false, .int .i64 0, .int .i64 0, .string ByteArray.empty, .slice none 0 0, .slice none 0 0], .int .i64 2]) (by simp [results, Try.results30, go_sem] <;> rfl) rfl ⟨rfl, HBR.out _⟩
  have h4 : ¬ (isNum k = true ∧ isNum k' = true) := fun h => hn ⟨h, h3⟩
  have hR := hE.out
  rw [if_neg h0, if_neg h5, if_neg h3, if_neg h4] at hR
  have hk : (¬ k = 0 ∧ ¬ k = 3 ∧ ¬ k = 4 ∧ ¬ k = 5) ∨ (k = 0 ∧ ¬ k' = 0) ∨ (k = 5 ∧ ¬ k' = 5) ∨ (k = 3 ∧ ¬ k' = 3 ∧ ¬ k' = 4) ∨ (k = 4 ∧ ¬ k' = 3 ∧ ¬ k' = 4) := by
    simp only [isNum, Bool.or_eq_true, decide_eq_true_eq] at h4
    omega
  subst hR
  clear hE h0 h5 h3 h4 hs mx my nx ny hn
  rcases hk with ⟨h0, h3, h4, h5⟩ | ⟨rfl, h1⟩ | ⟨rfl, h1⟩ | ⟨rfl, h1, h2⟩ | ⟨rfl, h1, h2⟩
  · go_enter Try.func30, Try.ntmps30
    go_wp2_with fail
    exact bodyPost_ret (v := .tuple #[.agg #[.int .i64 0, .bool false, .int .i64 0, .int .i64 0, .string ByteArray.empty, .slice none 0 0, .slice none 0 0], .int .i64 6]) (by simp [results, Try.results30, go_sem] <;> rfl) rfl ⟨rfl, HBR.out _⟩
  · go_enter Try.func30, Try.ntmps30
    go_wp2_with fail
    exact bodyPost_ret (v := .tuple #[.agg #[.int .i64 0, .bool false, .int .i64 0, .int .i64 0, .string ByteArray.empty, .slice none 0 0, .slice none 0 0], .int .i64 6]) (by simp [results, Try.results30, go_sem] <;> rfl) rfl ⟨rfl, HBR.out _⟩
  · go_enter Try.func30, Try.ntmps30
    go_wp2_with fail
    exact bodyPost_ret (v := .tuple #[.agg #[.int .i64 0, .bool false, .int .i64 0, .int .i64 0, .string ByteArray.empty, .slice none 0 0, .slice none 0 0], .int .i64 6]) (by simp [results, Try.results30, go_sem] <;> rfl) rfl ⟨rfl, HBR.out _⟩
  · have e3 : (k' == 3) = false := by simp [h1]
    have e4 : (k' == 4) = false := by simp [h2]
    clear h1 h2
    go_enter Try.func30, Try.ntmps30
    go_wp2_with fail
    exact bodyPost_ret (v := .tuple #[.agg #[.int .i64 0, .bool false, .int .i64 0, .int .i64 0, .string ByteArray.empty, .slice none 0 0, .slice none 0 0], .int .i64 6]) (by simp [results, Try.results30, go_sem] <;> rfl) rfl ⟨rfl, HBR.out _⟩
  · have e3 : (k' == 3) = false := by simp [h1]
    have e4 : (k' == 4) = false := by simp [h2]
    clear h1 h2
    go_enter Try.func30, Try.ntmps30
    go_wp2_with fail
    exact bodyPost_ret (v := .tuple #[.agg #[.int .i64 0, .bool false, .int .i64 0, .int .i64 0, .string ByteArray.empty, .slice none 0 0, .slice none 0 0], .int .i64 6]) (by simp [results, Try.results30, go_sem] <;> rfl) rfl ⟨rfl, HBR.out _⟩
end Go.Proofs.Ytindmbedolokaaa
