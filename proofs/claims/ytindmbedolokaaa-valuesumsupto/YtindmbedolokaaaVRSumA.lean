/- What the document's Sum answers of two clean values that are numbers or points. Condition: texts of at most 1048576 letters. -/
import Derived.Test.YtindmbedolokaaaVSum
import Derived.Test.YtindmbedolokaaaVFits
import Derived.Test.YtindmbedolokaaaVCleanB
import Derived.BigRegion
namespace Go.Proofs.Ytindmbedolokaaa
open Go.RowKit Go.Maps

set_option maxRecDepth 100000 in
theorem sum_good {x y : V} (hx : x.cl) (hy : y.cl) (nx : I64 x.n) (ny : I64 y.n) (hb : x.bulk + y.bulk ≤ 1048576) : (x.sum y).1.cl ∧ (x.sum y).1.bulk ≤ 1048576 ∧ ∀ W ok, VIn W ok (x.sum y).1 ⟨none, 0, none, 0⟩ := by
  have hs : x.s.size + y.s.size ≤ 1048576 := by
    cases x; cases y; simp only [V.bulk] at hb ⊢; omega
  have hnull : V.null.cl ∧ V.null.bulk ≤ 1048576 ∧ ∀ W ok, VIn W ok V.null ⟨none, 0, none, 0⟩ := ⟨by simp [V.null, V.cl, V.cl.go], by simp [V.null, V.bulk, V.bulk.go], fun W ok => VIn.plain W ok _ _ _ _ _ i64_0 i64_0 i64_0 empty_max⟩
  unfold V.sum
  by_cases h0 : x.k = 0 ∧ y.k = 0
  · rw [if_pos h0]; exact hnull
  rw [if_neg h0]
  by_cases h5 : x.k = 5 ∧ y.k = 5
  · rw [if_pos h5]
    have hsz : (x.s ++ y.s).size ≤ 1048576 := by rw [ByteArray.size_append]; omega
    refine ⟨by simp [V.text, V.cl, V.cl.go], ?_, fun W ok => VIn.plain W ok _ _ _ _ _ (by unfold I64; omega) i64_0 i64_0 (by simp only [maxLen]; omega)⟩
    have b1 : 1 + x.s.size ≤ x.bulk := by cases x; simp only [V.bulk]; omega
    have b2 : 1 + y.s.size ≤ y.bulk := by cases y; simp only [V.bulk]; omega
    simp only [V.text, V.bulk, V.bulk.go, List.map_nil, List.sum_nil, ByteArray.size_append]
    omega
  rw [if_neg h5]
  by_cases h3 : x.k = 3 ∧ y.k = 3
  · rw [if_pos h3]
    by_cases hi : inI (x.n + y.n) = true
    · rw [if_pos hi]
      have hi' : -9223372036854775808 ≤ x.n + y.n ∧ x.n + y.n ≤ 9223372036854775807 := by simpa [inI] using hi
      exact ⟨by simp [V.int, V.cl, V.cl.go], by simp [V.int, V.bulk, V.bulk.go], fun W ok => VIn.plain W ok _ _ _ _ _ (by unfold I64; omega) (by unfold I64; omega) i64_0 empty_max⟩
    · rw [if_neg hi]; exact hnull
  rw [if_neg h3]
  by_cases h4 : isNum x.k = true ∧ isNum y.k = true
  · rw [if_pos h4]
    by_cases hi : sumB x y = true
    · rw [if_pos hi]
      have hi' : (-9007199254740992 ≤ x.n + y.n ∧ x.n + y.n ≤ 9007199254740992) ∧ (-9007199254740992 ≤ x.m + y.m ∧ x.m + y.m ≤ 9007199254740992) := by
        simp only [sumB, Bool.and_eq_true, partB_iff] at hi
        exact ⟨hi.1.2, hi.2⟩
      exact ⟨by simp [V.point, V.cl, V.cl.go, hi'], by simp [V.point, V.bulk, V.bulk.go], fun W ok => VIn.plain W ok _ _ _ _ _ (by unfold I64; omega) (by unfold I64; omega) (by unfold I64; omega) empty_max⟩
    · rw [if_neg hi]; exact hnull
  rw [if_neg h4]
  exact hnull
set_option maxRecDepth 100000 in
theorem cl_m {k : Int} {b : Bool} {n m : Int} {s : ByteArray} {l : List V} {q : List ByteArray} (h : (V.mk k b n m s l q).cl) : -9007199254740992 ≤ m ∧ m ≤ 9007199254740992 := by
  simp only [V.cl] at h
  by_cases h4 : k = 4
  · exact (h.2.2.2.2.2.2.2.2.1 h4).2
  · have := h.2.2.2.1 h4; omega
set_option maxRecDepth 100000 in
set_option maxHeartbeats 6400000 in
theorem rsum_num {x y : V} (p q : VP) (hx : x.cl) (hy : y.cl) (nx : I64 x.n) (ny : I64 y.n) (hs : x.s.size + y.s.size ≤ 1048576) (hn : isNum x.k = true ∧ isNum y.k = true) (h33 : ¬ (x.k = 3 ∧ y.k = 3)) (w : World) :
    Calls Try.prog 30 #[x.val p, y.val q] w fun e w' => e = .returned (.tuple #[(x.sum y).1.val ⟨none, 0, none, 0⟩, .int .i64 (x.sum y).2]) ∧ Below w.heap.size w w' := by
  obtain ⟨k, b, n, m, s, l, ks⟩ := x
  obtain ⟨k', b', n', m', s', l', ks'⟩ := y
  obtain ⟨la, lc, ka, kc⟩ := p
  obtain ⟨la', lc', ka', kc'⟩ := q
  have mx := cl_m hx
  have my := cl_m hy
  have hE : Hid (V.sum (.mk k b n m s l ks) (.mk k' b' n' m' s' l' ks') = if k = 0 ∧ k' = 0 then (V.null, 0) else if k = 5 ∧ k' = 5 then (V.text (s ++ s'), 0) else if k = 3 ∧ k' = 3 then (if inI (n + n') = true then (V.int (n + n'), 0) else (V.null, 2)) else if isNum k = true ∧ isNum k' = true then (if (partB n && partB n' && partB (n + n') && partB (m + m')) = true then (V.point (n + n') (m + m'), 0) else (V.null, 2)) else (V.null, 6)) := rfl
  have hbR : ∀ o, Below w.heap.size w (((w.alloc (.cells #[.int .i64 k, .bool b, .int .i64 n, .int .i64 m, .string s, .slice la l.length lc, .slice ka ks.length kc] 25)).alloc (.cells #[.int .i64 k', .bool b', .int .i64 n', .int .i64 m', .string s', .slice la' l'.length lc', .slice ka' ks'.length kc'] 25)).alloc o) := fun o => (((Below.refl _ _).alloc (Nat.le_refl _) _).alloc (by simp) _).alloc (by simp; omega) _
  have HBR : Hid (∀ o, Below w.heap.size w (((w.alloc (.cells #[.int .i64 k, .bool b, .int .i64 n, .int .i64 m, .string s, .slice la l.length lc, .slice ka ks.length kc] 25)).alloc (.cells #[.int .i64 k', .bool b', .int .i64 n', .int .i64 m', .string s', .slice la' l'.length lc', .slice ka' ks'.length kc'] 25)).alloc o)) := hbR
  unfold V.val
  dsimp only [V.k, V.b, V.n, V.m, V.s, V.l, V.keys] at *
  generalize V.sum (.mk k b n m s l ks) (.mk k' b' n' m' s' l' ks') = R at *
  unfold I64 at nx ny
  clear hx hy hbR
  have hR := hE.out
  rw [if_neg (fun h => by rw [h.1] at hn; simp [isNum] at hn), if_neg (fun h => by rw [h.1] at hn; simp [isNum] at hn), if_neg h33, if_pos hn] at hR
  have hk : (k = 3 ∧ k' = 4) ∨ (k = 4 ∧ k' = 3) ∨ (k = 4 ∧ k' = 4) := by
    simp only [isNum, Bool.or_eq_true, decide_eq_true_eq] at hn
    omega
  clear hE h33 hn hs
  rcases hk with ⟨rfl, rfl⟩ | ⟨rfl, rfl⟩ | ⟨rfl, rfl⟩
  · by_cases c1 : n < -9007199254740992
    · rw [if_neg (by simp only [Bool.and_eq_true, partB_iff]; omega)] at hR
      subst hR
      clear mx my nx ny
      go_enter Try.func30, Try.ntmps30
      go_wp2_with fail
      exact bodyPost_ret (v := .tuple #[.agg #[.int .i64 0, .bool false, .int .i64 0, .int .i64 0, .string ByteArray.empty, .slice none 0 0, .slice none 0 0], .int .i64 2]) (by simp [results, Try.results30, go_sem] <;> rfl) rfl ⟨rfl, HBR.out _⟩
    by_cases c2 : 9007199254740992 < n
    · rw [if_neg (by simp only [Bool.and_eq_true, partB_iff]; omega)] at hR
      subst hR
      clear mx my nx ny
      go_enter Try.func30, Try.ntmps30
      go_wp2_with fail
      exact bodyPost_ret (v := .tuple #[.agg #[.int .i64 0, .bool false, .int .i64 0, .int .i64 0, .string ByteArray.empty, .slice none 0 0, .slice none 0 0], .int .i64 2]) (by simp [results, Try.results30, go_sem] <;> rfl) rfl ⟨rfl, HBR.out _⟩
    by_cases c3 : n' < -9007199254740992
    · rw [if_neg (by simp only [Bool.and_eq_true, partB_iff]; omega)] at hR
      subst hR
      clear mx my nx ny
      go_enter Try.func30, Try.ntmps30
      go_wp2_with fail
      exact bodyPost_ret (v := .tuple #[.agg #[.int .i64 0, .bool false, .int .i64 0, .int .i64 0, .string ByteArray.empty, .slice none 0 0, .slice none 0 0], .int .i64 2]) (by simp [results, Try.results30, go_sem] <;> rfl) rfl ⟨rfl, HBR.out _⟩
    by_cases c4 : 9007199254740992 < n'
    · rw [if_neg (by simp only [Bool.and_eq_true, partB_iff]; omega)] at hR
      subst hR
      clear mx my nx ny
      go_enter Try.func30, Try.ntmps30
      go_wp2_with fail
      exact bodyPost_ret (v := .tuple #[.agg #[.int .i64 0, .bool false, .int .i64 0, .int .i64 0, .string ByteArray.empty, .slice none 0 0, .slice none 0 0], .int .i64 2]) (by simp [results, Try.results30, go_sem] <;> rfl) rfl ⟨rfl, HBR.out _⟩
    have hwn : IntKind.i64.wrap (n + n') = n + n' := IntWalk.i64_in _ (by omega)
    have hwm : IntKind.i64.wrap (m + m') = m + m' := IntWalk.i64_in _ (by omega)
    by_cases c5 : n + n' < -9007199254740992
    · rw [if_neg (by simp only [Bool.and_eq_true, partB_iff]; omega)] at hR
      subst hR
      clear mx my nx ny
      go_enter Try.func30, Try.ntmps30
      go_wp2_with fail
      go_region
      go_wp2_with fail
      exact bodyPost_ret (v := .tuple #[.agg #[.int .i64 0, .bool false, .int .i64 0, .int .i64 0, .string ByteArray.empty, .slice none 0 0, .slice none 0 0], .int .i64 2]) (by simp [results, Try.results30, go_sem] <;> rfl) rfl ⟨rfl, (HBR.out _).drew⟩
    by_cases c6 : 9007199254740992 < n + n'
    · rw [if_neg (by simp only [Bool.and_eq_true, partB_iff]; omega)] at hR
      subst hR
      clear mx my nx ny
      go_enter Try.func30, Try.ntmps30
      go_wp2_with fail
      go_region
      go_wp2_with fail
      exact bodyPost_ret (v := .tuple #[.agg #[.int .i64 0, .bool false, .int .i64 0, .int .i64 0, .string ByteArray.empty, .slice none 0 0, .slice none 0 0], .int .i64 2]) (by simp [results, Try.results30, go_sem] <;> rfl) rfl ⟨rfl, (HBR.out _).drew⟩
    by_cases c7 : m + m' < -9007199254740992
    · rw [if_neg (by simp only [Bool.and_eq_true, partB_iff]; omega)] at hR
      subst hR
      clear mx my nx ny
      go_enter Try.func30, Try.ntmps30
      go_wp2_with fail
      go_region
      go_wp2_with fail
      exact bodyPost_ret (v := .tuple #[.agg #[.int .i64 0, .bool false, .int .i64 0, .int .i64 0, .string ByteArray.empty, .slice none 0 0, .slice none 0 0], .int .i64 2]) (by simp [results, Try.results30, go_sem] <;> rfl) rfl ⟨rfl, (HBR.out _).drew⟩
    by_cases c8 : 9007199254740992 < m + m'
    · rw [if_neg (by simp only [Bool.and_eq_true, partB_iff]; omega)] at hR
      subst hR
      clear mx my nx ny
      go_enter Try.func30, Try.ntmps30
      go_wp2_with fail
      go_region
      go_wp2_with fail
      exact bodyPost_ret (v := .tuple #[.agg #[.int .i64 0, .bool false, .int .i64 0, .int .i64 0, .string ByteArray.empty, .slice none 0 0, .slice none 0 0], .int .i64 2]) (by simp [results, Try.results30, go_sem] <;> rfl) rfl ⟨rfl, (HBR.out _).drew⟩
    rw [if_pos (by simp only [Bool.and_eq_true, partB_iff]; omega)] at hR
    subst hR
    clear mx my nx ny
    go_enter Try.func30, Try.ntmps30
    go_wp2_with fail
    go_region
    go_wp2_with fail
    exact bodyPost_ret (v := .tuple #[.agg #[.int .i64 4, .bool false, .int .i64 (n + n'), .int .i64 (m + m'), .string ByteArray.empty, .slice none 0 0, .slice none 0 0], .int .i64 0]) (by simp [results, Try.results30, go_sem] <;> rfl) rfl ⟨rfl, (HBR.out _).drew⟩
  · by_cases c1 : n < -9007199254740992
    · rw [if_neg (by simp only [Bool.and_eq_true, partB_iff]; omega)] at hR
      subst hR
      clear mx my nx ny
      go_enter Try.func30, Try.ntmps30
      go_wp2_with fail
      exact bodyPost_ret (v := .tuple #[.agg #[.int .i64 0, .bool false, .int .i64 0, .int .i64 0, .string ByteArray.empty, .slice none 0 0, .slice none 0 0], .int .i64 2]) (by simp [results, Try.results30, go_sem] <;> rfl) rfl ⟨rfl, HBR.out _⟩
    by_cases c2 : 9007199254740992 < n
    · rw [if_neg (by simp only [Bool.and_eq_true, partB_iff]; omega)] at hR
      subst hR
      clear mx my nx ny
      go_enter Try.func30, Try.ntmps30
      go_wp2_with fail
      exact bodyPost_ret (v := .tuple #[.agg #[.int .i64 0, .bool false, .int .i64 0, .int .i64 0, .string ByteArray.empty, .slice none 0 0, .slice none 0 0], .int .i64 2]) (by simp [results, Try.results30, go_sem] <;> rfl) rfl ⟨rfl, HBR.out _⟩
    by_cases c3 : n' < -9007199254740992
    · rw [if_neg (by simp only [Bool.and_eq_true, partB_iff]; omega)] at hR
      subst hR
      clear mx my nx ny
      go_enter Try.func30, Try.ntmps30
      go_wp2_with fail
      exact bodyPost_ret (v := .tuple #[.agg #[.int .i64 0, .bool false, .int .i64 0, .int .i64 0, .string ByteArray.empty, .slice none 0 0, .slice none 0 0], .int .i64 2]) (by simp [results, Try.results30, go_sem] <;> rfl) rfl ⟨rfl, HBR.out _⟩
    by_cases c4 : 9007199254740992 < n'
    · rw [if_neg (by simp only [Bool.and_eq_true, partB_iff]; omega)] at hR
      subst hR
      clear mx my nx ny
      go_enter Try.func30, Try.ntmps30
      go_wp2_with fail
      exact bodyPost_ret (v := .tuple #[.agg #[.int .i64 0, .bool false, .int .i64 0, .int .i64 0, .string ByteArray.empty, .slice none 0 0, .slice none 0 0], .int .i64 2]) (by simp [results, Try.results30, go_sem] <;> rfl) rfl ⟨rfl, HBR.out _⟩
    have hwn : IntKind.i64.wrap (n + n') = n + n' := IntWalk.i64_in _ (by omega)
    have hwm : IntKind.i64.wrap (m + m') = m + m' := IntWalk.i64_in _ (by omega)
    by_cases c5 : n + n' < -9007199254740992
    · rw [if_neg (by simp only [Bool.and_eq_true, partB_iff]; omega)] at hR
      subst hR
      clear mx my nx ny
      go_enter Try.func30, Try.ntmps30
      go_wp2_with fail
      go_region
      go_wp2_with fail
      exact bodyPost_ret (v := .tuple #[.agg #[.int .i64 0, .bool false, .int .i64 0, .int .i64 0, .string ByteArray.empty, .slice none 0 0, .slice none 0 0], .int .i64 2]) (by simp [results, Try.results30, go_sem] <;> rfl) rfl ⟨rfl, (HBR.out _).drew⟩
    by_cases c6 : 9007199254740992 < n + n'
    · rw [if_neg (by simp only [Bool.and_eq_true, partB_iff]; omega)] at hR
      subst hR
      clear mx my nx ny
      go_enter Try.func30, Try.ntmps30
      go_wp2_with fail
      go_region
      go_wp2_with fail
      exact bodyPost_ret (v := .tuple #[.agg #[.int .i64 0, .bool false, .int .i64 0, .int .i64 0, .string ByteArray.empty, .slice none 0 0, .slice none 0 0], .int .i64 2]) (by simp [results, Try.results30, go_sem] <;> rfl) rfl ⟨rfl, (HBR.out _).drew⟩
    by_cases c7 : m + m' < -9007199254740992
    · rw [if_neg (by simp only [Bool.and_eq_true, partB_iff]; omega)] at hR
      subst hR
      clear mx my nx ny
      go_enter Try.func30, Try.ntmps30
      go_wp2_with fail
      go_region
      go_wp2_with fail
      exact bodyPost_ret (v := .tuple #[.agg #[.int .i64 0, .bool false, .int .i64 0, .int .i64 0, .string ByteArray.empty, .slice none 0 0, .slice none 0 0], .int .i64 2]) (by simp [results, Try.results30, go_sem] <;> rfl) rfl ⟨rfl, (HBR.out _).drew⟩
    by_cases c8 : 9007199254740992 < m + m'
    · rw [if_neg (by simp only [Bool.and_eq_true, partB_iff]; omega)] at hR
      subst hR
      clear mx my nx ny
      go_enter Try.func30, Try.ntmps30
      go_wp2_with fail
      go_region
      go_wp2_with fail
      exact bodyPost_ret (v := .tuple #[.agg #[.int .i64 0, .bool false, .int .i64 0, .int .i64 0, .string ByteArray.empty, .slice none 0 0, .slice none 0 0], .int .i64 2]) (by simp [results, Try.results30, go_sem] <;> rfl) rfl ⟨rfl, (HBR.out _).drew⟩
    rw [if_pos (by simp only [Bool.and_eq_true, partB_iff]; omega)] at hR
    subst hR
    clear mx my nx ny
    go_enter Try.func30, Try.ntmps30
    go_wp2_with fail
    go_region
    go_wp2_with fail
    exact bodyPost_ret (v := .tuple #[.agg #[.int .i64 4, .bool false, .int .i64 (n + n'), .int .i64 (m + m'), .string ByteArray.empty, .slice none 0 0, .slice none 0 0], .int .i64 0]) (by simp [results, Try.results30, go_sem] <;> rfl) rfl ⟨rfl, (HBR.out _).drew⟩
  · by_cases c1 : n < -9007199254740992
    · rw [if_neg (by simp only [Bool.and_eq_true, partB_iff]; omega)] at hR
      subst hR
      clear mx my nx ny
      go_enter Try.func30, Try.ntmps30
      go_wp2_with fail
      exact bodyPost_ret (v := .tuple #[.agg #[.int .i64 0, .bool false, .int .i64 0, .int .i64 0, .string ByteArray.empty, .slice none 0 0, .slice none 0 0], .int .i64 2]) (by simp [results, Try.results30, go_sem] <;> rfl) rfl ⟨rfl, HBR.out _⟩
    by_cases c2 : 9007199254740992 < n
    · rw [if_neg (by simp only [Bool.and_eq_true, partB_iff]; omega)] at hR
      subst hR
      clear mx my nx ny
      go_enter Try.func30, Try.ntmps30
      go_wp2_with fail
      exact bodyPost_ret (v := .tuple #[.agg #[.int .i64 0, .bool false, .int .i64 0, .int .i64 0, .string ByteArray.empty, .slice none 0 0, .slice none 0 0], .int .i64 2]) (by simp [results, Try.results30, go_sem] <;> rfl) rfl ⟨rfl, HBR.out _⟩
    by_cases c3 : n' < -9007199254740992
    · rw [if_neg (by simp only [Bool.and_eq_true, partB_iff]; omega)] at hR
      subst hR
      clear mx my nx ny
      go_enter Try.func30, Try.ntmps30
      go_wp2_with fail
      exact bodyPost_ret (v := .tuple #[.agg #[.int .i64 0, .bool false, .int .i64 0, .int .i64 0, .string ByteArray.empty, .slice none 0 0, .slice none 0 0], .int .i64 2]) (by simp [results, Try.results30, go_sem] <;> rfl) rfl ⟨rfl, HBR.out _⟩
    by_cases c4 : 9007199254740992 < n'
    · rw [if_neg (by simp only [Bool.and_eq_true, partB_iff]; omega)] at hR
      subst hR
      clear mx my nx ny
      go_enter Try.func30, Try.ntmps30
      go_wp2_with fail
      exact bodyPost_ret (v := .tuple #[.agg #[.int .i64 0, .bool false, .int .i64 0, .int .i64 0, .string ByteArray.empty, .slice none 0 0, .slice none 0 0], .int .i64 2]) (by simp [results, Try.results30, go_sem] <;> rfl) rfl ⟨rfl, HBR.out _⟩
    have hwn : IntKind.i64.wrap (n + n') = n + n' := IntWalk.i64_in _ (by omega)
    have hwm : IntKind.i64.wrap (m + m') = m + m' := IntWalk.i64_in _ (by omega)
    by_cases c5 : n + n' < -9007199254740992
    · rw [if_neg (by simp only [Bool.and_eq_true, partB_iff]; omega)] at hR
      subst hR
      clear mx my nx ny
      go_enter Try.func30, Try.ntmps30
      go_wp2_with fail
      go_region
      go_wp2_with fail
      exact bodyPost_ret (v := .tuple #[.agg #[.int .i64 0, .bool false, .int .i64 0, .int .i64 0, .string ByteArray.empty, .slice none 0 0, .slice none 0 0], .int .i64 2]) (by simp [results, Try.results30, go_sem] <;> rfl) rfl ⟨rfl, (HBR.out _).drew⟩
    by_cases c6 : 9007199254740992 < n + n'
    · rw [if_neg (by simp only [Bool.and_eq_true, partB_iff]; omega)] at hR
      subst hR
      clear mx my nx ny
      go_enter Try.func30, Try.ntmps30
      go_wp2_with fail
      go_region
      go_wp2_with fail
      exact bodyPost_ret (v := .tuple #[.agg #[.int .i64 0, .bool false, .int .i64 0, .int .i64 0, .string ByteArray.empty, .slice none 0 0, .slice none 0 0], .int .i64 2]) (by simp [results, Try.results30, go_sem] <;> rfl) rfl ⟨rfl, (HBR.out _).drew⟩
    by_cases c7 : m + m' < -9007199254740992
    · rw [if_neg (by simp only [Bool.and_eq_true, partB_iff]; omega)] at hR
      subst hR
      clear mx my nx ny
      go_enter Try.func30, Try.ntmps30
      go_wp2_with fail
      go_region
      go_wp2_with fail
      exact bodyPost_ret (v := .tuple #[.agg #[.int .i64 0, .bool false, .int .i64 0, .int .i64 0, .string ByteArray.empty, .slice none 0 0, .slice none 0 0], .int .i64 2]) (by simp [results, Try.results30, go_sem] <;> rfl) rfl ⟨rfl, (HBR.out _).drew⟩
    by_cases c8 : 9007199254740992 < m + m'
    · rw [if_neg (by simp only [Bool.and_eq_true, partB_iff]; omega)] at hR
      subst hR
      clear mx my nx ny
      go_enter Try.func30, Try.ntmps30
      go_wp2_with fail
      go_region
      go_wp2_with fail
      exact bodyPost_ret (v := .tuple #[.agg #[.int .i64 0, .bool false, .int .i64 0, .int .i64 0, .string ByteArray.empty, .slice none 0 0, .slice none 0 0], .int .i64 2]) (by simp [results, Try.results30, go_sem] <;> rfl) rfl ⟨rfl, (HBR.out _).drew⟩
    rw [if_pos (by simp only [Bool.and_eq_true, partB_iff]; omega)] at hR
    subst hR
    clear mx my nx ny
    go_enter Try.func30, Try.ntmps30
    go_wp2_with fail
    go_region
    go_wp2_with fail
    exact bodyPost_ret (v := .tuple #[.agg #[.int .i64 4, .bool false, .int .i64 (n + n'), .int .i64 (m + m'), .string ByteArray.empty, .slice none 0 0, .slice none 0 0], .int .i64 0]) (by simp [results, Try.results30, go_sem] <;> rfl) rfl ⟨rfl, (HBR.out _).drew⟩
end Go.Proofs.Ytindmbedolokaaa
