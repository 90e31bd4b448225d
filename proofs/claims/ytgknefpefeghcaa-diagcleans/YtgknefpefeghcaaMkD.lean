/- places: of each place of a text in which a secret begins the longest one. Conditions: the finder lies in memory. -/
import Derived.Test.YtgknefpefeghcaaMkR
namespace Go.Proofs.Ytgknefpefeghcaa
open Go.RowKit

/-- A text's bytes. -/
def bsI (s : ByteArray) : List Int := s.data.toList.map (fun c => (c.toNat : Int))
set_option maxRecDepth 100000 in
theorem bsI_byte (s : ByteArray) : ∀ c ∈ bsI s, 0 ≤ c ∧ c ≤ 255 := by
  intro c hc
  obtain ⟨x, -, rfl⟩ := List.mem_map.1 hc
  have := x.toNat_lt
  omega
set_option maxRecDepth 100000 in
theorem bsI_len (s : ByteArray) : (bsI s).length = s.size := by simp [bsI]
/-- The places. -/
def plcF (M : List (List Int)) : List Int → Nat → List (Int × Int)
  | [], _ => []
  | b :: r, i => if 0 < mx M (b :: r) then ((i : Int), (i : Int) + (mx M (b :: r) : Int)) :: plcF M r (i + 1) else plcF M r (i + 1)
set_option maxRecDepth 100000 in
theorem plc_step (M : List (List Int)) (t : List Int) (i : Nat) (hi : i < t.length) : (plcF M (t.drop i) i).reverse = if 0 < mx M (t.drop i) then (plcF M (t.drop (i + 1)) (i + 1)).reverse ++ [((i : Int), (i : Int) + (mx M (t.drop i) : Int))] else (plcF M (t.drop (i + 1)) (i + 1)).reverse := by
  rw [List.drop_eq_getElem_cons hi]
  show (if 0 < mx M (t[i] :: t.drop (i + 1)) then ((i : Int), (i : Int) + (mx M (t[i] :: t.drop (i + 1)) : Int)) :: plcF M (t.drop (i + 1)) (i + 1) else plcF M (t.drop (i + 1)) (i + 1)).reverse = _
  split
  · rw [List.reverse_cons]
  · rfl
set_option maxRecDepth 100000 in
theorem plc_len (M : List (List Int)) : ∀ (t : List Int) (i : Nat), (plcF M t i).length ≤ t.length
  | [], _ => Nat.le_refl _
  | b :: r, i => by
    have := plc_len M r (i + 1)
    unfold plcF
    split <;> simp only [List.length_cons] <;> omega
def flatP : List (Int × Int) → List Value
  | [] => []
  | x :: r => .int .i64 x.1 :: .int .i64 x.2 :: flatP r
set_option maxRecDepth 100000 in
theorem flatP_app (l r : List (Int × Int)) : flatP (l ++ r) = flatP l ++ flatP r := by
  induction l with
  | nil => rfl
  | cons y t ih => simp only [List.cons_append, flatP, ih]
set_option maxRecDepth 100000 in
theorem flatP_len (l : List (Int × Int)) : (flatP l).length = l.length * 2 := by
  induction l with
  | nil => rfl
  | cons y r ih => simp only [flatP, List.length_cons, ih]; omega
set_option maxRecDepth 100000 in
theorem flatP_get : ∀ (l : List (Int × Int)) (j : Nat) (hj : j < l.length), (flatP l)[j * 2]? = some (.int .i64 l[j].1) ∧ (flatP l)[j * 2 + 1]? = some (.int .i64 l[j].2)
  | x :: r, 0, _ => ⟨rfl, rfl⟩
  | x :: r, j + 1, hj => by
    have := flatP_get r j (by simpa using hj)
    rw [show (j + 1) * 2 = j * 2 + 2 by omega]
    exact this
set_option maxRecDepth 100000 in
theorem infoP : (Try.prog.info? 63).map (fun i => (i.zero, i.size, i.bytes)) = some (some (.agg #[.int .i64 0, .int .i64 0]), 2, 16) := by kernel_rfl
set_option maxRecDepth 100000 in
theorem append_place {W : World} {base : Nat} {sv : Value} {l : List (Int × Int)} (h : W.ownsRow base 63 2 sv l.length (flatP l)) {X : Nat} {q : Int × Int} (hX : W.heap[X]? = some (.cells #[.int .i64 q.1, .int .i64 q.2] 63)) (hb : base ≤ W.heap.size) (hl : l.length ≤ 100000) (ty : TypeId) :
    ∃ v' W', (Builtin.append_ #[58, 58] ty #[sv, .slice (some ⟨X, 0, none⟩) 1 1]).run Try.prog W = .ok v' W' ∧ W'.ownsRow base 63 2 v' (l ++ [q]).length (flatP (l ++ [q])) ∧ W.grownBy W' sv.ownBlock := by
  obtain ⟨i0, hi, hz0, hz1, hz2⟩ := info_parts infoP
  obtain ⟨v', w', h2, h3, h4, -⟩ := run_append_any W base 58 ty 63 i0 _ 2 16 Try.underlying58 hi hz0 hz1 hz2 rfl (by omega) sv l.length _ h (some ⟨X, 0, none⟩) 1 1 [.int .i64 q.1, .int .i64 q.2] rfl (fun e => by cases e)
    (fun ad had j u hu => by
      cases had
      match j, hu with
      | 0, hu => simp at hu; subst hu; rw [Addr.add_lit]; exact cell_of_row _ _ _ _ _ _ hX
      | 1, hu => simp at hu; subst hu; rw [Addr.add_lit]; exact cell_of_row _ _ _ _ _ _ hX
      | j + 2, hu => simp at hu)
    (fun u hu => by simp at hu; rcases hu with rfl | rfl <;> rfl) (by unfold maxLen; omega) (by omega) hb
  refine ⟨v', w', h2, ?_, h4⟩
  rw [List.length_append, flatP_app]
  exact h3
set_option maxRecDepth 100000 in
/-- An append in a plain region. -/
theorem wpList_append_run {ops : Array Oper} {rest : List Oper} {o : Oper} {a : Act} {w : World} {Q : Exit → Act → World → Prop} (hgd : o.guard = none) (s x : Operand) (t : TypeId)
    (ho : o.op = .call { callee := .builtin .append, args := #[s, x], argTypes := #[t, t] }) (v u : Value) (hs : a.eval s = v) (hx : a.eval x = u) {v' : Value} {w' : World}
    (hr : (Builtin.append_ #[t, t] o.type #[v, u]).run Try.prog w = .ok v' w') (h : wpList Try.prog ops Q rest (a.put o.dst v') w') : wpList Try.prog ops Q (o :: rest) a w := by
  refine wpList_plain hgd fun K hK => ?_
  unfold Oper.wp execOp
  simp only [ho, resolve, invoke, builtin, Sem.run_bind, Sem.run_pure, Result.andThen_ok, List.map_toArray, List.map_cons, List.map_nil, hs, hx, hr]
  exact hK _ _ h
/-- Places that a slice shows. -/
def PIn (W : World) (v : Value) (l : List (Int × Int)) : Prop := ∃ p c, v = .slice p l.length c ∧ (l ≠ [] → ∃ g, p = some ⟨g, 0, none⟩ ∧ (∃ cur, W.heap[g]? = some (.cells cur 63 (0, 0))) ∧ ∀ (j : Nat) (hj : j < l.length), W.cell? ⟨g, j * 2, none⟩ = some (.int .i64 l[j].1) ∧ W.cell? ⟨g, j * 2 + 1, none⟩ = some (.int .i64 l[j].2))
set_option maxRecDepth 100000 in
theorem rev_none (W : World) : Calls Try.prog 55 #[.slice none 0 0] W fun e w' => e = .returned (.tuple #[]) ∧ W = w' := by
  go_enter Try.func55, Try.ntmps55
  go_wp2_with fail
  refine wp_loop_rounds 1 ?_
  rw [rounds_succ]
  go_wp2_with fail
  go_end0
  exact ⟨rfl, rfl⟩
set_option maxRecDepth 100000 in
theorem own_pr {W : World} {base g cap : Nat} {l : List (Int × Int)} (h : W.ownsRow base 63 2 (.slice (some ⟨g, 0, none⟩) l.length cap) l.length (flatP l)) : base ≤ g ∧ PR W g l.length (fun j => (l[j]?).getD (0, 0)) := by
  refine ⟨(h.lt g rfl).1, ?_, fun j hj => ?_⟩
  · rcases h.2 with ⟨hv, -⟩ | ⟨g', cap', cur, hv, hg', hbk, -⟩
    · cases hv
    · injection hv with hv
      injection hv with hv
      injection hv with hv
      rw [hv]
      exact ⟨cur, hbk⟩
  · obtain ⟨y0, y1⟩ := flatP_get l j hj
    have c0 := h.cellAt (j * 2) (by omega)
    have c1 := h.cellAt (j * 2 + 1) (by omega)
    simp only [List.getElem?_eq_getElem hj, Option.getD_some]
    exact ⟨c0.trans y0, c1.trans y1⟩
set_option maxRecDepth 100000 in
theorem mx_len (M : List (List Int)) (s : List Int) : mx M s ≤ s.length := mx_le.2 (fun _ _ h => h.length_le)
set_option maxRecDepth 100000 in
theorem bsI_at (T : ByteArray) (i : Nat) (hi : i < T.size) (h2 : i < (bsI T).length) : (bsI T)[i] = ((T[i]).toNat : Int) := by
  simp [bsI]; rfl
set_option maxRecDepth 100000 in
set_option maxHeartbeats 1600000 in
theorem places_any {W : World} {base F Mb : Nat} {nv : Value} {N : List Nd} (h : FIn W base F Mb nv N) (ht : TreeOk N) {M : List (List Int)} (hM : Known N M) (T : ByteArray) (hT : T.size ≤ 10000) :
    Calls Try.prog 27 #[.pointer (some ⟨F, 0, none⟩), .string T] W fun e w' => ∃ v, e = .returned v ∧ PIn w' v (plcF M (bsI T) 0) ∧ Below W.heap.size W w' := by
  obtain ⟨B, hB, hlen, hby, hat, hst, hpl⟩ : ∃ B, bsI T = B ∧ Hid (B.length = T.size) ∧ (∀ c ∈ B, 0 ≤ c ∧ c ≤ 255) ∧ Hid (∀ (i : Nat) (hi : i < T.size) (h2 : i < B.length), B[i] = ((T[i]).toNat : Int)) ∧
      Hid (∀ (i : Nat) (hi : i < B.length), (plcF M (B.drop i) i).reverse = if 0 < mx M (B.drop i) then (plcF M (B.drop (i + 1)) (i + 1)).reverse ++ [((i : Int), (i : Int) + (mx M (B.drop i) : Int))] else (plcF M (B.drop (i + 1)) (i + 1)).reverse) ∧
      Hid (∀ i, (plcF M (B.drop i) i).length ≤ (B.drop i).length) := ⟨bsI T, rfl, bsI_len T, bsI_byte T, bsI_at T, plc_step M (bsI T), fun i => plc_len M ((bsI T).drop i) i⟩
  rw [hB]
  clear hB
  go_enter Try.func27, Try.ntmps27
  go_wp2_with fail
  go_loopw [5, 6, 7, 8] (fun s5 s6 s7 s8 wr => ∃ (k : Nat) (m : Int) (a : Nat) (SV : Value), SV = s5 ∧ k ≤ T.size ∧ m = (k : Int) - 1 ∧ s7 = .int .i64 m ∧ s6 = .int .i64 (a : Int) ∧ Best N (B.drop k) a ∧ wr.ownsRow W.heap.size 63 2 SV (plcF M (B.drop k) k).reverse.length (flatP (plcF M (B.drop k) k).reverse) ∧ Below W.heap.size W wr) (fun _ _ s7 _ _ => (intOf s7 + 1).toNat)
  case atStart =>
    have e0 : B.drop T.size = [] := List.drop_eq_nil_of_le (by rw [hlen.out]; exact Nat.le_refl _)
    obtain ⟨x, r1, r2, -⟩ := ht.root
    refine ⟨T.size, _, 0, _, rfl, Nat.le_refl _, by simp, rfl, rfl, ?_, ?_, Below.refl _ _⟩
    · rw [e0]
      exact ⟨x, r1, by rw [r2]; exact List.prefix_refl _, fun _ _ _ hp => by rw [r2]; exact hp.length_le⟩
    · rw [e0]
      exact World.ownsRow_nil _ _ _ _
  case round =>
    obtain ⟨k, m, a, SV, rfl, hk, hm, rfl, rfl, hbest, hrow, hb⟩ := hrel
    by_cases hk0 : k = 0
    · have hm0 : m < 0 := by omega
      subst hk0
      rw [List.drop_zero] at hrow
      clear hbest h
      have hl0 := hpl.out 0
      rw [List.drop_zero] at hl0
      have hRl : (plcF M B 0).reverse.length ≤ 10000 := by rw [List.length_reverse]; have := hlen.out; omega
      clear hl0 hpl hst hlen
      obtain ⟨R, hR, hLL⟩ : ∃ R, (plcF M B 0).reverse = R ∧ Hid (plcF M B 0 = R.reverse) := ⟨_, rfl, (List.reverse_reverse _).symm⟩
      rw [hR] at hrow hRl
      clear hR
      rcases hrow.2 with ⟨rfl, h0⟩ | ⟨g, cap, cur, rfl, -⟩
      · have hR0 : R = [] := List.eq_nil_of_length_eq_zero h0
        subst hR0
        go_wp2_with fail
        refine (rev_none _).mono ?_
        rintro e w' ⟨rfl, rfl⟩
        go_wp2_with fail
        go_ret
        rw [hLL.out]
        exact ⟨_, rfl, ⟨none, 0, rfl, fun h => absurd rfl h⟩, hb⟩
      · obtain ⟨hg, hpr⟩ := own_pr hrow
        have CR : Hid (Calls Try.prog 55 #[.slice (some ⟨g, 0, none⟩) R.length cap] wr fun e w' => e = .returned (.tuple #[]) ∧ PR w' g R.length (fun j => (R[R.length - 1 - j]?).getD (0, 0)) ∧ Below W.heap.size wr w') := rev_any hpr (by omega) W.heap.size hg
        clear hrow hpr hRl
        go_wp2_with fail
        refine CR.out.mono ?_
        rintro e w' ⟨rfl, hpr, hb2⟩
        clear CR
        go_wp2_with fail
        go_ret
        rw [hLL.out]
        refine ⟨_, rfl, ⟨some ⟨g, 0, none⟩, cap, by rw [List.length_reverse]; rfl, fun _ => ⟨g, rfl, hpr.1, fun j hj => ?_⟩⟩, hb.trans hb2⟩
        have hj2 : j < R.length := by simpa using hj
        have h3 := hpr.2 j hj2
        have e1 : R.reverse[j] = (R[R.length - 1 - j]?).getD (0, 0) := by
          rw [List.getElem_reverse, List.getElem?_eq_getElem (by omega), Option.getD_some]
        rw [e1]
        exact h3
    · obtain ⟨i, rfl⟩ : ∃ i, k = i + 1 := ⟨k - 1, by omega⟩
      obtain rfl : m = (i : Int) := by omega
      have hiT : i < T.size := by omega
      have hiB : i < B.length := by rw [hlen.out]; exact hiT
      have hbi := hby _ (List.getElem_mem hiB)
      have hdi : B.drop i = B[i] :: B.drop (i + 1) := List.drop_eq_getElem_cons hiB
      have CF : Hid (Calls Try.prog 54 #[.pointer (some ⟨F, 0, none⟩), .int .i64 (a : Int), .int .u8 B[i]] wr fun e w' => (∃ r : Nat, e = .returned (.int .i64 (r : Int)) ∧ Best N (B.drop i) r) ∧ wr = w') := by
        rw [hdi]
        exact follow_any (h.below hb) ht hbest B[i] hbi
      rw [hat.out i hiT hiB] at CF
      clear hdi hbi hm
      go_wp2_with fail
      refine CF.out.mono ?_
      rintro e w' ⟨⟨r, rfl, hr⟩, rfl⟩
      clear CF hbest
      obtain ⟨x, hx, -, -⟩ := id hr
      obtain ⟨g, cap, hnv, hrN, -, c1⟩ := (h.below hb).node hx
      have hlg := hM.best hx hr
      obtain ⟨z0, -, -⟩ := (h.below hb).cells
      rw [hnv] at z0
      have hFl := (h.below hb).lt
      have hst' := hst.out i hiB
      have hmxl := mx_len M (B.drop i)
      have hdl : (B.drop i).length ≤ 10000 := by rw [List.length_drop]; have := hlen.out; omega
      have hrl : (plcF M (B.drop (i + 1)) (i + 1)).reverse.length ≤ 10000 := by have := hpl.out (i + 1); rw [List.length_reverse]; rw [List.length_drop] at this; have := hlen.out; omega
      have hlg2 : x.long ≤ 10000 := by omega
      rw [← hlg] at hst'
      generalize x.long = lg at *
      generalize (plcF M (B.drop (i + 1)) (i + 1)).reverse = R at *
      clear hlg hmxl hdl hnv hiB
      have hwb := hb.size
      by_cases hpos : lg = 0
      · subst hpos
        rw [if_neg (by omega)] at hst'
        rw [← hst'] at hrow
        have hst' : Hid ((plcF M (B.drop i) i).reverse = R) := hst'
        go_wp2_with fail
        go_roundw
        case rel => exact ⟨i, (i : Int) - 1, r, _, rfl, by omega, by omega, by go_num, rfl, hr, hrow, hb⟩
        case measure => simp [intOf]
      · rw [if_pos (by omega)] at hst'
        have hst' : Hid ((plcF M (B.drop i) i).reverse = R ++ [((i : Int), (i : Int) + (lg : Int))]) := hst'
        have hpos : 0 < lg := by omega
        have hX := heap_alloc_new wr (.cells #[.int .i64 (i : Int), .int .i64 ((i : Int) + (lg : Int))] 63)
        have hrow2 := hrow.alloc (.cells #[.int .i64 (i : Int), .int .i64 ((i : Int) + (lg : Int))] 63)
        have hb2 := hb.alloc hwb (.cells #[.int .i64 (i : Int), .int .i64 ((i : Int) + (lg : Int))] 63)
        have hsz2 := hb2.size
        clear hrow
        go_wp2_with (at_builtin; obtain ⟨v7, w7, hr7, hown7, hg7⟩ := append_place (q := ((i : Int), (i : Int) + (lg : Int))) hrow2 hX hsz2 (by omega) 58; refine wpList_append_run rfl (.tmp 32) (.tmp 38) 58 rfl _ _ rfl rfl hr7 ?_)
        have hb7 := hb2.grown hg7 hsz2 (fun q hq => (hrow2.lt q hq).1)
        rw [← hst'.out] at hown7
        clear hr7 hg7 hX hrow2 hb2
        go_wp2_with fail
        go_roundw
        case rel => exact ⟨i, (i : Int) - 1, r, _, rfl, by omega, by omega, by go_num, rfl, hr, hown7, hb7⟩
        case measure => simp [intOf]
end Go.Proofs.Ytgknefpefeghcaa
