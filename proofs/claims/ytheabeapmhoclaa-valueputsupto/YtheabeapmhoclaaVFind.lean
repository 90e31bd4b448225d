/- What the document's Find answers of a clean value: a key's place. Condition: a value of at most 1048576 values and letters. -/
import Derived.Test.YtheabeapmhoclaaVFits
import Derived.Test.YtheabeapmhoclaaVItems
namespace Go.Proofs.Ytheabeapmhoclaa
open Go.RowKit

/-- A key's place; -1: it isn't there. -/
def V.find (v : V) (key : ByteArray) : Int := if v.hasK key = true then (posK v.keys key : Int) else -1
set_option maxRecDepth 100000 in
theorem find_hit {q : List ByteArray} {key : ByteArray} {j : Nat} (hj : j < q.length) (h : q[j] = key) (hb : ∀ i (hi : i < q.length), i < j → q[i] ≠ key) : posK q key = j := by
  have hm : key ∈ q := by rw [← h]; exact List.getElem_mem hj
  rcases Nat.lt_trichotomy (posK q key) j with h1 | h1 | h1
  · exact absurd (posK_at hm) (hb _ (posK_lt hm) h1)
  · exact h1
  · have := List.not_of_lt_findIdx (p := fun x => decide (x = key)) (xs := q) h1
    simp [h] at this
set_option maxRecDepth 100000 in
theorem toList_ne {a b : ByteArray} (h : a ≠ b) : (a.toList == b.toList) = false := by
  rw [beq_eq_false_iff_ne, ByteArray.toList_eq, ByteArray.toList_eq]
  exact fun e => h (Go.WideShapes.bytes_inj e)
set_option maxRecDepth 100000 in
set_option maxHeartbeats 1600000 in
theorem vfind_any {w0 : World} {ok : Nat → Prop} {v : V} {p : VP} (h : VIn w0 ok v p) (w : World) (hb0 : Below w0.heap.size w0 w) (hbk : v.bulk ≤ 1048576) (hcl : v.cl) (key : ByteArray) :
    Calls Try.prog 22 #[v.val p, .string key] w fun e w' => e = .returned (.int .i64 (v.find key)) ∧ Below w.heap.size w w' := by
  induction h using VIn.ind with
  | mk k b n m s l q p P hk hn hm hs hl hq hkeys hc hin _ =>
    obtain ⟨la, lc, ka, kc⟩ := p
    have hll : l.length ≤ 1048576 := by have := len_le_bulkL l; simp only [V.bulk] at hbk; omega
    have hql : q.length ≤ 1048576 := by have := keys_len q; simp only [V.bulk] at hbk; omega
    have HB : Hid (∀ wr, Below (w.heap.size + 1) (w.alloc ((V.mk k b n m s l q).box ⟨la, lc, ka, kc⟩)) wr → wr.cell? ⟨w.heap.size, 5, none⟩ = some (.slice la l.length lc) ∧ wr.cell? ⟨w.heap.size, 0, none⟩ = some (.int .i64 k) ∧ wr.cell? ⟨w.heap.size, 6, none⟩ = some (.slice ka q.length kc)) := fun wr hb => ⟨vbox_cell hb 5, vbox_cell hb 0, vbox_cell hb 6⟩
    have hcl2 : (k ≠ 7 → q = []) ∧ (k = 7 → q.length = l.length) := by
      simp only [V.cl] at hcl
      exact ⟨hcl.2.2.2.2.2.2.1, fun h => (hcl.2.2.2.2.2.2.2.1 h).1⟩
    obtain ⟨hq0, hq7⟩ := hcl2
    have hbx := below_box (Below.refl (w.heap.size + 1) (w.alloc ((V.mk k b n m s l q).box ⟨la, lc, ka, kc⟩)))
    by_cases h7 : k = 7
    · have HK : Hid (∀ (W : World) (j : Nat), Below w0.heap.size w0 W → j < l.length → ∃ kb ko, ka = some ⟨kb, ko, none⟩ ∧ ∃ hj : j < q.length, W.cell? ⟨kb, ko + j, none⟩ = some (.string q[j])) := fun W j hW hj => by
        obtain ⟨kb, ko, rfl, -, hcc⟩ := (hkeys.below hW).2 (by intro e; subst e; have := hq7 h7; simp at this; omega)
        exact ⟨kb, ko, rfl, by have := hq7 h7; omega, hcc j (by have := hq7 h7; omega)⟩
      have HF : Hid ((V.mk k b n m s l q).find key = if posK q key < q.length then (posK q key : Int) else -1) := by
        show V.find _ _ = _
        simp only [V.find, V.hasK, decide_eq_true_eq]
      have HL : Hid (q.length = l.length) := hq7 h7
      subst h7
      clear hk hn hm hs hl hq hkeys hin hbk hcl hq0 hq7 hc
      generalize (V.mk 7 b n m s l q).find key = R at *
      unfold V.val
      unfold V.box at HB hbx
      dsimp only [V.k, V.b, V.n, V.m, V.s, V.l, V.keys] at *
      go_enter Try.func22, Try.ntmps22
      go_wp2_with fail
      go_loopw [5] (fun si wr => ∃ (j : Nat), j ≤ l.length ∧ si = .int .i64 j ∧ Hid (∀ i (hi : i < q.length), i < j → q[i] ≠ key) ∧ w.alloc (.cells #[.int .i64 7, .bool b, .int .i64 n, .int .i64 m, .string s, .slice la l.length lc, .slice ka q.length kc] 25) = wr) (fun si _ => l.length - (intOf si).toNat)
      case atStart => exact ⟨0, by omega, rfl, fun i hi h => by omega, rfl⟩
      case round =>
        obtain ⟨j, hj, rfl, hA, rfl⟩ := hrel
        by_cases hlt : j < l.length
        · obtain ⟨kb, ko, rfl, hqj, hkc⟩ := HK.out _ j (hb0.trans (hbx.mono hb0.size)) hlt
          have hqj' : (j : Int) < (q.length : Int) := by omega
          by_cases he : q[j] = key
          · have HR : Hid (R = (j : Int)) := by
              show _ = _
              rw [HF.out, find_hit hqj he hA.out, if_pos hqj]
            rw [he] at hkc
            clear HK HB HF hA he hb0
            go_wp2_with fail
            go_ret
            exact ⟨ret_int HR.out.symm, hbx⟩
          · have hA2 : Hid (∀ i (hi : i < q.length), i < j + 1 → q[i] ≠ key) := fun i hi hlt => by
              rcases Nat.lt_or_ge i j with h1 | h1
              · exact hA.out i hi h1
              · obtain rfl : i = j := by omega
                exact he
            generalize q[j] = y at *
            have he2 : (y.toList == key.toList) = false := toList_ne he
            clear HK HB HF hA hb0
            go_wp2_with fail
            go_roundw
            case rel => exact ⟨j + 1, by omega, by go_num, hA2, trivial⟩
            case measure => simp [intOf]; omega
        · have HR : Hid (R = -1) := by
            show _ = _
            rw [HF.out, if_neg]
            intro h
            have hz := of_decide_eq_true (List.findIdx_getElem (xs := q) (p := fun x => decide (x = key)) (w := h))
            exact hA.out _ h (by have := HL.out; show List.findIdx _ _ < _; unfold posK at h; omega) hz
          clear HK HB HF hA hb0
          go_wp2_with fail
          go_ret
          exact ⟨ret_int HR.out.symm, hbx⟩
    · have HR : Hid ((V.mk k b n m s l q).find key = -1) := by
        show V.find _ _ = _
        simp [V.find, V.hasK, hq0 h7, posK]
      have h7' : (k == 7) = false := by simpa using h7
      clear hk hn hm hs hl hq hkeys hin hbk hcl hq0 hq7 hc
      generalize (V.mk k b n m s l q).find key = R at *
      unfold V.val
      unfold V.box at HB hbx
      dsimp only [V.k, V.b, V.n, V.m, V.s, V.l, V.keys] at *
      by_cases hl0 : 0 < l.length
      · go_enter Try.func22, Try.ntmps22
        go_wp2_with fail
        refine wp_loop_rounds 1 ?_
        rw [rounds_succ]
        go_wp2_with fail
        go_ret
        exact ⟨ret_int HR.out.symm, hbx⟩
      · go_enter Try.func22, Try.ntmps22
        go_wp2_with fail
        refine wp_loop_rounds 1 ?_
        rw [rounds_succ]
        go_wp2_with fail
        go_ret
        exact ⟨ret_int HR.out.symm, hbx⟩
end Go.Proofs.Ytheabeapmhoclaa
