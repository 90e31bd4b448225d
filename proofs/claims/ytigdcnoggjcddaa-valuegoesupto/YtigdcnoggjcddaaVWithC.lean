/- What a value with another one where steps lead is, case by case as the document's With makes it, in plain mathematics. No conditions; no program. -/
import Derived.Test.YtigdcnoggjcddaaVRWithB
import Derived.Test.YtigdcnoggjcddaaVWithQ
import Derived.Test.YtigdcnoggjcddaaVCleanB
namespace Go.Proofs.Ytigdcnoggjcddaa
open Go.RowKit Go.Maps Go.WideMaps

set_option maxRecDepth 100000 in
set_option maxHeartbeats 3200000 in
theorem rwith_none {w0 : World} {ok : Nat → Prop} {v x : V} {p xp : VP} (hx : VIn w0 ok x xp) (w : World) (hb0 : Below w0.heap.size w0 w) (ao : Option Addr) (c : Nat) :
    Calls Try.prog 26 #[v.val p, x.val xp, .slice ao 0 c] w fun e w' => e = .returned (.tuple #[x.val xp, .int .i64 0]) ∧ VIn w' (fun b => (ok b ∧ b < w.heap.size) ∨ w.heap.size ≤ b) x xp ∧ Below w.heap.size w w' := by
  have hbb : Below w.heap.size w (((w.alloc (v.box p)).alloc (x.box xp)).alloc (x.box xp)) := (((Below.refl _ _).alloc (Nat.le_refl _) _).alloc (by simp) _).alloc (by simp <;> omega) _
  have hs0 := hb0.size
  have hfin : VIn (((w.alloc (v.box p)).alloc (x.box xp)).alloc (x.box xp)) (fun b => (ok b ∧ b < w.heap.size) ∨ w.heap.size ≤ b) x xp := (hx.mono (ok' := fun b => (ok b ∧ b < w.heap.size) ∨ w.heap.size ≤ b) (fun b h1 h2 => Or.inl ⟨h1, by omega⟩)).stays (hb0.trans (hbb.mono hs0))
  have H : Hid (VIn (((w.alloc (v.box p)).alloc (x.box xp)).alloc (x.box xp)) (fun b => (ok b ∧ b < w.heap.size) ∨ w.heap.size ≤ b) x xp ∧ Below w.heap.size w (((w.alloc (v.box p)).alloc (x.box xp)).alloc (x.box xp))) := ⟨hfin, hbb⟩
  clear hbb hs0 hfin hb0 hx
  unfold V.val
  go_enter Try.func26, Try.ntmps26
  go_wp2_with fail
  exact bodyPost_ret (v := .tuple #[.agg #[.int .i64 x.k, .bool x.b, .int .i64 x.n, .int .i64 x.m, .string x.s, .slice xp.la x.l.length xp.lc, .slice xp.ka x.keys.length xp.kc], .int .i64 0]) (by simp [results, Try.results26, go_sem]) rfl ⟨rfl, H.out.1, H.out.2⟩
end Go.Proofs.Ytigdcnoggjcddaa

namespace Go.Proofs.Ytigdcnoggjcddaa
open Go.RowKit

set_option maxRecDepth 100000 in
/-- Behind a List's last value. -/
theorem withR_next {v x : V} {s : St} (h0 : (v.follow s).2 = 2) (hat : s.at_ = v.l.length) : v.withR x [s] = (V.list (v.l ++ [x]), 0) := by
  have hb : s.byKey = false := by
    cases hb : s.byKey
    · rfl
    · exfalso
      unfold V.follow at h0
      rw [if_pos hb] at h0
      split at h0
      · split at h0 <;> cases h0
      · cases h0
  have hk : v.k = 6 := by
    unfold V.follow at h0
    rw [if_neg (by rw [hb]; simp)] at h0
    by_cases hk : v.k = 6
    · exact hk
    · rw [if_neg hk] at h0; cases h0
  rw [V.withR, if_pos (by rfl), put_list hb hk, if_pos (by omega)]
  unfold putAt
  rw [if_neg (by omega)]
set_option maxRecDepth 100000 in
/-- A Map's new key. -/
theorem withR_new {v x : V} {s : St} (h : v.cl) (hx : x.cl) (h0 : (v.follow s).2 = 8) : v.k = 7 ∧ v.withR x [s] = ((V.mk 7 false 0 0 ByteArray.empty (v.l ++ [x]) (v.keys ++ [s.key])).clean, 0) := by
  have hb : s.byKey = true := by
    cases hb : s.byKey
    · exfalso
      unfold V.follow at h0
      rw [if_neg (by rw [hb]; simp)] at h0
      split at h0
      · split at h0 <;> cases h0
      · cases h0
    · rfl
  have hk : v.k = 7 := by
    unfold V.follow at h0
    rw [if_pos hb] at h0
    by_cases hk : v.k = 7
    · exact hk
    · rw [if_neg hk] at h0; cases h0
  obtain ⟨-, hq, hr, hl⟩ := cl_map h hk
  have hn : (V.mk 7 false 0 0 ByteArray.empty v.l v.keys).hasK s.key = false := by
    show v.hasK s.key = false
    rw [follow_map hb hk] at h0
    cases hh : v.hasK s.key
    · rfl
    · rw [if_pos hh] at h0; cases h0
  refine ⟨hk, ?_⟩
  rw [V.withR, if_pos (by rfl), put_map hb hk, clean_put hq hr hl hx hn]
/-- A value with another one in a place that it has. -/
def V.withIn (v : V) (i : Nat) (y : V) : V := V.mk v.k false 0 0 ByteArray.empty (v.l.set i y) v.keys
set_option maxRecDepth 100000 in
theorem put_in {v : V} (h : v.cl) {s : St} {i : Nat} (h0 : (v.follow s).2 = 0) (hi : v.placeK s = i) (y : V) : v.put y s = (v.withIn i y, 0) := by
  unfold V.placeK at hi
  rw [if_neg (by rw [h0]; simp)] at hi
  cases hb : s.byKey
  · rw [if_neg (by rw [hb]; simp)] at hi
    obtain ⟨hk, hlt⟩ := (follow_kind h0).2 hb
    have hq : v.keys = [] := by
      obtain ⟨hv, -⟩ := cl_list h hk
      rw [hv]; rfl
    rw [put_list hb hk, if_pos (by omega)]
    have e : s.at_.toNat = i := by omega
    unfold putAt V.withIn
    rw [e, if_pos (by omega), hk, hq]; rfl
  · rw [if_pos hb] at hi
    have hk := (follow_kind h0).1 hb
    obtain ⟨-, hq, -, -⟩ := cl_map h hk
    have hh : v.hasK s.key = true := by
      rw [follow_map hb hk] at h0
      by_cases h3 : v.hasK s.key = true
      · exact h3
      · rw [if_neg h3] at h0; cases h0
    have hlt := posK_lt ((hasK_mem v s.key).1 hh)
    have e : posK v.keys s.key = i := by omega
    rw [put_map hb hk]
    unfold mapPut
    rw [if_pos (show (V.mk 7 false 0 0 ByteArray.empty v.l v.keys).hasK s.key = true from hh)]
    unfold putAt V.withIn
    rw [e, if_pos (by omega), hk]; rfl
set_option maxRecDepth 100000 in
/-- In a place that it has. -/
theorem withR_in {v : V} (h : v.cl) {s : St} {i : Nat} (h0 : (v.follow s).2 = 0) (hi : v.placeK s = i) (x : V) (r : List St) :
    v.withR x (s :: r) = if ((v.follow s).1.withR x r).2 = 0 then (v.withIn i ((v.follow s).1.withR x r).1, 0) else (V.null, ((v.follow s).1.withR x r).2) := by
  rw [V.withR]
  cases r with
  | nil =>
    rw [if_pos (by rfl), put_in h h0 hi]
    simp [V.withR]
  | cons t r =>
    rw [if_neg (by simp), if_pos h0]
    by_cases h1 : ((v.follow s).1.withR x (t :: r)).2 = 0
    · rw [if_pos h1, if_pos h1, put_in h h0 hi]
    · rw [if_neg h1, if_neg h1]
end Go.Proofs.Ytigdcnoggjcddaa

