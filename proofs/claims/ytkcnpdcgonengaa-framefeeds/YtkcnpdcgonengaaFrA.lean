/- What mayBeLimit and first answer: the frame that bytes begin with, in new memory. Conditions: the slice shows bytes, fewer than 2^45; the limit is one. -/
import Derived.Test.YtkcnpdcgonengaaPureG
import Derived.Test.YtkcnpdcgonengaaCut
import Derived.Test.YtkcnpdcgonengaaApp
import Derived.Test.YtkcnpdcgonengaaRead
import Derived.Deep.DeepMust
namespace Go.Proofs.Ytkcnpdcgonengaa
open Go.RowKit

/-- A slice of bytes shows zs. -/
def Shown (w : World) (a : Option Addr) (zs : List Int) (c : Nat) : Prop := Row w a zs ∧ (a = none → zs.length = 0 ∧ c = 0) ∧ zs.length ≤ c ∧ c ≤ maxLen
set_option maxRecDepth 100000 in
theorem Shown.nil (w : World) : Shown w none [] 0 := ⟨Row.nil _ _, fun _ => ⟨rfl, rfl⟩, Nat.le_refl _, by simp [maxLen]⟩
set_option maxRecDepth 100000 in
theorem Shown.below {w w' : World} {a : Option Addr} {zs : List Int} {c : Nat} (h : Shown w a zs c) (hb : Below w.heap.size w w') : Shown w' a zs c := ⟨h.1.below hb, h.2⟩

set_option maxRecDepth 100000 in
/-- The block of a row of bytes is one of bytes. -/
theorem own_tag {w : World} {base n c : Nat} {a : Option Addr} {xs : List Value} (h : w.ownsRow base 5 1 (.slice a n c) n xs) (x : Addr) (hx : a = some x) : ∃ cur, w.heap[x.block]? = some (.cells cur 5 (0, 0)) := by
  rcases h.2 with ⟨hv, _⟩ | ⟨g, cap, cur, hv, _, hg, _⟩
  · simp only [Value.slice.injEq] at hv
    rw [hv.1] at hx; cases hx
  · simp only [Value.slice.injEq] at hv
    rw [hv.1] at hx
    obtain rfl := Option.some.inj hx
    exact ⟨cur, hg⟩

def mayL (L : Int) : Bool := decide (0 ≤ L) && decide (L ≤ 4096)
set_option maxRecDepth 100000 in
theorem mayL_any (L : Int) (w : World) : Calls Try.prog 67 #[.int .i64 L] w fun e w' => e = .returned (.bool (mayL L)) ∧ w = w' := by
  by_cases h0 : 0 ≤ L
  · by_cases h1 : L ≤ 4096
    · have E : Hid (mayL L = true) := by show mayL L = _; simp [mayL, h0, h1]
      go_enter Try.func67, Try.ntmps67
      go_wp2
      go_ret
      exact ⟨ret_bool E.out.symm, rfl⟩
    · have E : Hid (mayL L = false) := by show mayL L = _; simp [mayL, h1]
      have h1' : 4096 < L := by omega
      clear h1
      go_enter Try.func67, Try.ntmps67
      go_wp2
      go_ret
      exact ⟨ret_bool (by rw [E.out]; simp; omega), rfl⟩
  · have E : Hid (mayL L = false) := by show mayL L = _; simp [mayL, h0]
    have h0' : L < 0 := by omega
    clear h0
    go_enter Try.func67, Try.ntmps67
    go_wp2
    go_ret
    exact ⟨ret_bool E.out.symm, rfl⟩

set_option maxHeartbeats 3200000 in
set_option maxRecDepth 100000 in
theorem first_any (a : Option Addr) (zs : List Int) (cap : Nat) (L : Int) (w : World) (hr : Row w a zs) (hnil : a = none → zs.length = 0 ∧ cap = 0) (hlc : zs.length ≤ cap) (hlen : zs.length ≤ 35184372088832) (hL0 : 0 ≤ L) (hL1 : L ≤ 4096) :
    Calls Try.prog 113 #[.slice a zs.length cap, .int .i64 L] w fun e w' => ∃ fa fc, e = .returned (.tuple #[.slice fa (frst L zs).1.length fc, .int .i64 (frst L zs).2.1, .int .i64 (frst L zs).2.2]) ∧ Shown w' fa (frst L zs).1 fc ∧ (∀ x, fa = some x → w.heap.size ≤ x.block ∧ ∃ cur, w'.heap[x.block]? = some (.cells cur 5 (0, 0))) ∧ Below w.heap.size w w' := by
  have CR : Hid (∀ W, Row W a zs → Calls Try.prog 114 #[.slice a zs.length cap] W fun e w' => e = .returned (.tuple #[.int .u64 (rd zs).1, .int .i64 (rd zs).2.1, .int .i64 (rd zs).2.2]) ∧ W = w') := fun W h => read_any a zs cap W h (by omega)
  rcases frst_ways L zs with ⟨h0, e⟩ | ⟨h0, h1, e⟩ | ⟨h0, h1, h2, e⟩ | ⟨h0, h1, h2, e⟩
  · rw [e]
    have hne : ((rd zs).2.2 != 0) = true := by simpa using h0
    clear h0 e
    generalize rd zs = q at *
    obtain ⟨m, s, e⟩ := q
    simp only at hne
    go_enter Try.func113, Try.ntmps113
    go_wp2_with fail
    refine (CR.out _ hr).mono ?_
    rintro e w1 ⟨rfl, rfl⟩
    go_wp2
    go_ret3
    exact ⟨none, 0, rfl, Shown.nil _, by simp, Below.refl _ _⟩
  · rw [e]
    obtain ⟨a1, a2, a3, a4, -⟩ := rd_size zs hr.byte h0
    clear e
    generalize rd zs = q at *
    obtain ⟨m, s, e⟩ := q
    simp only at h0 h1 a1 a2 a3 a4
    subst h0
    go_enter Try.func113, Try.ntmps113
    go_wp2_with fail
    refine (CR.out _ hr).mono ?_
    rintro e w1 ⟨rfl, rfl⟩
    go_wp2
    go_ret3
    exact ⟨none, 0, rfl, Shown.nil _, by simp, Below.refl _ _⟩
  · rw [e]
    obtain ⟨a1, a2, a3, a4, -⟩ := rd_size zs hr.byte h0
    clear e
    generalize rd zs = q at *
    obtain ⟨m, s, e⟩ := q
    simp only at h0 h1 h2 a1 a2 a3 a4
    subst h0
    go_enter Try.func113, Try.ntmps113
    go_wp2_with fail
    refine (CR.out _ hr).mono ?_
    rintro e w1 ⟨rfl, rfl⟩
    go_wp2
    go_ret3
    exact ⟨none, 0, rfl, Shown.nil _, by simp, Below.refl _ _⟩
  · rw [e]
    obtain ⟨a1, a2, a3, a4, -⟩ := rd_size zs hr.byte h0
    clear e
    obtain ⟨m, hm⟩ := Int.eq_ofNat_of_zero_le a3
    obtain ⟨s, hs⟩ := Int.eq_ofNat_of_zero_le (show 0 ≤ (rd zs).2.1 by omega)
    rw [hm] at a4 h1 h2
    rw [hs] at a1 a2 h2
    have hq : rd zs = ((m : Int), (s : Int), 0) := by rw [← hm, ← hs, ← h0]
    rw [hq] at CR
    rw [hm, hs]
    clear hq hm hs a3 h0
    simp only [Int.toNat_natCast]
    have hend : s + m ≤ zs.length := by omega
    have hsl := run_cut_lh a zs.length cap s (s + m) (s : Int) ((s : Int) + m) rfl (by omega) (by omega) (by omega)
    have hd1 : s + m - s = m := by omega
    rw [hd1] at hsl
    have hlm : ((zs.drop s).take m).length = m := by simp; omega
    have hrow1 := fun W (h : Row W a zs) => cutA_row (cap := cap) s m hlc W h
    have hnil1 : cutA a cap s = none → ((zs.drop s).take m).length = 0 ∧ cap - s = 0 := fun hn => by have := cutA_nil s hnil hn; rw [hlm]; omega
    have HLM : Hid (((zs.drop s).take m).length = m) := hlm
    have hby : ∀ c ∈ (zs.drop s).take m, 0 ≤ c ∧ c ≤ 255 := fun c hc => hr.byte c (List.mem_of_mem_drop (List.mem_of_mem_take hc))
    have hmb : (m : Int) ≤ 4096 := by omega
    have h2' : (m : Int) ≤ (zs.length : Int) - (s : Int) := h2
    have hm46 : m ≤ 70368744177664 := by omega
    clear hd1 hlm a4 h2
    go_enter Try.func113, Try.ntmps113
    go_wp2_with fail
    refine (CR.out _ hr).mono ?_
    rintro e w1 ⟨rfl, rfl⟩
    go_wp2_with (at_builtin; go_must (refine wpList_append_bytes rfl (.tmp 35) (.tmp 39) rfl w.heap.size _ 0 [] rfl (World.ownsRow_lit w #[] 0 (Nat.le_refl _) (by simp [maxLen]) rfl) (cutA a cap s) ((zs.drop s).take m) m (cap - s) rfl HLM.out (hrow1 _ (hr.alloc _)) hnil1 (by omega) (by simp) ?_; intro v1 w1 hown1 hgrow1))
    simp only [Nat.zero_add, List.nil_append] at hown1
    have hb1 : Below w.heap.size w w1 := below_own ((Below.refl _ _).alloc (Nat.le_refl _) _) (World.ownsRow_lit w #[] 0 (Nat.le_refl _) (by simp [maxLen]) rfl) (by simp) hgrow1
    obtain ⟨fa, fc, hv1, -, k1, k2, k3, k4, k5⟩ := own_view' hown1 hby
    subst hv1
    have k6 : ∀ x, fa = some x → w.heap.size ≤ x.block ∧ ∃ cur, w1.heap[x.block]? = some (.cells cur 5 (0, 0)) := fun x hx => ⟨k5 x hx, own_tag hown1 x hx⟩
    go_ret3
    refine ⟨fa, fc, by rw [HLM.out]; rfl, ⟨k1, (fun h => by rw [HLM.out]; exact (by rw [HLM.out] at k2; exact k2 h)), by rw [HLM.out]; exact k3, k4⟩, k6, hb1⟩
end Go.Proofs.Ytkcnpdcgonengaa
