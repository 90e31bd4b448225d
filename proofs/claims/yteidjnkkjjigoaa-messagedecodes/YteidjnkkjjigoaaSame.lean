/- What Same and same answer of the same fields: true. Condition: the slices show the same fields, at most 5000. -/
import Derived.Test.YteidjnkkjjigoaaTo
import Derived.Test.YteidjnkkjjigoaaApp
namespace Go.Proofs.Yteidjnkkjjigoaa
open Go.RowKit

set_option maxRecDepth 100000 in
theorem sameF_true (f : Fld) (fa : Option Addr) (fc : Nat) (ga : Option Addr) (gc : Nat) (w : World) (h1 : f.shown w fa fc) (h2 : f.shown w ga gc) :
    Calls Try.prog 48 #[f.val fa fc, f.val ga gc] w fun e w' => e = .returned (.bool true) ∧ Below w.heap.size w w' := by
  obtain ⟨tag, isB, n, b⟩ := f
  have t1 := fun o1 o2 => ((h1.1.alloc o1).alloc o2).text b.length fc rfl
  have t2 := fun o1 o2 => ((h2.1.alloc o1).alloc o2).text b.length gc rfl
  unfold Fld.val
  clear h1 h2
  go_enter Try.func48, Try.ntmps48
  go_wp2
  go_ret
  exact ⟨rfl, ((Below.refl _ _).alloc (Nat.le_refl _) _).alloc (by simp) _⟩

set_option maxHeartbeats 3200000 in
set_option maxRecDepth 100000 in
theorem same_true (ao : Option Addr) (fs : List Fld) (cap : Nat) (mo : Option Addr) (mcap : Nat) (w : World) (hr : FRow w ao fs) (hr' : FRow w mo fs) (hm : fs.length ≤ 5000) :
    Calls Try.prog 30 #[.slice ao fs.length cap, .slice mo fs.length mcap] w fun e w' => e = .returned (.bool true) ∧ Below w.heap.size w w' := by
  go_enter Try.func30, Try.ntmps30
  go_wp2_with fail
  refine (to_any ao fs cap _ hr hm).mono ?_
  rintro e w1 ⟨v1, ps, rfl, hp, hps, hb1⟩
  obtain ⟨a1, c1, hv1, hfr1, -, -, -⟩ := hp.view hb1
  subst hv1
  have hpl : ps.length = fs.length := by rw [← hps, List.length_map]
  rw [hps] at hfr1
  rw [hpl]
  have hfr2 := hr'.below hb1
  clear hp hps hpl hr hr'
  go_wp2
  go_loopw [6] (fun si wr => ∃ k : Nat, k ≤ fs.length ∧ si = .int .i64 k ∧ Below w1.heap.size w1 wr) (fun si _ => fs.length - (intOf si).toNat)
  case atStart => exact ⟨0, by omega, rfl, Below.refl _ _⟩
  case round =>
    obtain ⟨k, hk, rfl, hb⟩ := hrel
    by_cases hlt : k < fs.length
    · have hz : fs ≠ [] := by intro h; rw [h] at hlt; simp at hlt
      obtain ⟨b0, off, rfl, hc⟩ := hfr1.2 hz
      obtain ⟨b1, off1, rfl, hc1⟩ := hfr2.2 hz
      obtain ⟨fa, fc, c0, c1', c2, c3, hsh⟩ := (hc k hlt).below hb
      obtain ⟨ga, gc, e0, e1, e2, e3, hsh'⟩ := (hc1 k hlt).below hb
      clear hc hc1
      generalize fs[k] = f at *
      have CS : Hid (∀ W, Below wr.heap.size wr W → Calls Try.prog 48 #[f.val fa fc, f.val ga gc] W fun e w' => e = .returned (.bool true) ∧ Below W.heap.size W w') := fun W hW => sameF_true f fa fc ga gc W (hsh.below hW) (hsh'.below hW)
      obtain ⟨tag, isB, n, b⟩ := f
      unfold Fld.val at CS
      dsimp only at CS
      simp only at c0 c1' c2 c3 e0 e1 e2 e3
      have hk0 : (0 : Int) ≤ (k : Int) := Int.natCast_nonneg _
      have hk1 : (k : Int) < (fs.length : Int) := by omega
      have hdr : Below wr.heap.size wr wr.drew := (Below.refl _ _).drew
      clear hsh hsh'
      go_wp2_with fail
      go_region_held3 (fun w' => w'.cell? ⟨b0, off + k * 4, none⟩ = some (.int .i64 tag) ∧ w'.cell? ⟨b0, off + k * 4 + 1, none⟩ = some (.bool isB) ∧ w'.cell? ⟨b0, off + k * 4 + 2, none⟩ = some (.int .u64 n) ∧ w'.cell? ⟨b0, off + k * 4 + 3, none⟩ = some (.slice fa b.length fc) ∧
          w'.cell? ⟨b1, off1 + k * 4, none⟩ = some (.int .i64 tag) ∧ w'.cell? ⟨b1, off1 + k * 4 + 1, none⟩ = some (.bool isB) ∧ w'.cell? ⟨b1, off1 + k * 4 + 2, none⟩ = some (.int .u64 n) ∧ w'.cell? ⟨b1, off1 + k * 4 + 3, none⟩ = some (.slice ga b.length gc))
        (first
          | go_keep
          | (go_split_ands
             refine ⟨?_, ?_, ?_, ?_, ?_, ?_, ?_, ?_⟩
             all_goals (rw [hb5.cell (World.block_lt_of_cell? _ _ (by assumption))]; assumption)))
        ((go_at_call 48; refine (CS.out _ hdr).mono ?_; rintro e w5 ⟨rfl, hb5⟩))
      have hB5 : Below w1.heap.size w1 w5 := (hb.trans (hdr.mono hb.size)).trans (hb5.mono hb.size)
      clear hb5 CS c0 c1' c2 c3 e0 e1 e2 e3
      go_wp2
      go_roundw
      case rel => exact ⟨k + 1, by omega, by go_num, hB5⟩
      case measure => simp [intOf]; omega
    · clear hfr1 hfr2
      go_wp2
      go_ret
      exact ⟨rfl, hb1.trans (hb.mono hb1.size)⟩
end Go.Proofs.Yteidjnkkjjigoaa
