/- What To makes: the same fields, as the document's; their bytes lie where they were. Condition: the slice shows fields, at most 5000. -/
import Derived.Test.YteidjnkkjjigoaaFOwn
import Derived.Test.YteidjnkkjjigoaaVarA
import Derived.Deep.RegionHeld3
import Derived.Deep.AppendLies
namespace Go.Proofs.Yteidjnkkjjigoaa
open Go.RowKit

theorem infoRF : (Try.prog.info? 75).map (fun i => (i.zero, i.size, i.bytes)) = some (some (.agg #[.int .i64 0, .bool false, .int .u64 0, .slice none 0 0]), 4, 48) := by kernel_rfl

/-- Fields of the call's own, their bytes where they lay in the world w0. -/
def PickedT (T : TypeId) (w0 w : World) (base : Nat) (v : Value) (ps : List (Fld × Option Addr × Nat)) : Prop := w.ownsRow base T 4 v ps.length (cellsP ps) ∧ ∀ p ∈ ps, p.1.ok ∧ p.1.shown w0 p.2.1 p.2.2
theorem PickedT.nil (T : TypeId) (w0 w : World) (base : Nat) : PickedT T w0 w base (.slice none 0 0) [] := ⟨World.ownsRow_nil _ _ _ _, by simp⟩
theorem PickedT.view {T : TypeId} {w0 w : World} {base : Nat} {v : Value} {ps : List (Fld × Option Addr × Nat)} (h : PickedT T w0 w base v ps) (hb : Below w0.heap.size w0 w) :
    ∃ a cap, v = .slice a ps.length cap ∧ FRow w a (ps.map (·.1)) ∧ (a = none → ps.length = 0 ∧ cap = 0) ∧ ps.length ≤ cap ∧ cap ≤ maxLen :=
  own_fview h.1 (fun p hp => (h.2 p hp).1) (fun p hp => (h.2 p hp).2.below hb)

set_option maxHeartbeats 3200000 in
set_option maxRecDepth 100000 in
theorem to_any (ao : Option Addr) (fs : List Fld) (cap : Nat) (w : World) (hr : FRow w ao fs) (hm : fs.length ≤ 5000) :
    Calls Try.prog 28 #[.slice ao fs.length cap] w fun e w' => ∃ v ps, e = .returned v ∧ PickedT 75 w w' w.heap.size v ps ∧ ps.map (·.1) = fs ∧ Below w.heap.size w w' := by
  obtain ⟨i0, hi, hz0, hz1, hz2⟩ := info_parts infoRF
  go_enter Try.func28, Try.ntmps28
  go_wp2
  go_loopw [3, 4] (fun v si wr => ∃ (k : Nat) (ps : List (Fld × Option Addr × Nat)), k ≤ fs.length ∧ si = .int .i64 k ∧ PickedT 75 w wr w.heap.size v ps ∧ Hid (ps.map (·.1) = fs.take k) ∧ ps.length = k ∧ Below w.heap.size w wr) (fun _ si _ => fs.length - (intOf si).toNat)
  case atStart => exact ⟨0, [], by omega, rfl, PickedT.nil _ _ _ _, rfl, rfl, Below.refl _ _⟩
  case round =>
    obtain ⟨k, ps, hk, rfl, hp, hid, hpl, hb⟩ := hrel
    by_cases hlt : k < fs.length
    · have hz : fs ≠ [] := by intro h; rw [h] at hlt; simp at hlt
      obtain ⟨b0, off, rfl, hc⟩ := hr.2 hz
      obtain ⟨fa, fc, c0, c1, c2, c3, hsh⟩ := hc k hlt
      have hlt0 : b0 < w.heap.size := World.block_lt_of_cell? w ⟨b0, off + k * 4, none⟩ c0
      have hlt1 : b0 < wr.heap.size := Nat.lt_of_lt_of_le hlt0 hb.size
      have d0 := (hb.cell (p := ⟨b0, off + k * 4, none⟩) hlt0).trans c0
      have d1 := (hb.cell (p := ⟨b0, off + k * 4 + 1, none⟩) hlt0).trans c1
      have d2 := (hb.cell (p := ⟨b0, off + k * 4 + 2, none⟩) hlt0).trans c2
      have d3 := (hb.cell (p := ⟨b0, off + k * 4 + 3, none⟩) hlt0).trans c3
      have hok := hr.1 fs[k] (List.getElem_mem hlt)
      have HT : Hid (fs.take (k + 1) = fs.take k ++ [fs[k]]) := List.take_succ_eq_append_getElem hlt
      clear c0 c1 c2 c3 hc hr
      generalize fs[k] = f at *
      obtain ⟨tag, isB, n, b⟩ := f
      simp only at d0 d1 d2 d3
      have hk0 : (0 : Int) ≤ (k : Int) := Int.natCast_nonneg _
      have hk1 : (k : Int) < (fs.length : Int) := by omega
      have hne : ∀ q, u3.ownBlock = some q → q ≠ b0 := fun q hq => by have := (hp.1.lt q hq).1; omega
      have hne' : some b0 ≠ u3.ownBlock := fun e => hne b0 e.symm rfl
      have hpl2 : ps.length + 1 ≤ 5000 := by omega
      have HPL : Hid (ps.length = k) := hpl
      clear hpl hne
      go_wp2_with fail
      go_region_held3 (fun w' => w'.cell? ⟨b0, off + k * 4, none⟩ = some (.int .i64 tag) ∧ w'.cell? ⟨b0, off + k * 4 + 1, none⟩ = some (.bool isB) ∧ w'.cell? ⟨b0, off + k * 4 + 2, none⟩ = some (.int .u64 n) ∧ w'.cell? ⟨b0, off + k * 4 + 3, none⟩ = some (.slice fa b.length fc))
        (first
          | go_keep
          | (go_split_ands
             refine ⟨?_, ?_, ?_, ?_⟩
             · (rw [hgrow.cell_far _ (by simp; omega) hne']; assumption)
             · (rw [hgrow.cell_far _ (by simp; omega) hne']; assumption)
             · (rw [hgrow.cell_far _ (by simp; omega) hne']; assumption)
             · (rw [hgrow.cell_far _ (by simp; omega) hne']; assumption)))
        ((refine step_append_lies _ (by rfl) _ _ _ (by rfl) w.heap.size 75 i0 _ 4 48 Try.underlying48 hi hz0 hz1 hz2 rfl (by omega) u3 ps.length (cellsP ps) (by rfl) ((hp.1.alloc _).drew)
            ⟨wr.heap.size, 0, none⟩ 1 1 (pcells (⟨tag, isB, n, b⟩, fa, fc)) (by rfl) (by rfl) (pcells_new wr 75 (⟨tag, isB, n, b⟩, fa, fc)) (pcells_one _)
            (by omega) (by unfold maxLen; omega) (by omega) (by have := hb.size; simp; omega) (wr.heap.size + 1) (by simp) ?_; intro g c3 w3 hown3 hgrow hat hlt3))
      have hB3 : Below w.heap.size w w3 := ((hb.alloc hb.size _).drew).grown hgrow (by have := hb.size; simp; omega) (fun q hq => (hp.1.lt q hq).1)
      have hp3 : PickedT 75 w w3 w.heap.size (.slice (some ⟨g, 0, none⟩) (ps.length + 1) c3) (ps ++ [(⟨tag, isB, n, b⟩, fa, fc)]) := by
        refine ⟨by rw [List.length_append, cellsP_snoc]; exact hown3, ?_⟩
        intro p hp'
        rcases List.mem_append.1 hp' with h | h
        · exact hp.2 p h
        · simp at h; subst h; exact ⟨hok, hsh⟩
      have hid3 : Hid ((ps ++ [((⟨tag, isB, n, b⟩ : Fld), fa, fc)]).map (·.1) = fs.take (k + 1)) := by
        show _ = _
        rw [HT.out, List.map_append, hid.out]; rfl
      have hpl3 : (ps ++ [((⟨tag, isB, n, b⟩ : Fld), fa, fc)]).length = k + 1 := by rw [List.length_append, HPL.out]; rfl
      have HPL3 : Hid ((ps ++ [((⟨tag, isB, n, b⟩ : Fld), fa, fc)]).length = k + 1) := hpl3
      clear hpl3 hown3 hgrow hat hp hid HT d0 d1 d2 d3
      go_wp2
      go_roundw
      case rel => exact ⟨k + 1, _, by omega, by go_num, hp3, hid3, HPL3.out, hB3⟩
      case measure => simp [intOf]; omega
    · have hE : Hid (ps.map (·.1) = fs) := by
        show _ = _
        rw [hid.out, List.take_of_length_le (by omega)]
      clear hid hr
      go_wp2
      go_ret
      exact ⟨_, ps, rfl, hp, hE.out, hb⟩
end Go.Proofs.Yteidjnkkjjigoaa
