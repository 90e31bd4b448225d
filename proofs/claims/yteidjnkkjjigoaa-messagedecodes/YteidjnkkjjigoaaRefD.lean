/- What the document's Lay makes: a field's bytes. Conditions: the field's tag is from 1 to 1000, its bytes at most 5000. -/
import Derived.Test.YteidjnkkjjigoaaMsgC
import Derived.Test.YteidjnkkjjigoaaRefA
import Derived.Deep.RegionHeld3
import Derived.Deep.AppendLies
namespace Go.Proofs.Yteidjnkkjjigoaa
open Go.RowKit

theorem u64_in (x : Int) (h : 0 ≤ x) (h' : x < 18446744073709551616) : IntKind.u64.wrap x = x := by
  rw [IntKind.wrap_u64, Int.emod_eq_of_lt h h']
theorem own_base {w : World} {base base' n : Nat} {v : Value} {xs : List Value} (h : w.ownsRow base 5 1 v n xs) (hb : base' ≤ base) : w.ownsRow base' 5 1 v n xs := by
  refine ⟨h.1, ?_⟩
  rcases h.2 with h | ⟨g, cap, cur, h1, h2, h3⟩
  · exact Or.inl h
  · exact Or.inr ⟨g, cap, cur, h1, Nat.le_trans hb h2, h3⟩

set_option maxHeartbeats 3200000 in
set_option maxRecDepth 100000 in
theorem rlay_any (f : Fld) (fa : Option Addr) (fc : Nat) (w : World) (hok : f.ok) (ht : 1 ≤ f.tag ∧ f.tag ≤ 1000) (hsh : f.shown w fa fc) (hlen : f.b.length ≤ 5000) :
    Calls Try.prog 45 #[f.val fa fc] w fun e w' => ∃ g cap, e = .returned (.slice (some ⟨g, 0, none⟩) (lay f).length cap) ∧ w'.ownsRow w.heap.size 5 1 (.slice (some ⟨g, 0, none⟩) (lay f).length cap) (lay f).length ((lay f).map (Value.int .u8)) ∧ Below w.heap.size w w' := by
  obtain ⟨tag, isB, m, b⟩ := f
  obtain ⟨⟨ht0, ht1⟩, hm0, hm1⟩ := hok
  obtain ⟨hr, hnil, hbc, hmax⟩ := hsh
  simp only at ht0 ht1 hm0 hm1 hr hnil hbc hlen ht
  obtain ⟨i0, hi, hz0, hz1, hz2⟩ := info_parts info8
  unfold Fld.val
  have hw0 := u64_in tag (by omega) (by omega)
  cases isB
  · have hl1 := enc_len (tag * 2)
    have hl2 := enc_len m
    have hL : lay ⟨tag, false, m, b⟩ = enc (tag * 2) ++ enc m := by simp [lay]
    have HL : Hid (lay ⟨tag, false, m, b⟩ = enc (tag * 2) ++ enc m) := hL
    clear hL
    have hw1 := u64_in (tag * 2) (by omega) (by omega)
    go_enter Try.func45, Try.ntmps45
    go_wp2_with fail
    go_region_held3 (fun w' => w'.cell? ⟨w.heap.size, 0, none⟩ = some (.int .i64 tag) ∧ w'.cell? ⟨w.heap.size, 2, none⟩ = some (.int .u64 m))
      (first
        | go_keep
        | (go_split_ands; exact ⟨hgrow.cell (by assumption) (by simp [Value.ownBlock]; omega), hgrow.cell (by assumption) (by simp [Value.ownBlock]; omega)⟩)
        | (go_split_ands; refine ⟨?_, ?_⟩ <;> (rw [hb6.cell (World.block_lt_of_cell? _ _ (by assumption))]; assumption))
        | (go_split_ands; refine ⟨?_, ?_⟩ <;> (rw [hb5.cell (World.block_lt_of_cell? _ _ (by assumption))]; assumption)))
      (first
        | (go_at_call 14; have hq := hown5.1; clear hq; refine (rbytes_any m _ (by omega) (by omega)).mono ?_; rintro e w6 ⟨g6, c6, rfl, hg6, hcap6, hown6, hb6⟩)
        | (go_at_call 14; refine (rbytes_any (tag * 2) _ (by omega) (by omega)).mono ?_; rintro e w5 ⟨g5, c5, rfl, hg5, hcap5, hown5, hb5⟩; have hg5' : w.heap.size + 1 ≤ g5 := by simpa using hg5)
        | (refine step_append_lies _ (by rfl) _ _ _ (by rfl) (w.heap.size + 1) 5 i0 _ 1 1 Try.underlying22 hi hz0 hz1 hz2 rfl (by omega) (.slice (some ⟨g5, 0, none⟩) (enc (tag * 2)).length c5) (enc (tag * 2)).length ((enc (tag * 2)).map (Value.int .u8)) (by rfl) (by simpa using own_below hown5 hb6)
            ⟨g6, 0, none⟩ (enc m).length c6 ((enc m).map (Value.int .u8)) (by rfl) (by simp) ((Row.own (enc_byte m hm0) rfl hown6).news _ rfl) (ints_oneCell _ _)
            (by omega) (by unfold maxLen; omega) (by omega) (by have h1 := hb5.size; have h2 := hb6.size; simp at h1; omega) _ rfl ?_; intro g c3 w7 hown7 hgrow hat hlt3)
        | fail)
    have hb1 : Below w.heap.size w w6 := ((((Below.refl _ _).alloc (Nat.le_refl _) _).drew.trans (hb5.mono (by simp))).trans (hb6.mono (by have := hb5.size; simp at this; omega)))
    have hb7 := below_own hb1 (own_base (own_below hown5 hb6) (by simp)) hb1.size hgrow
    go_wp2
    go_ret
    refine ⟨g, c3, ?_, ?_, hb7⟩
    · rw [HL.out, List.length_append]; rfl
    · rw [HL.out, List.length_append, List.map_append]; exact own_base hown7 (by omega)
  · have hl1 := enc_len (tag * 2 + 1)
    have hl2 := enc_len (b.length : Int)
    have HL : Hid (lay ⟨tag, true, m, b⟩ = enc (tag * 2 + 1) ++ enc b.length ++ b) := by show lay _ = _; simp [lay]
    have hw1 := u64_in (tag * 2) (by omega) (by omega)
    have hw2 := u64_in (tag * 2 + 1) (by omega) (by omega)
    have hw3 := u64_in (b.length : Int) (by omega) (by omega)
    go_enter Try.func45, Try.ntmps45
    go_wp2_with fail
    go_region_held3 (fun w' => w'.cell? ⟨w.heap.size, 0, none⟩ = some (.int .i64 tag) ∧ w'.cell? ⟨w.heap.size, 3, none⟩ = some (.slice fa b.length fc))
      (first
        | go_keep
        | (go_split_ands; exact ⟨hgrow.cell (by assumption) (by simp [Value.ownBlock]; omega), hgrow.cell (by assumption) (by simp [Value.ownBlock]; omega)⟩)
        | (go_split_ands; refine ⟨?_, ?_⟩ <;> (rw [hb6.cell (World.block_lt_of_cell? _ _ (by assumption))]; assumption))
        | (go_split_ands; refine ⟨?_, ?_⟩ <;> (rw [hb5.cell (World.block_lt_of_cell? _ _ (by assumption))]; assumption)))
      (first
        | (go_at_call 14; have hq := hown5.1; clear hq; refine (rbytes_any b.length _ (by omega) (by omega)).mono ?_; rintro e w6 ⟨g6, c6, rfl, hg6, hcap6, hown6, hb6⟩)
        | (go_at_call 14; refine (rbytes_any (tag * 2 + 1) _ (by omega) (by omega)).mono ?_; rintro e w5 ⟨g5, c5, rfl, hg5, hcap5, hown5, hb5⟩; have hg5' : w.heap.size + 1 ≤ g5 := by simpa using hg5)
        | (refine step_append_lies _ (by rfl) _ _ _ (by rfl) (w.heap.size + 1) 5 i0 _ 1 1 Try.underlying22 hi hz0 hz1 hz2 rfl (by omega) (.slice (some ⟨g5, 0, none⟩) (enc (tag * 2 + 1)).length c5) (enc (tag * 2 + 1)).length ((enc (tag * 2 + 1)).map (Value.int .u8)) (by rfl) (by simpa using own_below hown5 hb6)
            ⟨g6, 0, none⟩ (enc (b.length : Int)).length c6 ((enc (b.length : Int)).map (Value.int .u8)) (by rfl) (by simp) ((Row.own (enc_byte (b.length : Int) (by omega)) rfl hown6).news _ rfl) (ints_oneCell _ _)
            (by omega) (by unfold maxLen; omega) (by omega) (by have h1 := hb5.size; have h2 := hb6.size; simp at h1; omega) _ rfl ?_; intro g c3 w7 hown7 hgrow hat hlt3)
        | fail)
    have hb1 : Below w.heap.size w w6 := ((((Below.refl _ _).alloc (Nat.le_refl _) _).drew.trans (hb5.mono (by simp))).trans (hb6.mono (by have := hb5.size; simp at this; omega)))
    have hb7 := below_own hb1 (own_base (own_below hown5 hb6) (by simp)) hb1.size hgrow
    have hown7' := own_base hown7 (base' := w.heap.size) (by omega)
    clear hown5 hown6 hb5 hb6 hgrow hat hb1
    go_wp2_with (at_builtin; go_must (refine wpList_append_bytes rfl (.tmp 28) (.tmp 30) rfl w.heap.size _ ((enc (tag * 2 + 1)).length + (enc (b.length : Int)).length) _ rfl hown7' fa b b.length fc rfl rfl (hr.below hb7) hnil (by omega) hb7.size ?_; intro v8 w8 hown8 hgrow8))
    have hb8 := below_own hb7 hown7' hb7.size hgrow8
    go_ret
    rcases hown8.2 with ⟨-, h0⟩ | ⟨g8, cap8, cur8, hv8, -⟩
    · omega
    · subst hv8
      refine ⟨g8, cap8, ?_, ?_, hb8⟩
      · rw [HL.out, List.length_append, List.length_append]; rfl
      · rw [HL.out, List.length_append, List.length_append, List.map_append, List.map_append]; exact hown8
end Go.Proofs.Yteidjnkkjjigoaa
