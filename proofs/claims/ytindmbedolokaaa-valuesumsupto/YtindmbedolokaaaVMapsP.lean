/- What ValueMaps leans on: keys put in one by one are the keys sorted; Map and Point of any arguments. No conditions beyond those that each states. -/
import Derived.Test.YtindmbedolokaaaVCleanQ
namespace Go.Proofs.Ytindmbedolokaaa
open Go.RowKit Go.Maps Go.WideMaps

set_option maxRecDepth 100000 in
theorem insAll_map (f : ByteArray → V) : ∀ (ps : List (ByteArray × V)) (ks : List ByteArray), (∀ p ∈ ps, p.2 = f p.1) → (insAll ps ks (ks.map f)).2 = (insAll ps ks (ks.map f)).1.map f
  | [], ks, _ => by simp [insAll]
  | p :: r, ks, h => by
    have h0 := h p (by simp)
    have e : insVals p.1 p.2 ks (ks.map f) = (insKeys p.1 ks).map f := by
      unfold insVals insKeys
      split
      · rfl
      · rw [h0]; simp [List.map_append, List.map_take, List.map_drop]
    simp only [insAll]
    rw [e]
    exact insAll_map f r (insKeys p.1 ks) (fun x hx => h x (List.mem_cons_of_mem _ hx))
set_option maxRecDepth 100000 in
theorem hasAt_mem {key : ByteArray} {ks : List ByteArray} (h : hasAt key ks = true) : key ∈ ks := by
  unfold hasAt at h
  split at h
  · rename_i y hy
    have := of_decide_eq_true h
    subst this
    exact List.mem_of_getElem? hy
  · cases h
set_option maxRecDepth 100000 in
theorem insKeys_perm {key : ByteArray} {ks : List ByteArray} (h : key ∉ ks) : (insKeys key ks).Perm (key :: ks) := by
  unfold insKeys
  rw [if_neg (fun e => h (hasAt_mem e))]
  have h1 : (ks.take (below key ks) ++ [key] ++ ks.drop (below key ks)).Perm ([key] ++ ks.take (below key ks) ++ ks.drop (below key ks)) := (List.perm_append_comm).append_right _
  refine h1.trans ?_
  simp
set_option maxRecDepth 100000 in
theorem insAll_perm : ∀ (ps : List (ByteArray × V)) (ks : List ByteArray) (vs : List V), (ps.map (·.1) ++ ks).Nodup → ((insAll ps ks vs).1).Perm (ps.map (·.1) ++ ks)
  | [], ks, _, _ => by simp [insAll]
  | p :: r, ks, vs, h => by
    simp only [List.map_cons, List.cons_append, List.nodup_cons] at h
    have hk : p.1 ∉ ks := fun e => h.1 (by simp [e])
    have hp := insKeys_perm hk
    have h2 : (r.map (·.1) ++ insKeys p.1 ks).Perm (p.1 :: (r.map (·.1) ++ ks)) := (hp.append_left _).trans (List.perm_middle)
    have hn : (r.map (·.1) ++ insKeys p.1 ks).Nodup := h2.nodup_iff.2 (List.nodup_cons.2 h)
    exact (insAll_perm r (insKeys p.1 ks) (insVals p.1 p.2 ks vs) hn).trans (by simpa using h2)
set_option maxRecDepth 100000 in
theorem insAll_rising : ∀ (ps : List (ByteArray × V)) (ks : List ByteArray) (vs : List V), Rising ks → Rising (insAll ps ks vs).1
  | [], _, _, h => h
  | p :: r, ks, _, h => insAll_rising r _ _ (insKeys_rising p.1 ks h)
set_option maxRecDepth 100000 in
theorem zip_fst {q : List ByteArray} {l : List V} (h : q.length = l.length) : (q.zip l).map (·.1) = q := by
  apply List.ext_getElem (by simp [h])
  intro j h1 h2
  simp
set_option maxRecDepth 100000 in
/-- Keys that stand once, put in one by one. -/
theorem insAll_pick {q : List ByteArray} {l : List V} (hl : q.length = l.length) (hn : q.Nodup) : insAll (q.zip l) [] [] = (sortK q, pick q l) := by
  have h1 : (insAll (q.zip l) [] []).1 = sortK q := by
    have hp := insAll_perm (q.zip l) [] [] (by rw [List.append_nil, zip_fst hl]; exact hn)
    rw [List.append_nil, zip_fst hl] at hp
    exact rising_ext (insAll_rising _ _ _ List.Pairwise.nil) (sortK_rising q hn) (hp.trans (sortK_perm q).symm)
  have h2 := insAll_map (fun k => l[posK q k]?.getD V.null) (q.zip l) [] (fun p hp => by
    obtain ⟨j, hj, rfl⟩ := List.getElem_of_mem hp
    have hjq : j < q.length := by simp at hj; omega
    have hjl : j < l.length := by omega
    simp [posK_nodup hn hjq, hjl])
  rw [List.map_nil, h1] at h2
  exact Prod.ext h1 h2
set_option maxRecDepth 100000 in
theorem clean_map7 (b : Bool) (n m : Int) (s : ByteArray) {l : List V} {q : List ByteArray} (hl : q.length = l.length) (hn : q.Nodup) : (V.mk 7 b n m s l q).clean = V.map (pick q (l.map V.clean)) (sortK q) := by
  have : (V.mk 7 b n m s l q).clean = .mk 7 false 0 0 ByteArray.empty (insAll (q.zip (V.clean.go l)) [] []).2 (insAll (q.zip (V.clean.go l)) [] []).1 := by simp [V.clean]
  rw [this, cleanL_map, insAll_pick (by simpa using hl) hn]
  rfl
set_option maxRecDepth 100000 in
theorem point_no (n m : Int) (w : World) (h : partB n = false ∨ (partB n = true ∧ partB m = false)) :
    Calls Try.prog 33 #[.int .i64 n, .int .i64 m] w fun e w' => e = .returned (.tuple #[.agg #[.nilIface], .int .i64 2]) ∧ Below w.heap.size w w' := by
  rcases h with e1 | ⟨e1, e2⟩
  · go_enter Try.func33, Try.ntmps33
    go_wp2_with fail
    refine (maybe_any _ _).mono ?_
    rintro e w1 ⟨rfl, rfl⟩
    go_wp2_with fail
    exact bodyPost_ret (v := .tuple #[.agg #[.nilIface], .int .i64 2]) (by simp [results, Try.results33, go_sem]) rfl ⟨rfl, (Below.refl _ _).alloc (Nat.le_refl _) _⟩
  · go_enter Try.func33, Try.ntmps33
    go_wp2_with fail
    refine (maybe_any _ _).mono ?_
    rintro e w1 ⟨rfl, rfl⟩
    go_wp2_with fail
    refine (maybe_any _ _).mono ?_
    rintro e w2 ⟨rfl, rfl⟩
    go_wp2_with fail
    exact bodyPost_ret (v := .tuple #[.agg #[.nilIface], .int .i64 2]) (by simp [results, Try.results33, go_sem]) rfl ⟨rfl, (Below.refl _ _).alloc (Nat.le_refl _) _⟩
/-- What Point's answer tells. -/
def PtOk (n m : Int) (R : Bool) (pe : Int) (v : V) : Prop := (pe = 0 ↔ R = true) ∧ (R = false → pe = 2) ∧ v.isK 4 = R ∧ (R = true → v.gre = n ∧ v.gim = m)
set_option maxRecDepth 100000 in
theorem point_any (n m : Int) (w : World) : Calls Try.prog 33 #[.int .i64 n, .int .i64 m] w fun e w' => ∃ u pe v, e = .returned (.tuple #[.agg #[u], .int .i64 pe]) ∧ u.oneCell' = true ∧ Rep w' (fun _ => True) u v ∧ PtOk n m (partB n && partB m) pe v ∧ Below w.heap.size w w' := by
  by_cases h : partB n = true ∧ partB m = true
  · obtain ⟨h1, h2⟩ := h
    have b1 : -9007199254740992 ≤ n ∧ n ≤ 9007199254740992 := by simpa [partB] using h1
    have b2 : -9007199254740992 ≤ m ∧ m ≤ 9007199254740992 := by simpa [partB] using h2
    refine (point_yes n m w b1 b2).mono ?_
    rintro e w' ⟨rfl, h3⟩
    have hr := Rep.point (w := w') (ok := fun _ => True) n m b1 b2
    exact ⟨_, 0, _, rfl, hr.one, hr, ⟨by simp [h1, h2], by simp [h1, h2], by simp [h1, h2, V.isK], fun _ => ⟨by simp [V.gre], by simp [V.gim]⟩⟩, h3⟩
  · have h5 : partB n = false ∨ (partB n = true ∧ partB m = false) := by
      cases h6 : partB n
      · exact Or.inl rfl
      · cases h7 : partB m
        · exact Or.inr ⟨rfl, rfl⟩
        · exact absurd ⟨h6, h7⟩ h
    have h8 : (partB n && partB m) = false := by rcases h5 with h | ⟨h, h'⟩ <;> simp [*]
    refine (point_no n m w h5).mono ?_
    rintro e w' ⟨rfl, h3⟩
    have hr := Rep.null (w := w') (ok := fun _ => True)
    refine ⟨_, 2, _, rfl, hr.one, hr, ⟨by simp [h8], by simp, by simp [h8, V.isK, V.null], fun e => by rw [h8] at e; cases e⟩, h3⟩
/-- What Map's answer tells. -/
def MpOk (q : List ByteArray) (l : List V) (pe : Int) (v : V) : Prop :=
  (q.length ≠ l.length ∧ pe = 1 ∧ v.k = 0) ∨ (q.length = l.length ∧ ¬ q.Nodup ∧ pe = 9 ∧ v.k = 0) ∨ (q.length = l.length ∧ q.Nodup ∧ pe = 0 ∧ v = V.map (pick q l) (sortK q))
set_option maxRecDepth 100000 in
theorem map_any (ka : Option Addr) (q : List ByteArray) (kc : Nat) (ao : Option Addr) (l : List V) (c : Nat) (w : World) {ok ok' : Nat → Prop} (hs : SRow w ok' ka q) (hr : RRow w ok ao l) (hbk : V.bulk.go l ≤ 1048576) :
    Calls Try.prog 32 #[.slice ka q.length kc, .slice ao l.length c] w fun e w' => ∃ u pe v, e = .returned (.tuple #[.agg #[u], .int .i64 pe]) ∧ u.oneCell' = true ∧ Rep w' (fun _ => True) u v ∧ MpOk q l pe v ∧ Below w.heap.size w w' := by
  by_cases h1 : q.length = l.length
  · by_cases h2 : q.Nodup
    · obtain ⟨H, hr1, hr2⟩ := hr
      have hr' : RRow w (fun _ => True) ao l := ⟨H, fun hz => by obtain ⟨b, off, e, _, h⟩ := hr1 hz; exact ⟨b, off, e, trivial, h⟩, fun j hj => (hr2 j hj).mono (fun _ _ _ => trivial)⟩
      refine (map_yes ka q kc ao l c w (fun _ _ => trivial) hs hr' h1 hbk h2).mono ?_
      rintro e w' ⟨u, rfl, h3, h4⟩
      exact ⟨u, 0, _, rfl, h3.one, h3, Or.inr (Or.inr ⟨h1, h2, rfl, rfl⟩), h4⟩
    · refine (map_twice ka q kc ao l c w hs h1 (by have := len_le_bulkL l; omega) h2).mono ?_
      rintro e w' ⟨rfl, h4⟩
      have hr := Rep.null (w := w') (ok := fun _ => True)
      exact ⟨_, 9, _, rfl, hr.one, hr, Or.inr (Or.inl ⟨h1, h2, rfl, rfl⟩), h4⟩
  · refine (map_arg ka q kc ao l c w h1).mono ?_
    rintro e w' ⟨rfl, h4⟩
    have hr := Rep.null (w := w') (ok := fun _ => True)
    exact ⟨_, 1, _, rfl, hr.one, hr, Or.inl ⟨h1, rfl, rfl⟩, h4⟩
end Go.Proofs.Ytindmbedolokaaa
