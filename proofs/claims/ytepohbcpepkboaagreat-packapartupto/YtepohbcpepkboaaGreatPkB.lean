/- The value of bytes, in plain mathematics; that of a value's bytes is the value. No conditions; no program. -/
import Derived.Test.YtepohbcpepkboaaGreatPureE
import Derived.Test.YtepohbcpepkboaaGreatVTree
import Derived.Test.YtepohbcpepkboaaGreatFindD
import Derived.Test.YtepohbcpepkboaaGreatVMap
import Derived.Test.YtepohbcpepkboaaGreatVFits
import Derived.Test.YtepohbcpepkboaaGreatVMeas
namespace Go.Proofs.YtepohbcpepkboaaGreat
open Go.RowKit

/-- A text's bytes. -/
def bsI (s : ByteArray) : List Int := s.data.toList.map (fun c => (c.toNat : Int))
set_option maxRecDepth 100000 in
theorem bsI_byte (s : ByteArray) : ∀ c ∈ bsI s, 0 ≤ c ∧ c ≤ 255 := by
  intro c hc
  obtain ⟨x, -, rfl⟩ := List.mem_map.1 hc
  have := x.toNat_lt
  omega
set_option maxRecDepth 100000 in
theorem bsI_len (s : ByteArray) : (bsI s).length = s.size := by simp [bsI]
set_option maxRecDepth 100000 in
theorem str_bsI (s : ByteArray) : strOfNums (bsI s) = s := by
  apply ByteArray.ext
  apply Array.ext'
  rw [strOfNums_data, bsI, List.map_map]
  have e : ((fun n : Int => UInt8.ofNat n.toNat) ∘ fun c : UInt8 => (c.toNat : Int)) = id := by funext c; simp
  rw [e, List.map_id]
/-- The fields ahead of the values'. -/
def packH (k : Int) (b : Bool) (n m : Int) (s : ByteArray) (q : List ByteArray) : List Fld :=
  ⟨1, false, k, []⟩ :: (if k = 2 then [⟨2, false, if b then 1 else 0, []⟩] else if k = 3 then [⟨2, false, zigv n, []⟩] else if k = 4 then [⟨2, false, zigv n, []⟩, ⟨3, false, zigv m, []⟩] else
    if k = 5 then [⟨4, true, 0, bsI s⟩] else if k = 7 then q.map (fun x => ⟨6, true, 0, bsI x⟩) else [])
def tagOf (k : Int) : Int := if k = 7 then 7 else 5
/-- A value's bytes. -/
def V.packB : V → List Int
  | .mk k b n m s l q => (encM (packH k b n m s q ++ go (tagOf k) l)).1
  where go (t : Int) : List V → List Fld
    | [] => []
    | x :: r => ⟨t, true, 0, x.packB⟩ :: go t r
/-- A value's fields. -/
def V.packF (v : V) : List Fld := packH v.k v.b v.n v.m v.s v.keys ++ V.packB.go (tagOf v.k) v.l
set_option maxRecDepth 100000 in
theorem packB_eq (v : V) : v.packB = (encM v.packF).1 := by
  cases v; rfl
set_option maxRecDepth 100000 in
theorem packGo (t : Int) : ∀ l : List V, V.packB.go t l = l.map (fun x => ⟨t, true, 0, x.packB⟩)
  | [] => rfl
  | x :: r => by simp only [V.packB.go, List.map_cons, packGo t r]
/-- Does the value's message, or one within it, fail? -/
def V.packX : V → Bool
  | .mk k b n m s l q => go l || decide ((encM (packH k b n m s q ++ V.packB.go (tagOf k) l)).2 ≠ 0)
  where go : List V → Bool
    | [] => false
    | x :: r => x.packX || go r
set_option maxRecDepth 100000 in
theorem packX_go : ∀ l : List V, V.packX.go l = l.any V.packX
  | [] => rfl
  | x :: r => by simp only [V.packX.go, List.any_cons, packX_go r]
set_option maxRecDepth 100000 in
theorem packX_eq (v : V) : v.packX = (v.l.any V.packX || decide ((encM v.packF).2 ≠ 0)) := by
  cases v
  simp only [V.packX, packX_go]
  rfl
set_option maxRecDepth 100000 in
theorem okF_rows (t : Int) (h1 : 1 ≤ t) (h2 : t ≤ 1000) : ∀ (bs : List (List Int)) (A : List Fld), (∀ l, A.getLast? = some l → l.tag < t ∨ (l.tag = t ∧ l.isB = true)) → okF A (bs.map (fun b => ⟨t, true, 0, b⟩)) = true
  | [], _, _ => rfl
  | b :: bs, A, h => by
    simp only [List.map_cons, okF, Bool.and_eq_true]
    refine ⟨⟨?_, by simp [mixedB]⟩, okF_rows t h1 h2 bs _ (fun l hl => by simp at hl; subst hl; exact Or.inr ⟨rfl, rfl⟩)⟩
    unfold fmay
    rw [if_neg (by simp only; omega)]
    cases hA : A.getLast? with
    | none => rfl
    | some l =>
      rcases h l hA with h | ⟨h, hb⟩
      · simp only
        rw [if_neg (by omega)]
        simp; omega
      · simp [h, hb]
set_option maxRecDepth 100000 in
theorem packH_ok (k : Int) (b : Bool) (n m : Int) (s : ByteArray) (q : List ByteArray) : okF [] (packH k b n m s q) = true ∧ ∃ l, (packH k b n m s q).getLast? = some l ∧ l.tag < tagOf k := by
  unfold packH tagOf
  by_cases h2 : k = 2
  · subst h2; simp [okF, fmay, mixedB]
  by_cases h3 : k = 3
  · subst h3; simp [okF, fmay, mixedB]
  by_cases h4 : k = 4
  · subst h4; simp [okF, fmay, mixedB]
  by_cases h5 : k = 5
  · subst h5; simp [okF, fmay, mixedB]
  by_cases h7 : k = 7
  · subst h7
    simp only [show ¬ (7 : Int) = 2 by decide, show ¬ (7 : Int) = 3 by decide, show ¬ (7 : Int) = 4 by decide, show ¬ (7 : Int) = 5 by decide, if_false, if_true]
    have e : (q.map (fun x => (⟨6, true, 0, bsI x⟩ : Fld))) = (q.map bsI).map (fun b => ⟨6, true, 0, b⟩) := by rw [List.map_map]; rfl
    refine ⟨?_, ?_⟩
    · simp only [okF, Bool.and_eq_true]
      refine ⟨by simp [fmay, mixedB], ?_⟩
      rw [e]
      exact okF_rows 6 (by decide) (by decide) _ _ (fun l hl => by simp at hl; subst hl; exact Or.inl (by decide))
    · cases hq : q.getLast? with
      | none => rw [List.getLast?_eq_none_iff.1 hq]; exact ⟨_, rfl, by decide⟩
      | some x =>
        refine ⟨⟨6, true, 0, bsI x⟩, ?_, by show (6 : Int) < 7; decide⟩
        rw [List.getLast?_cons, List.getLast?_map, hq]
        rfl
  · simp [h2, h3, h4, h5, h7, okF, fmay, mixedB]
set_option maxRecDepth 100000 in
theorem packF_ok (v : V) : okF [] v.packF = true := by
  unfold V.packF
  obtain ⟨h1, l, h2, h3⟩ := packH_ok v.k v.b v.n v.m v.s v.keys
  rw [okF_append, h1, Bool.true_and, packGo]
  have e : (v.l.map (fun x => (⟨tagOf v.k, true, 0, x.packB⟩ : Fld))) = (v.l.map V.packB).map (fun b => ⟨tagOf v.k, true, 0, b⟩) := by rw [List.map_map]; rfl
  rw [e]
  refine okF_rows _ ?_ ?_ _ _ (fun l' hl' => by rw [List.nil_append, h2] at hl'; injection hl' with hl'; subst hl'; exact Or.inl h3)
  · unfold tagOf; split <;> omega
  · unfold tagOf; split <;> omega
set_option maxRecDepth 100000 in
theorem enc_err {fs : List Fld} (h : okF [] fs = true) : (encM fs).2 = 0 ∨ (encM fs).2 = 3 := by
  unfold encM
  rw [if_pos h]
  split
  · exact Or.inr rfl
  · split
    · exact Or.inr rfl
    · exact Or.inl rfl
/-- All numbers are ints. -/
def V.nok : V → Prop
  | .mk _ _ n m _ l _ => (I64 n ∧ I64 m) ∧ go l
  where go : List V → Prop
    | [] => True
    | x :: r => x.nok ∧ go r
set_option maxRecDepth 100000 in
theorem nok_go : ∀ l : List V, V.nok.go l ↔ ∀ x ∈ l, x.nok
  | [] => by simp [V.nok.go]
  | x :: r => by simp only [V.nok.go, nok_go r, List.mem_cons, forall_eq_or_imp]
set_option maxRecDepth 100000 in
theorem nok_eq (v : V) : v.nok ↔ (I64 v.n ∧ I64 v.m) ∧ ∀ x ∈ v.l, x.nok := by
  cases v; simp only [V.nok, nok_go]
set_option maxRecDepth 100000 in
theorem packH_flds (k : Int) (b : Bool) (n m : Int) (s : ByteArray) (q : List ByteArray) (hk : 0 ≤ k ∧ k ≤ 7) (hn : I64 n) (hm : I64 m) : ∀ f ∈ packH k b n m s q, f.ok := by
  have z1 := zigv_bound n hn.1 hn.2
  have z2 := zigv_bound m hm.1 hm.2
  intro f hf
  unfold packH at hf
  rcases List.mem_cons.1 hf with rfl | hf
  · unfold Fld.ok; simp only; omega
  split at hf
  · simp at hf; subst hf; unfold Fld.ok; cases b <;> simp
  split at hf
  · simp at hf; subst hf; unfold Fld.ok; simp only; omega
  split at hf
  · simp at hf; rcases hf with rfl | rfl <;> (unfold Fld.ok; simp only; omega)
  split at hf
  · simp at hf; subst hf; unfold Fld.ok; simp
  split at hf
  · obtain ⟨x, -, rfl⟩ := List.mem_map.1 hf; unfold Fld.ok; simp
  · simp at hf
set_option maxRecDepth 100000 in
theorem packF_flds {v : V} (hk : 0 ≤ v.k ∧ v.k ≤ 7) (hn : v.nok) : ∀ f ∈ v.packF, f.ok := by
  obtain ⟨⟨h1, h2⟩, -⟩ := (nok_eq v).1 hn
  intro f hf
  unfold V.packF at hf
  rcases List.mem_append.1 hf with hf | hf
  · exact packH_flds _ _ _ _ _ _ hk h1 h2 f hf
  · rw [packGo] at hf
    obtain ⟨x, -, rfl⟩ := List.mem_map.1 hf
    unfold Fld.ok tagOf
    simp only
    split <;> omega
set_option maxRecDepth 100000 in
theorem cl_kind {v : V} (h : v.cl) : 0 ≤ v.k ∧ v.k ≤ 7 := by
  cases v; simp only [V.cl] at h; exact h.1
set_option maxRecDepth 100000 in
theorem packB_len (v : V) : v.packB.length ≤ 4096 := by rw [packB_eq]; exact encM_len _
set_option maxRecDepth 100000 in
theorem blen_mem : ∀ {fs : List Fld} {f : Fld}, f ∈ fs → f.b.length ≤ blen fs
  | g :: fs, f, h => by
    have e : blen (g :: fs) = g.b.length + blen fs := by simp [blen]
    rcases List.mem_cons.1 h with rfl | h
    · omega
    · have := blen_mem h; omega
set_option maxRecDepth 100000 in
/-- The bytes, read: the fields. -/
theorem packB_dec {v : V} (hk : 0 ≤ v.k ∧ v.k ≤ 7) (hn : v.nok) (hx : v.packX = false) : (decM v.packB).1 = v.packF := by
  rw [packX_eq] at hx
  simp only [Bool.or_eq_false_iff, decide_eq_false_iff_not, ne_eq, Decidable.not_not] at hx
  rw [packB_eq, decM_enc v.packF hx.2 (packF_flds hk hn) (fun f hf => ?_)]
  have h1 := blen_mem hf
  have h2 := (encM_ok hx.2).1
  have h3 := blen_lay v.packF [] h2
  have h4 := encM_len v.packF
  rw [(encM_ok hx.2).2] at h4
  omega
end Go.Proofs.YtepohbcpepkboaaGreat

namespace Go.Proofs.YtepohbcpepkboaaGreat
open Go.RowKit

def mapV (q : List ByteArray) (l : List V) : V := if q.length = l.length ∧ q.Nodup then V.map (pick q l) (sortK q) else V.null
/-- The value of fields, by the value of each one's bytes. -/
def valOf (g : List Int → V) (fs : List Fld) : V :=
  if numN (fitB 1 false) fs = 1 then .mk 1 false 0 0 ByteArray.empty [] []
  else if numN (fitB 1 false) fs = 2 then .mk 2 (decide (numN (fitB 2 false) fs = 1)) 0 0 ByteArray.empty [] []
  else if numN (fitB 1 false) fs = 3 then .mk 3 false (zagv (numN (fitB 2 false) fs)) 0 ByteArray.empty [] []
  else if numN (fitB 1 false) fs = 4 then (if partB (zagv (numN (fitB 2 false) fs)) = true ∧ partB (zagv (numN (fitB 3 false) fs)) = true then .mk 4 false (zagv (numN (fitB 2 false) fs)) (zagv (numN (fitB 3 false) fs)) ByteArray.empty [] [] else V.null)
  else if numN (fitB 1 false) fs = 5 then .mk 5 false 0 0 (strOfNums (bytB (fitB 4 true) fs)) [] []
  else if numN (fitB 1 false) fs = 6 then V.list ((manyB 5 fs).map g)
  else if numN (fitB 1 false) fs = 7 then mapV ((manyB 6 fs).map strOfNums) ((manyB 7 fs).map g)
  else V.null
def valF : Nat → List Int → V
  | 0, _ => V.null
  | f + 1, zs => valOf (valF f) (decM zs).1
set_option maxRecDepth 100000 in
theorem mapV_rising {q : List ByteArray} {l : List V} (h : q.length = l.length) (hr : Rising q) : mapV q l = V.map l q := by
  have hn := hr.nodup
  have hs : sortK q = q := by
    unfold sortK
    have h1 : (q.map (fun s => s.data.toList)).Pairwise (fun a b => leB a b = true) := by
      rw [List.pairwise_map]
      exact hr.imp (fun h => by
        simp only [leB, decide_eq_true_eq]
        exact List.le_of_lt h)
    rw [List.mergeSort_of_pairwise h1, List.map_map]
    have e : (bytesOf ∘ fun s : ByteArray => s.data.toList) = id := by funext s; exact bytesOf_list s
    rw [e, List.map_id]
  unfold mapV
  rw [if_pos ⟨h, hn⟩]
  unfold pick
  rw [hs]
  congr 1
  apply List.ext_getElem (by simpa using h)
  intro j h3 h4
  rw [List.getElem_map, posK_nodup hn]
  simp [h4]
set_option maxRecDepth 100000 in
theorem num_first (v : V) : numN (fitB 1 false) v.packF = v.k := by
  simp [V.packF, packH, numN, fitB, List.findIdx_cons]
set_option maxRecDepth 100000 in
theorem filter_rows (t t' : Int) (bs : List (List Int)) : (bs.map (fun b => (⟨t, true, 0, b⟩ : Fld))).filter (fitB t' true) = if t = t' then bs.map (fun b => ⟨t, true, 0, b⟩) else [] := by
  split
  · rename_i e
    rw [List.filter_eq_self]
    intro f hf
    obtain ⟨b, -, rfl⟩ := List.mem_map.1 hf
    simp [fitB, e]
  · rename_i e
    rw [List.filter_eq_nil_iff]
    intro f hf
    obtain ⟨b, -, rfl⟩ := List.mem_map.1 hf
    simp [fitB, e]
set_option maxRecDepth 100000 in
theorem valOf_pack {g : List Int → V} {v : V} (h : v.cl) (hg : ∀ x ∈ v.l, g x.packB = x) : valOf g v.packF = v := by
  have hk := cl_kind h
  obtain ⟨k, b, n, m, s, l, q⟩ := v
  have e0 := num_first (V.mk k b n m s l q)
  unfold valOf
  rw [e0]
  simp only [V.cl] at h
  obtain ⟨-, c1, c2, c3, c4, c5, c6, c7, c8, c9⟩ := h
  simp only at hk hg ⊢
  have hrow : V.packB.go (tagOf k) l = (l.map V.packB).map (fun b => ⟨tagOf k, true, 0, b⟩) := by rw [packGo, List.map_map]; rfl
  by_cases h1 : k = 1
  · subst h1
    rw [if_pos rfl, c1 (by decide), c2 (by decide) (by decide), c3 (by decide), c4 (by decide), c5 (by decide) (by decide), c6 (by decide)]
  rw [if_neg h1]
  by_cases h2 : k = 2
  · subst h2
    rw [if_pos rfl, c2 (by decide) (by decide), c3 (by decide), c4 (by decide), c5 (by decide) (by decide), c6 (by decide)]
    cases b <;> simp [V.packF, packH, numN, fitB, V.packB.go, List.findIdx_cons]
  rw [if_neg h2]
  by_cases h3 : k = 3
  · subst h3
    rw [if_pos rfl, c1 (by decide), c3 (by decide), c4 (by decide), c5 (by decide) (by decide), c6 (by decide)]
    simp [V.packF, packH, numN, fitB, V.packB.go, List.findIdx_cons, zag_zig]
  rw [if_neg h3]
  by_cases h4 : k = 4
  · subst h4
    obtain ⟨g1, g2⟩ := c8 rfl
    have p1 : partB n = true := by simp [partB, g1.1, g1.2]
    have p2 : partB m = true := by simp [partB, g2.1, g2.2]
    rw [if_pos rfl, c1 (by decide), c4 (by decide), c5 (by decide) (by decide), c6 (by decide)]
    simp [V.packF, packH, numN, fitB, V.packB.go, List.findIdx_cons, zag_zig, p1, p2]
  rw [if_neg h4]
  by_cases h5 : k = 5
  · subst h5
    rw [if_pos rfl, c1 (by decide), c2 (by decide) (by decide), c3 (by decide), c5 (by decide) (by decide), c6 (by decide)]
    simp [V.packF, packH, bytB, fitB, V.packB.go, List.findIdx_cons, str_bsI]
  rw [if_neg h5]
  by_cases h6 : k = 6
  · subst h6
    rw [if_pos rfl, c1 (by decide), c2 (by decide) (by decide), c3 (by decide), c4 (by decide), c6 (by decide)]
    have e : manyB 5 (V.mk 6 b n m s l q).packF = l.map V.packB := by
      unfold manyB V.packF
      rw [List.filter_append]
      simp only
      rw [hrow, filter_rows]
      simp [packH, fitB, tagOf]
    have c1' := c1 (by decide); have c2' := c2 (by decide) (by decide); have c3' := c3 (by decide); have c4' := c4 (by decide); have c6' := c6 (by decide)
    subst c1' c2' c3' c4' c6'
    rw [e, List.map_map]
    have e2 : l.map (g ∘ V.packB) = l := by
      have h := List.map_congr_left (l := l) (f := g ∘ V.packB) (g := id) (fun x hx => hg x hx)
      rw [h, List.map_id]
    rw [e2]
    rfl
  rw [if_neg h6]
  by_cases h7 : k = 7
  · subst h7
    obtain ⟨g1, g2⟩ := c7 rfl
    have c1' := c1 (by decide); have c2' := c2 (by decide) (by decide); have c3' := c3 (by decide); have c4' := c4 (by decide)
    subst c1' c2' c3' c4'
    rw [if_pos rfl]
    have hq : packH 7 false 0 0 ByteArray.empty q = [⟨1, false, 7, []⟩] ++ (q.map bsI).map (fun b => ⟨6, true, 0, b⟩) := by
      simp [packH]
    have e6 : manyB 6 (V.mk 7 false 0 0 ByteArray.empty l q).packF = q.map bsI := by
      unfold manyB V.packF
      simp only
      rw [hrow, hq, List.filter_append, List.filter_append, filter_rows, filter_rows]
      simp [fitB, tagOf]
    have e7 : manyB 7 (V.mk 7 false 0 0 ByteArray.empty l q).packF = l.map V.packB := by
      unfold manyB V.packF
      simp only
      rw [hrow, hq, List.filter_append, List.filter_append, filter_rows, filter_rows]
      simp [fitB, tagOf]
    rw [e6, e7, List.map_map, List.map_map]
    have e2 : l.map (g ∘ V.packB) = l := by
      have h := List.map_congr_left (l := l) (f := g ∘ V.packB) (g := id) (fun x hx => hg x hx)
      rw [h, List.map_id]
    have e3 : q.map (strOfNums ∘ bsI) = q := by
      have h := List.map_congr_left (l := q) (f := strOfNums ∘ bsI) (g := id) (fun x _ => str_bsI x)
      rw [h, List.map_id]
    rw [e2, e3, mapV_rising g1 g2]
    rfl
  rw [if_neg h7]
  have h0 : k = 0 := by omega
  subst h0
  rw [c1 (by decide), c2 (by decide) (by decide), c3 (by decide), c4 (by decide), c5 (by decide) (by decide), c6 (by decide)]
  rfl
set_option maxRecDepth 100000 in
theorem valF_pack : ∀ (f : Nat) (v : V), v.cl → v.nok → v.packX = false → v.packB.length < f → valF f v.packB = v
  | 0, _, _, _, _, h => by omega
  | f + 1, v, hc, hn, hx, hf => by
    have hd := packB_dec (cl_kind hc) hn hx
    show valOf (valF f) (decM v.packB).1 = v
    rw [hd]
    have hx' := hx
    rw [packX_eq] at hx'
    simp only [Bool.or_eq_false_iff, decide_eq_false_iff_not, ne_eq, Decidable.not_not] at hx'
    refine valOf_pack hc (fun x hxl => valF_pack f x ?_ (((nok_eq v).1 hn).2 x hxl) (List.any_eq_false.1 hx'.1 x hxl |> fun h => by simpa using h) ?_)
    · cases v; simp only [V.cl] at hc; exact clL_mem hc.2.2.2.2.2.2.2.2.2 hxl
    · obtain ⟨ho, he⟩ := encM_ok hx'.2
      have hmem : (⟨tagOf v.k, true, 0, x.packB⟩ : Fld) ∈ v.packF := by
        unfold V.packF
        rw [packGo]
        exact List.mem_append_right _ (List.mem_map.2 ⟨x, hxl, rfl⟩)
      have hlt : ∀ (fs : List Fld) (g : Fld), g ∈ fs → g.isB = true → g.b.length + 2 ≤ (layAll fs).length := by
        intro fs
        induction fs with
        | nil => intro g hg; cases hg
        | cons a r ih =>
          intro g hg hb
          have e : (layAll (a :: r)).length = (lay a).length + (layAll r).length := by simp [layAll]
          rcases List.mem_cons.1 hg with rfl | hg
          · have e2 : lay g = enc (g.tag * 2 + 1) ++ enc g.b.length ++ g.b := by unfold lay; rw [if_pos hb]
            have h1 := (enc_len (g.tag * 2 + 1)).1
            have h2 := (enc_len (g.b.length : Int)).1
            rw [e, e2]; simp only [List.length_append]; omega
          · have := ih g hg hb; omega
      have := hlt _ _ hmem rfl
      rw [packB_eq v, he] at hf
      simp only at this
      omega
end Go.Proofs.YtepohbcpepkboaaGreat

