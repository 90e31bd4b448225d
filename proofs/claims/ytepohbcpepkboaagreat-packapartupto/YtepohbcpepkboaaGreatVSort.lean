/- What maps.Keys and slices.Sorted make of a map of places: its keys, rising. Condition: keys none of which stands twice. -/
import Derived.Test.YtepohbcpepkboaaGreatVShelf
import Derived.Test.YtepohbcpepkboaaGreatVPlaces
import Derived.Test.YtepohbcpepkboaaGreatVList
namespace Go.Proofs.YtepohbcpepkboaaGreat
open Go.RowKit Go.Maps Go.WideMaps Go.Sort Go.Shelf Go.Proofs

def ltS (a b : ByteArray) : Prop := a.data.toList < b.data.toList
/-- Rising, none twice. -/
def Rising (q : List ByteArray) : Prop := q.Pairwise ltS
set_option maxRecDepth 100000 in
theorem ltS_ne {a b : ByteArray} (h : ltS a b) : a ≠ b := fun e => by subst e; exact List.lt_irrefl _ h
set_option maxRecDepth 100000 in
theorem Rising.nodup {q : List ByteArray} (h : Rising q) : q.Nodup := List.Pairwise.imp (fun h => ltS_ne h) h
set_option maxRecDepth 100000 in
theorem ltS_trans {a b c : ByteArray} (h1 : ltS a b) (h2 : ltS b c) : ltS a c := List.lt_trans h1 h2
set_option maxRecDepth 100000 in
theorem ltS_asymm {a b : ByteArray} (h1 : ltS a b) : ¬ ltS b a := fun h2 => List.lt_irrefl _ (List.lt_trans h1 h2)
set_option maxRecDepth 100000 in
theorem ltS_tri {a b : ByteArray} (h1 : ¬ ltS a b) (h2 : a ≠ b) : ltS b a := by
  have h : b.data.toList ≤ a.data.toList := List.not_lt.1 h1
  rcases List.le_iff_lt_or_eq.1 h with h | h
  · exact h
  · exact absurd (ByteArray.ext (Array.toList_inj.1 h.symm)) h2
set_option maxRecDepth 100000 in
/-- Two rising lists of the same members are the same. -/
theorem rising_ext {p q : List ByteArray} (hp : Rising p) (hq : Rising q) (h : p.Perm q) : p = q :=
  h.eq_of_pairwise (le := ltS) (fun _ _ _ _ h1 h2 => absurd h2 (ltS_asymm h1)) hp hq
def bytesOf (x : List UInt8) : ByteArray := ⟨x.toArray⟩
set_option maxRecDepth 100000 in
theorem bytesOf_list (s : ByteArray) : bytesOf s.data.toList = s := by cases s; simp [bytesOf]
set_option maxRecDepth 100000 in
theorem strKeys_plD {w : World} {M n : Nat} {q : List ByteArray} (hn : q.Nodup) (hown : w.ownsMap Tryz.prog 9 (plainElem Tryz.prog 3) M n (plD q q.length)) : (q.map (fun s => s.data.toList)).Perm (strKeys (plD q q.length)) := by
  obtain ⟨es, hD, hpw⟩ := plD_tidy q q.length
  obtain ⟨es', hD', hko⟩ := hown.keysOf
  obtain rfl : es = es' := by rw [hD] at hD'; simpa using hD'
  rw [hD]
  refine perm_strKeys hpw (fun p hp => ?_) ?_ (fun x => ?_)
  · obtain ⟨v, hv⟩ := hko p hp
    obtain ⟨x, _, hx, _⟩ := Maps.keyOf_str Tryz.underlying9 hv
    exact ⟨x, hx⟩
  · refine List.pairwise_map.2 (List.Pairwise.imp (fun hab e => hab ?_) hn)
    exact ByteArray.ext (Array.toList_inj.1 e)
  · rw [← hD]
    have h := plD_has q (bytesOf x) q.length (Nat.le_refl _)
    rw [List.take_length] at h
    have e : litS (bytesOf x) = .string x := by simp [litS, bytesOf]
    rw [e] at h
    rw [h, List.mem_map]
    constructor
    · rintro ⟨s, hs, rfl⟩
      rw [bytesOf_list]; exact hs
    · intro hs
      exact ⟨_, hs, by simp [bytesOf]⟩
/-- The keys, rising. -/
def sortK (q : List ByteArray) : List ByteArray := ((q.map (fun s => s.data.toList)).mergeSort leB).map bytesOf
set_option maxRecDepth 100000 in
theorem sortK_perm (q : List ByteArray) : (sortK q).Perm q := by
  have h := (List.mergeSort_perm (q.map (fun s => s.data.toList)) leB).map bytesOf
  rw [List.map_map] at h
  have e : (bytesOf ∘ fun s : ByteArray => s.data.toList) = id := by funext s; exact bytesOf_list s
  rw [e, List.map_id] at h
  exact h
set_option maxRecDepth 100000 in
theorem sortK_rising (q : List ByteArray) (hn : q.Nodup) : Rising (sortK q) := by
  have tr : ∀ a b c : List UInt8, leB a b = true → leB b c = true → leB a c = true := fun a b c h1 h2 => by simp only [leB, decide_eq_true_eq] at *; exact List.le_trans h1 h2
  have tot : ∀ a b : List UInt8, (leB a b || leB b a) = true := fun a b => by simp only [leB, Bool.or_eq_true, decide_eq_true_eq]; exact List.le_total a b
  have h1 := List.pairwise_mergeSort tr tot (q.map (fun s => s.data.toList))
  have h2 : (sortK q).Nodup := (sortK_perm q).nodup_iff.2 hn
  unfold sortK at h2 ⊢
  unfold Rising
  rw [List.pairwise_map]
  rw [List.nodup_iff_pairwise_ne, List.pairwise_map] at h2
  refine (h1.and h2).imp ?_
  intro a b ⟨ha, hb⟩
  simp only [leB, decide_eq_true_eq] at ha
  rcases List.le_iff_lt_or_eq.1 ha with h | h
  · simpa [ltS, bytesOf] using h
  · subst h; exact absurd rfl hb
set_option maxRecDepth 100000 in
theorem sorts_L (m : Nat) : AnyZ.SortsIn Tryz.prog sortedL_ren Fence.wide m :=
  ⟨fun blk off cap ss W hH hblk hsz => callsIn_wide.2 (AnyM.slices_Sort_string sortL blk off cap ss W hH hblk hsz),
   fun p cap W => callsIn_wide.2 (AnyM.slices_Sort_string_none sortL p cap W)⟩
set_option maxRecDepth 100000 in
theorem mapsKeys_any (mb : Option Nat) (W : World) : Calls Tryz.prog 59 #[.map mb] W fun e w' => e = .returned (.func (.func 92) #[] #[.pointer (some ⟨W.heap.size, 0, none⟩)]) ∧ w' = W.alloc (.cells #[.map mb] 113) :=
  (callsIn_wide (n := 5)).1 (AnyZ.keys_in keysL Fence.wide 5 trivial rfl mb W)
set_option maxRecDepth 100000 in
set_option maxHeartbeats 1000000 in
theorem sortedKeys_raw {H : Type} (b nn : Nat) (D0 : DataW H) (R : Value → Option (DataW H × List MemPlace)) (w : World) (hown : w.ownsMap Tryz.prog 9 R b nn D0) (hmax : Maps.size D0 ≤ maxLen) (hbytes : Maps.size D0 * 16 ≤ 140737488355328) :
    Calls Tryz.prog 58 #[.func (.func 92) #[] #[.pointer (some ⟨w.heap.size, 0, none⟩)]] (w.alloc (.cells #[.map (some b)] 113)) fun e w' => ∃ (v : Value) (ss : List (List UInt8)), e = .returned v ∧ ss.Perm (strKeys D0) ∧
      w'.ownsRow (w.alloc (.cells #[.map (some b)] 113)).heap.size 9 1 v ss.length ((ss.mergeSort (fun x y => decide (x ≤ y))).map encStr) ∧ (v = .slice none 0 0 ↔ ss = []) ∧ Below (w.alloc (.cells #[.map (some b)] 113)).heap.size (w.alloc (.cells #[.map (some b)] 113)) w' := by
  have hbl := hown.lt
  have hseq : SeqGives Fence.wide 2 Tryz.prog 92 #[.pointer (some ⟨w.heap.size, 0, none⟩)] encStr (fun ss => ss.Perm (strKeys D0)) (Maps.size D0) (w.alloc (.cells #[.map (some b)] 113)) :=
    AnyZ.keys_gives (ρ := keysL_ren) { keysL with } Fence.wide _ trivial rfl (by omega) w.heap.size b nn D0 _ (by simp) (by simp) (by
      obtain ⟨es, clock, hb, Ft, hs, hD⟩ := hown
      exact ⟨es, clock, (Below.heap_alloc _ _ b hbl).trans hb, Ft, hs, hD⟩)
  exact (callsIn_wide (n := 5)).1 (AnyZ.sorted_in sortedL Fence.wide 5 trivial trivial trivial trivial rfl (by omega) (sorts_L _) (enters_of Tryz.func91 (by kernel_rfl) rfl) 92 #[.pointer (some ⟨w.heap.size, 0, none⟩)] trivial (enters_of Tryz.func92 (by kernel_rfl) rfl) _ _ hmax hbytes _ hseq)
set_option maxRecDepth 100000 in
theorem sortedKeys_any {w : World} {M n : Nat} {q : List ByteArray} (hq : ∀ x ∈ q, x.size ≤ maxLen) (hn : q.Nodup) (hl : q.length ≤ 1048576) (hown : w.ownsMap Tryz.prog 9 (plainElem Tryz.prog 3) M n (plD q q.length)) {ok : Nat → Prop} (hk : ∀ b, w.heap.size < b → ok b) :
    Calls Tryz.prog 58 #[.func (.func 92) #[] #[.pointer (some ⟨w.heap.size, 0, none⟩)]] (w.alloc (.cells #[.map (some M)] 113)) fun e w' => ∃ a c, e = .returned (.slice a q.length c) ∧ SRow w' ok a (sortK q) ∧ SliceOk a q.length c ∧ Below w.heap.size w w' := by
  have hs : Maps.size (plD q q.length) = q.length := (plD_size q q.length (Nat.le_refl _)).1 (by rw [List.take_length]; exact hn)
  refine (sortedKeys_raw M n _ _ w hown (by rw [hs]; unfold maxLen; omega) (by rw [hs]; omega)).mono ?_
  rintro e w' ⟨v, ss, rfl, hS, hrow, -, hb⟩
  have hp : ss.Perm (q.map (fun s => s.data.toList)) := hS.trans (strKeys_plD hn hown).symm
  have hms : ss.mergeSort (fun x y => decide (x ≤ y)) = (q.map (fun s => s.data.toList)).mergeSort leB := mergeSort_of_perm hp
  have hlen : ss.length = q.length := by rw [hp.length_eq]; simp
  have hus : (ss.mergeSort (fun x y => decide (x ≤ y))).map encStr = (sortK q).map Value.string := by
    rw [hms, sortK, List.map_map]
    rfl
  rw [hus, hlen] at hrow
  obtain ⟨a, c, rfl, hc, hsl, -⟩ := own_crow hrow (ok := ok) (fun b hb => hk b (by simp at hb; omega))
  exact ⟨a, c, rfl, hc.srow (fun x hx => hq x ((sortK_perm q).mem_iff.1 hx)), hsl, ((Below.refl _ w).alloc (Nat.le_refl _) _).trans (hb.mono (by simp))⟩
end Go.Proofs.YtepohbcpepkboaaGreat

