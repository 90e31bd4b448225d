/- What maps.Keys and slices.Sorted make of a map of places: its keys, rising. Condition: keys none of which stands twice. -/
import Derived.Shelf.SlIter.Nil
import Derived.Shelf.SortM.Plain
import Derived.Shelf.SortM.SortNone
import Derived.Test.YtigdcnoggjcddaaProg
import Derived.Test.YtigdcnoggjcddaaVPlaces
import Derived.Test.YtigdcnoggjcddaaVCopy
namespace Go.Proofs.Ytigdcnoggjcddaa
open Go.Shelf Go.Proofs
def keysL_ren : Go.Shelf.Ren := ⟨fun | 7 => 61 | 10 => 84 | n => n, fun | 23 => 98 | 26 => 9 | 3 => 3 | 28 => 102 | 0 => 0 | 27 => 101 | 33 => 123 | 4 => 4 | n => n, fun | n => n⟩
set_option maxRecDepth 100000 in
theorem keysL : Go.Proofs.SlLaysZ.n7 Try.prog keysL_ren := {
  mixed := by kernel_rfl
  f7 := ⟨Try.f61.name, by decide, Try.func61.trans (congrArg some (by kernel_rfl))⟩
  f10 := ⟨Try.f84.name, by decide, Try.func84.trans (congrArg some (by kernel_rfl))⟩
  t0 := Try.underlying0
  a0 := Try.isAgg0
  z0 := Try.sizeOf0
  v0 := Try.zeroValue0
  t4 := Try.underlying4
  a4 := Try.isAgg4
  z4 := Try.sizeOf4
  v4 := Try.zeroValue4
  t23 := Try.underlying98
  a23 := Try.isAgg98
  z23 := Try.sizeOf98
  v23 := Try.zeroValue98
  t26 := Try.underlying9
  a26 := Try.isAgg9
  z26 := Try.sizeOf9
  v26 := Try.zeroValue9
  t27 := Try.underlying101
  a27 := Try.isAgg101
  z27 := Try.sizeOf101
  v27 := Try.zeroValue101
  t28 := Try.underlying102
  a28 := Try.isAgg102
  z28 := Try.sizeOf102
  v28 := Try.zeroValue102
  t33 := Try.underlying123
  a33 := Try.isAgg123
  z33 := Try.sizeOf123
  v33 := Try.zeroValue123 }
def sortedL_ren : Go.Shelf.Ren := ⟨fun | 6 => 60 | 8 => 82 | 9 => 83 | 11 => 93 | 13 => 95 | 12 => 94 | 23 => 112 | 24 => 113 | 14 => 104 | 15 => 105 | 16 => 106 | 17 => 107 | 18 => 108 | 19 => 109 | 20 => 98 | 21 => 110 | 22 => 111 | 25 => 117 | 26 => 118 | 27 => 119 | 28 => 120 | 29 => 121 | 30 => 114 | 31 => 124 | n => n, fun | 26 => 9 | 28 => 102 | 24 => 23 | 0 => 0 | 3 => 3 | 37 => 146 | 48 => 161 | 50 => 163 | 4 => 4 | 40 => 155 | 39 => 154 | 45 => 65 | 5 => 5 | 9 => 9 | 51 => 164 | 55 => 168 | 57 => 171 | 58 => 84 | 33 => 123 | n => n, fun | n => n⟩
set_option maxRecDepth 100000 in
theorem sortedL : Go.Proofs.SlLaysZ.n6 Try.prog sortedL_ren := {
  mixed := by kernel_rfl
  f6 := ⟨Try.f60.name, by decide, Try.func60.trans (congrArg some (by kernel_rfl))⟩
  f8 := ⟨Try.f82.name, by decide, Try.func82.trans (congrArg some (by kernel_rfl))⟩
  f11 := ⟨Try.f93.name, by decide, Try.func93.trans (congrArg some (by kernel_rfl))⟩
  t0 := Try.underlying0
  a0 := Try.isAgg0
  z0 := Try.sizeOf0
  v0 := Try.zeroValue0
  t24 := Try.underlying23
  a24 := Try.isAgg23
  z24 := Try.sizeOf23
  v24 := Try.zeroValue23
  t26 := Try.underlying9
  a26 := Try.isAgg9
  z26 := Try.sizeOf9
  v26 := Try.zeroValue9
  t28 := Try.underlying102
  a28 := Try.isAgg102
  z28 := Try.sizeOf102
  v28 := Try.zeroValue102
  i26 := by kernel_rfl }
def sortL_ren : Go.Shelf.Ren := ⟨fun | 6 => 83 | 8 => 95 | 9 => 94 | 19 => 112 | 20 => 113 | 21 => 104 | 22 => 105 | 23 => 106 | 24 => 107 | 25 => 108 | 26 => 109 | 27 => 98 | 28 => 110 | 29 => 111 | 36 => 117 | 31 => 118 | 32 => 119 | 37 => 120 | 38 => 121 | 39 => 114 | 41 => 124 | n => n, fun | 27 => 23 | 29 => 9 | 3 => 3 | 32 => 146 | 26 => 23 | 0 => 0 | 44 => 161 | 46 => 163 | 4 => 4 | 36 => 155 | 35 => 154 | 41 => 65 | 5 => 5 | 9 => 9 | 53 => 164 | 57 => 168 | 63 => 171 | 64 => 84 | n => n, fun | n => n⟩
set_option maxRecDepth 100000 in
theorem sortL : Go.Proofs.SlLaysM.n6 Try.prog sortL_ren := {
  mixed := by kernel_rfl
  f6 := ⟨Try.f83.name, by decide, Try.func83.trans (congrArg some (by kernel_rfl))⟩
  f8 := Try.func95.trans (congrArg some (by kernel_rfl))
  f9 := ⟨Try.f94.name, by decide, Try.func94.trans (congrArg some (by kernel_rfl))⟩
  f19 := Try.func112.trans (congrArg some (by kernel_rfl))
  f20 := Try.func113.trans (congrArg some (by kernel_rfl))
  f21 := ⟨Try.f104.name, by decide, Try.func104.trans (congrArg some (by kernel_rfl))⟩
  f22 := ⟨Try.f105.name, by decide, Try.func105.trans (congrArg some (by kernel_rfl))⟩
  f23 := ⟨Try.f106.name, by decide, Try.func106.trans (congrArg some (by kernel_rfl))⟩
  f24 := ⟨Try.f107.name, by decide, Try.func107.trans (congrArg some (by kernel_rfl))⟩
  f25 := ⟨Try.f108.name, by decide, Try.func108.trans (congrArg some (by kernel_rfl))⟩
  f26 := ⟨Try.f109.name, by decide, Try.func109.trans (congrArg some (by kernel_rfl))⟩
  f27 := ⟨Try.f98.name, by decide, Try.func98.trans (congrArg some (by kernel_rfl))⟩
  f28 := ⟨Try.f110.name, by decide, Try.func110.trans (congrArg some (by kernel_rfl))⟩
  f29 := ⟨Try.f111.name, by decide, Try.func111.trans (congrArg some (by kernel_rfl))⟩
  f31 := Try.func118.trans (congrArg some (by kernel_rfl))
  f32 := Try.func119.trans (congrArg some (by kernel_rfl))
  f36 := ⟨Try.f117.name, by decide, Try.func117.trans (congrArg some (by kernel_rfl))⟩
  f37 := ⟨Try.f120.name, by decide, Try.func120.trans (congrArg some (by kernel_rfl))⟩
  f38 := ⟨Try.f121.name, by decide, Try.func121.trans (congrArg some (by kernel_rfl))⟩
  f39 := ⟨Try.f114.name, by decide, Try.func114.trans (congrArg some (by kernel_rfl))⟩
  f41 := ⟨Try.f124.name, by decide, Try.func124.trans (congrArg some (by kernel_rfl))⟩
  t0 := Try.underlying0
  a0 := Try.isAgg0
  z0 := Try.sizeOf0
  v0 := Try.zeroValue0
  t3 := Try.underlying3
  a3 := Try.isAgg3
  z3 := Try.sizeOf3
  v3 := Try.zeroValue3
  t4 := Try.underlying4
  a4 := Try.isAgg4
  z4 := Try.sizeOf4
  v4 := Try.zeroValue4
  t5 := Try.underlying5
  a5 := Try.isAgg5
  z5 := Try.sizeOf5
  v5 := Try.zeroValue5
  t9 := Try.underlying9
  a9 := Try.isAgg9
  z9 := Try.sizeOf9
  v9 := Try.zeroValue9
  t26 := Try.underlying23
  a26 := Try.isAgg23
  z26 := Try.sizeOf23
  v26 := Try.zeroValue23
  t27 := Try.underlying23
  a27 := Try.isAgg23
  z27 := Try.sizeOf23
  v27 := Try.zeroValue23
  t29 := Try.underlying9
  a29 := Try.isAgg9
  z29 := Try.sizeOf9
  v29 := Try.zeroValue9
  t32 := Try.underlying146
  a32 := Try.isAgg146
  z32 := Try.sizeOf146
  v32 := Try.zeroValue146
  t35 := Try.underlying154
  a35 := Try.isAgg154
  z35 := Try.sizeOf154
  v35 := Try.zeroValue154
  t36 := Try.underlying155
  a36 := Try.isAgg155
  z36 := Try.sizeOf155
  v36 := Try.zeroValue155
  t41 := Try.underlying65
  a41 := Try.isAgg65
  z41 := Try.sizeOf65
  v41 := Try.zeroValue65
  t44 := Try.underlying161
  a44 := Try.isAgg161
  z44 := Try.sizeOf161
  v44 := Try.zeroValue161
  t46 := Try.underlying163
  a46 := Try.isAgg163
  z46 := Try.sizeOf163
  v46 := Try.zeroValue163
  t53 := Try.underlying164
  a53 := Try.isAgg164
  z53 := Try.sizeOf164
  v53 := Try.zeroValue164
  t57 := Try.underlying168
  a57 := Try.isAgg168
  z57 := Try.sizeOf168
  v57 := Try.zeroValue168
  t63 := Try.underlying171
  a63 := Try.isAgg171
  z63 := Try.sizeOf171
  v63 := Try.zeroValue171
  t64 := Try.underlying84
  a64 := Try.isAgg84
  z64 := Try.sizeOf84
  v64 := Try.zeroValue84 }
end Go.Proofs.Ytigdcnoggjcddaa

namespace Go.Proofs.Ytigdcnoggjcddaa
open Go.RowKit Go.Maps Go.WideMaps Go.Sort Go.Shelf Go.Proofs

def ltS (a b : ByteArray) : Prop := a.data.toList < b.data.toList
/-- Rising, none twice. -/
def Rising (q : List ByteArray) : Prop := q.Pairwise ltS
set_option maxRecDepth 100000 in
theorem ltS_ne {a b : ByteArray} (h : ltS a b) : a ≠ b := fun e => by subst e; exact List.lt_irrefl _ h
set_option maxRecDepth 100000 in
theorem Rising.nodup {q : List ByteArray} (h : Rising q) : q.Nodup := List.Pairwise.imp (fun h => ltS_ne h) h
set_option maxRecDepth 100000 in
theorem ltS_trans {a b c : ByteArray} (h1 : ltS a b) (h2 : ltS b c) : ltS a c := List.lt_trans h1 h2
set_option maxRecDepth 100000 in
theorem ltS_asymm {a b : ByteArray} (h1 : ltS a b) : ¬ ltS b a := fun h2 => List.lt_irrefl _ (List.lt_trans h1 h2)
set_option maxRecDepth 100000 in
theorem ltS_tri {a b : ByteArray} (h1 : ¬ ltS a b) (h2 : a ≠ b) : ltS b a := by
  have h : b.data.toList ≤ a.data.toList := List.not_lt.1 h1
  rcases List.le_iff_lt_or_eq.1 h with h | h
  · exact h
  · exact absurd (ByteArray.ext (Array.toList_inj.1 h.symm)) h2
set_option maxRecDepth 100000 in
/-- Two rising lists of the same members are the same. -/
theorem rising_ext {p q : List ByteArray} (hp : Rising p) (hq : Rising q) (h : p.Perm q) : p = q :=
  h.eq_of_pairwise (le := ltS) (fun _ _ _ _ h1 h2 => absurd h2 (ltS_asymm h1)) hp hq
def bytesOf (x : List UInt8) : ByteArray := ⟨x.toArray⟩
set_option maxRecDepth 100000 in
theorem bytesOf_list (s : ByteArray) : bytesOf s.data.toList = s := by cases s; simp [bytesOf]
set_option maxRecDepth 100000 in
theorem strKeys_plD {w : World} {M n : Nat} {q : List ByteArray} (hn : q.Nodup) (hown : w.ownsMap Try.prog 9 (plainElem Try.prog 3) M n (plD q q.length)) : (q.map (fun s => s.data.toList)).Perm (strKeys (plD q q.length)) := by
  obtain ⟨es, hD, hpw⟩ := plD_tidy q q.length
  obtain ⟨es', hD', hko⟩ := hown.keysOf
  obtain rfl : es = es' := by rw [hD] at hD'; simpa using hD'
  rw [hD]
  refine perm_strKeys hpw (fun p hp => ?_) ?_ (fun x => ?_)
  · obtain ⟨v, hv⟩ := hko p hp
    obtain ⟨x, _, hx, _⟩ := Maps.keyOf_str Try.underlying9 hv
    exact ⟨x, hx⟩
  · refine List.pairwise_map.2 (List.Pairwise.imp (fun hab e => hab ?_) hn)
    exact ByteArray.ext (Array.toList_inj.1 e)
  · rw [← hD]
    have h := plD_has q (bytesOf x) q.length (Nat.le_refl _)
    rw [List.take_length] at h
    have e : litS (bytesOf x) = .string x := by simp [litS, bytesOf]
    rw [e] at h
    rw [h, List.mem_map]
    constructor
    · rintro ⟨s, hs, rfl⟩
      rw [bytesOf_list]; exact hs
    · intro hs
      exact ⟨_, hs, by simp [bytesOf]⟩
/-- The keys, rising. -/
def sortK (q : List ByteArray) : List ByteArray := ((q.map (fun s => s.data.toList)).mergeSort leB).map bytesOf
set_option maxRecDepth 100000 in
theorem sortK_perm (q : List ByteArray) : (sortK q).Perm q := by
  have h := (List.mergeSort_perm (q.map (fun s => s.data.toList)) leB).map bytesOf
  rw [List.map_map] at h
  have e : (bytesOf ∘ fun s : ByteArray => s.data.toList) = id := by funext s; exact bytesOf_list s
  rw [e, List.map_id] at h
  exact h
set_option maxRecDepth 100000 in
theorem sortK_rising (q : List ByteArray) (hn : q.Nodup) : Rising (sortK q) := by
  have tr : ∀ a b c : List UInt8, leB a b = true → leB b c = true → leB a c = true := fun a b c h1 h2 => by simp only [leB, decide_eq_true_eq] at *; exact List.le_trans h1 h2
  have to : ∀ a b : List UInt8, (leB a b || leB b a) = true := fun a b => by simp only [leB, Bool.or_eq_true, decide_eq_true_eq]; exact List.le_total a b
  have h1 := List.pairwise_mergeSort tr to (q.map (fun s => s.data.toList))
  have h2 : (sortK q).Nodup := (sortK_perm q).nodup_iff.2 hn
  unfold sortK at h2 ⊢
  unfold Rising
  rw [List.pairwise_map]
  rw [List.nodup_iff_pairwise_ne, List.pairwise_map] at h2
  refine (h1.and h2).imp ?_
  intro a b ⟨ha, hb⟩
  simp only [leB, decide_eq_true_eq] at ha
  rcases List.le_iff_lt_or_eq.1 ha with h | h
  · simpa [ltS, bytesOf] using h
  · subst h; exact absurd rfl hb
set_option maxRecDepth 100000 in
theorem sorts_L (m : Nat) : AnyZ.SortsIn Try.prog sortedL_ren Fence.wide m :=
  ⟨fun blk off cap ss W hH hblk hsz => callsIn_wide.2 (AnyM.slices_Sort_string sortL blk off cap ss W hH hblk hsz),
   fun p cap W => callsIn_wide.2 (AnyM.slices_Sort_string_none sortL p cap W)⟩
set_option maxRecDepth 100000 in
theorem mapsKeys_any (mb : Option Nat) (W : World) : Calls Try.prog 61 #[.map mb] W fun e w' => e = .returned (.func (.func 84) #[] #[.pointer (some ⟨W.heap.size, 0, none⟩)]) ∧ w' = W.alloc (.cells #[.map mb] 98) :=
  (callsIn_wide (n := 5)).1 (AnyZ.keys_in keysL Fence.wide 5 trivial rfl mb W)
set_option maxRecDepth 100000 in
set_option maxHeartbeats 1000000 in
theorem sortedKeys_raw {H : Type} (b nn : Nat) (D0 : DataW H) (R : Value → Option (DataW H × List MemPlace)) (w : World) (hown : w.ownsMap Try.prog 9 R b nn D0) (hmax : Maps.size D0 ≤ maxLen) (hbytes : Maps.size D0 * 16 ≤ 140737488355328) :
    Calls Try.prog 60 #[.func (.func 84) #[] #[.pointer (some ⟨w.heap.size, 0, none⟩)]] (w.alloc (.cells #[.map (some b)] 98)) fun e w' => ∃ (v : Value) (ss : List (List UInt8)), e = .returned v ∧ ss.Perm (strKeys D0) ∧
      w'.ownsRow (w.alloc (.cells #[.map (some b)] 98)).heap.size 9 1 v ss.length ((ss.mergeSort (fun x y => decide (x ≤ y))).map encStr) ∧ (v = .slice none 0 0 ↔ ss = []) ∧ Below (w.alloc (.cells #[.map (some b)] 98)).heap.size (w.alloc (.cells #[.map (some b)] 98)) w' := by
  have hbl := hown.lt
  have hseq : SeqGives Fence.wide 2 Try.prog 84 #[.pointer (some ⟨w.heap.size, 0, none⟩)] encStr (fun ss => ss.Perm (strKeys D0)) (Maps.size D0) (w.alloc (.cells #[.map (some b)] 98)) :=
    AnyZ.keys_gives (ρ := keysL_ren) { keysL with } Fence.wide _ trivial rfl (by omega) w.heap.size b nn D0 _ (by simp) (by simp) (by
      obtain ⟨es, clock, hb, Ft, hs, hD⟩ := hown
      exact ⟨es, clock, (Below.heap_alloc _ _ b hbl).trans hb, Ft, hs, hD⟩)
  exact (callsIn_wide (n := 5)).1 (AnyZ.sorted_in sortedL Fence.wide 5 trivial trivial trivial trivial rfl (by omega) (sorts_L _) (enters_of Try.func83 (by kernel_rfl) rfl) 84 #[.pointer (some ⟨w.heap.size, 0, none⟩)] trivial (enters_of Try.func84 (by kernel_rfl) rfl) _ _ hmax hbytes _ hseq)
set_option maxRecDepth 100000 in
theorem sortedKeys_any {w : World} {M n : Nat} {q : List ByteArray} (hq : ∀ x ∈ q, x.size ≤ maxLen) (hn : q.Nodup) (hl : q.length ≤ 1048576) (hown : w.ownsMap Try.prog 9 (plainElem Try.prog 3) M n (plD q q.length)) {ok : Nat → Prop} (hk : ∀ b, w.heap.size < b → ok b) :
    Calls Try.prog 60 #[.func (.func 84) #[] #[.pointer (some ⟨w.heap.size, 0, none⟩)]] (w.alloc (.cells #[.map (some M)] 98)) fun e w' => ∃ a c, e = .returned (.slice a q.length c) ∧ SRow w' ok a (sortK q) ∧ SliceOk a q.length c ∧ Below w.heap.size w w' := by
  have hs : Maps.size (plD q q.length) = q.length := (plD_size q q.length (Nat.le_refl _)).1 (by rw [List.take_length]; exact hn)
  refine (sortedKeys_raw M n _ _ w hown (by rw [hs]; unfold maxLen; omega) (by rw [hs]; omega)).mono ?_
  rintro e w' ⟨v, ss, rfl, hS, hrow, -, hb⟩
  have hp : ss.Perm (q.map (fun s => s.data.toList)) := hS.trans (strKeys_plD hn hown).symm
  have hms : ss.mergeSort (fun x y => decide (x ≤ y)) = (q.map (fun s => s.data.toList)).mergeSort leB := mergeSort_of_perm hp
  have hlen : ss.length = q.length := by rw [hp.length_eq]; simp
  have hus : (ss.mergeSort (fun x y => decide (x ≤ y))).map encStr = (sortK q).map Value.string := by
    rw [hms, sortK, List.map_map]
    rfl
  rw [hus, hlen] at hrow
  obtain ⟨a, c, rfl, hc, hsl, -⟩ := own_crow hrow (ok := ok) (fun b hb => hk b (by simp at hb; omega))
  exact ⟨a, c, rfl, hc.srow (fun x hx => hq x ((sortK_perm q).mem_iff.1 hx)), hsl, ((Below.refl _ w).alloc (Nat.le_refl _) _).trans (hb.mono (by simp))⟩
end Go.Proofs.Ytigdcnoggjcddaa

