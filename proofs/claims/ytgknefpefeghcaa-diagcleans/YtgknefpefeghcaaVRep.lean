/- What the program's values hold in memory: which value of plain data each is. No conditions; no function of the program. -/
import Derived.Test.YtgknefpefeghcaaVTree
import Derived.Test.YtgknefpefeghcaaVFloat
import Derived.Maps.OwnSet
namespace Go.Proofs.Ytgknefpefeghcaa
open Go.RowKit Go.Maps

/-- Is it right, as the document says? -/
def V.right (v : V) : Bool := decide (v.deep ≤ 8) && v.fits
def V.null : V := .mk 0 false 0 0 ByteArray.empty [] []
/-- The cells of a slice of values: what each holds. -/
def HRow (w : World) (ok : Nat → Prop) (a : Option Addr) (n : Nat) (H : Nat → Value) : Prop := 0 < n → ∃ b off, a = some ⟨b, off, none⟩ ∧ ok b ∧ ∀ j, j < n → w.cell? ⟨b, off + j, none⟩ = some (H j)
/-- A map's places: each key's. -/
def Places (w : World) (M : Nat) (q : List ByteArray) : Prop := ∃ (n : Nat) (D : DataW Unit), w.ownsMap Try.prog 9 (plainElem Try.prog 3) M n D ∧
  (∀ s : ByteArray, Maps.has D (.string s.data.toList) = true ↔ s ∈ q) ∧ ∀ j (hj : j < q.length), D.atKey (.string q[j].data.toList) (.lit (.int .i64 0)) = .lit (.int .i64 j)
/-- A block of cells, none of which is frozen. -/
def PlainB (w : World) (B : Nat) : Prop := ∃ cs T, w.heap[B]? = some (.cells cs T (0, 0))
def PlainT (w : World) (B : Nat) (T : TypeId) : Prop := ∃ cs, w.heap[B]? = some (.cells cs T (0, 0))
set_option maxRecDepth 100000 in
theorem PlainT.plain {w : World} {B : Nat} {T : TypeId} (h : PlainT w B T) : PlainB w B := by
  obtain ⟨cs, e⟩ := h
  exact ⟨cs, T, e⟩
/-- What is closed under making values. -/
structure RepClosed (w : World) (ok : Nat → Prop) (X : Value → V → Prop) : Prop where
  null : X .nilIface V.null
  later : X (.iface 98 (.agg #[])) (.mk 1 false 0 0 ByteArray.empty [] [])
  bool : ∀ (b : Bool), X (.iface 4 (.bool b)) (.mk 2 b 0 0 ByteArray.empty [] [])
  int : ∀ (n : Int) (_ : I64 n), X (.iface 3 (.int .i64 n)) (.mk 3 false n 0 ByteArray.empty [] [])
  point : ∀ (n m : Int) (_ : -9007199254740992 ≤ n ∧ n ≤ 9007199254740992) (_ : -9007199254740992 ≤ m ∧ m ≤ 9007199254740992), X (.iface 191 (.complex .f64 (floatOfInt .f64 n) (floatOfInt .f64 m))) (.mk 4 false n m ByteArray.empty [] [])
  text : ∀ (s : ByteArray) (_ : s.size ≤ maxLen), X (.iface 9 (.string s)) (.mk 5 false 0 0 s [] [])
  list : ∀ (B : Nat) (l : List V) (a : Option Addr) (c : Nat) (H : Nat → Value) (_ : ok B ∧ PlainT w B 179) (_ : SliceOk a l.length c) (_ : w.cell? ⟨B, 0, none⟩ = some (.int .i64 ((V.mk 6 false 0 0 ByteArray.empty l []).deep : Nat))) (_ : w.cell? ⟨B, 1, none⟩ = some (.int .i64 ((V.mk 6 false 0 0 ByteArray.empty l []).size : Nat))) (_ : w.cell? ⟨B, 2, none⟩ = some (.bool (V.mk 6 false 0 0 ByteArray.empty l []).known)) (_ : w.cell? ⟨B, 3, none⟩ = some (.bool (V.mk 6 false 0 0 ByteArray.empty l []).right)) (_ : w.cell? ⟨B, 4, none⟩ = some (.slice a l.length c)) (_ : HRow w ok a l.length H) (_ : ∀ j (hj : j < l.length), X (H j) l[j]), X (.iface 174 (.pointer (some ⟨B, 0, none⟩))) (.mk 6 false 0 0 ByteArray.empty l [])
  map : ∀ (B M : Nat) (l : List V) (q : List ByteArray) (a : Option Addr) (c : Nat) (ka : Option Addr) (kc : Nat) (H : Nat → Value) (_ : ok B ∧ PlainT w B 190) (_ : ok M) (_ : SliceOk a l.length c) (_ : SliceOk ka q.length kc) (_ : q.length = l.length) (_ : w.cell? ⟨B, 0, none⟩ = some (.int .i64 ((V.mk 7 false 0 0 ByteArray.empty l q).deep : Nat))) (_ : w.cell? ⟨B, 1, none⟩ = some (.int .i64 ((V.mk 7 false 0 0 ByteArray.empty l q).size : Nat))) (_ : w.cell? ⟨B, 2, none⟩ = some (.bool (V.mk 7 false 0 0 ByteArray.empty l q).known)) (_ : w.cell? ⟨B, 3, none⟩ = some (.bool (V.mk 7 false 0 0 ByteArray.empty l q).right)) (_ : w.cell? ⟨B, 4, none⟩ = some (.slice a l.length c)) (_ : w.cell? ⟨B, 5, none⟩ = some (.slice ka q.length kc)) (_ : w.cell? ⟨B, 6, none⟩ = some (.map (some M))) (_ : SRow w ok ka q) (_ : Places w M q) (_ : HRow w ok a l.length H) (_ : ∀ j (hj : j < l.length), X (H j) l[j]), X (.iface 187 (.pointer (some ⟨B, 0, none⟩))) (.mk 7 false 0 0 ByteArray.empty l q)
/-- What a value holds. -/
def Rep (w : World) (ok : Nat → Prop) (h : Value) (v : V) : Prop := ∀ X : Value → V → Prop, RepClosed w ok X → X h v
set_option maxRecDepth 100000 in
theorem Rep.null {w : World} {ok : Nat → Prop} : Rep w ok .nilIface V.null := fun _ hX => hX.null 
set_option maxRecDepth 100000 in
theorem Rep.later {w : World} {ok : Nat → Prop} : Rep w ok (.iface 98 (.agg #[])) (.mk 1 false 0 0 ByteArray.empty [] []) := fun _ hX => hX.later 
set_option maxRecDepth 100000 in
theorem Rep.bool {w : World} {ok : Nat → Prop} (b : Bool) : Rep w ok (.iface 4 (.bool b)) (.mk 2 b 0 0 ByteArray.empty [] []) := fun _ hX => hX.bool b
set_option maxRecDepth 100000 in
theorem Rep.int {w : World} {ok : Nat → Prop} (n : Int) (h : I64 n) : Rep w ok (.iface 3 (.int .i64 n)) (.mk 3 false n 0 ByteArray.empty [] []) := fun _ hX => hX.int n h
set_option maxRecDepth 100000 in
theorem Rep.point {w : World} {ok : Nat → Prop} (n m : Int) (hn : -9007199254740992 ≤ n ∧ n ≤ 9007199254740992) (hm : -9007199254740992 ≤ m ∧ m ≤ 9007199254740992) : Rep w ok (.iface 191 (.complex .f64 (floatOfInt .f64 n) (floatOfInt .f64 m))) (.mk 4 false n m ByteArray.empty [] []) := fun _ hX => hX.point n m hn hm
set_option maxRecDepth 100000 in
theorem Rep.text {w : World} {ok : Nat → Prop} (s : ByteArray) (h : s.size ≤ maxLen) : Rep w ok (.iface 9 (.string s)) (.mk 5 false 0 0 s [] []) := fun _ hX => hX.text s h
set_option maxRecDepth 100000 in
theorem Rep.list {w : World} {ok : Nat → Prop} (B : Nat) (l : List V) (a : Option Addr) (c : Nat) (H : Nat → Value) (hB : ok B ∧ PlainT w B 179) (ha : SliceOk a l.length c) (c0 : w.cell? ⟨B, 0, none⟩ = some (.int .i64 ((V.mk 6 false 0 0 ByteArray.empty l []).deep : Nat))) (c1 : w.cell? ⟨B, 1, none⟩ = some (.int .i64 ((V.mk 6 false 0 0 ByteArray.empty l []).size : Nat))) (c2 : w.cell? ⟨B, 2, none⟩ = some (.bool (V.mk 6 false 0 0 ByteArray.empty l []).known)) (c3 : w.cell? ⟨B, 3, none⟩ = some (.bool (V.mk 6 false 0 0 ByteArray.empty l []).right)) (c4 : w.cell? ⟨B, 4, none⟩ = some (.slice a l.length c)) (hr : HRow w ok a l.length H) (hin : ∀ j (hj : j < l.length), Rep w ok (H j) l[j]) : Rep w ok (.iface 174 (.pointer (some ⟨B, 0, none⟩))) (.mk 6 false 0 0 ByteArray.empty l []) := fun X hX => hX.list B l a c H hB ha c0 c1 c2 c3 c4 hr (fun j hj => hin j hj X hX)
set_option maxRecDepth 100000 in
theorem Rep.map {w : World} {ok : Nat → Prop} (B M : Nat) (l : List V) (q : List ByteArray) (a : Option Addr) (c : Nat) (ka : Option Addr) (kc : Nat) (H : Nat → Value) (hB : ok B ∧ PlainT w B 190) (hMo : ok M) (ha : SliceOk a l.length c) (hka : SliceOk ka q.length kc) (hq : q.length = l.length) (c0 : w.cell? ⟨B, 0, none⟩ = some (.int .i64 ((V.mk 7 false 0 0 ByteArray.empty l q).deep : Nat))) (c1 : w.cell? ⟨B, 1, none⟩ = some (.int .i64 ((V.mk 7 false 0 0 ByteArray.empty l q).size : Nat))) (c2 : w.cell? ⟨B, 2, none⟩ = some (.bool (V.mk 7 false 0 0 ByteArray.empty l q).known)) (c3 : w.cell? ⟨B, 3, none⟩ = some (.bool (V.mk 7 false 0 0 ByteArray.empty l q).right)) (c4 : w.cell? ⟨B, 4, none⟩ = some (.slice a l.length c)) (c5 : w.cell? ⟨B, 5, none⟩ = some (.slice ka q.length kc)) (c6 : w.cell? ⟨B, 6, none⟩ = some (.map (some M))) (hk : SRow w ok ka q) (hM : Places w M q) (hr : HRow w ok a l.length H) (hin : ∀ j (hj : j < l.length), Rep w ok (H j) l[j]) : Rep w ok (.iface 187 (.pointer (some ⟨B, 0, none⟩))) (.mk 7 false 0 0 ByteArray.empty l q) := fun X hX => hX.map B M l q a c ka kc H hB hMo ha hka hq c0 c1 c2 c3 c4 c5 c6 hk hM hr (fun j hj => hin j hj X hX)
set_option maxRecDepth 100000 in
theorem Rep.ind {w : World} {ok : Nat → Prop} {motive : (h : Value) → (v : V) → Rep w ok h v → Prop}
    (null : motive .nilIface V.null (Rep.null))
    (later : motive (.iface 98 (.agg #[])) (.mk 1 false 0 0 ByteArray.empty [] []) (Rep.later))
    (bool : ∀ (b : Bool), motive (.iface 4 (.bool b)) (.mk 2 b 0 0 ByteArray.empty [] []) (Rep.bool b))
    (int : ∀ (n : Int) (h : I64 n), motive (.iface 3 (.int .i64 n)) (.mk 3 false n 0 ByteArray.empty [] []) (Rep.int n h))
    (point : ∀ (n m : Int) (hn : -9007199254740992 ≤ n ∧ n ≤ 9007199254740992) (hm : -9007199254740992 ≤ m ∧ m ≤ 9007199254740992), motive (.iface 191 (.complex .f64 (floatOfInt .f64 n) (floatOfInt .f64 m))) (.mk 4 false n m ByteArray.empty [] []) (Rep.point n m hn hm))
    (text : ∀ (s : ByteArray) (h : s.size ≤ maxLen), motive (.iface 9 (.string s)) (.mk 5 false 0 0 s [] []) (Rep.text s h))
    (list : ∀ (B : Nat) (l : List V) (a : Option Addr) (c : Nat) (H : Nat → Value) (hB : ok B ∧ PlainT w B 179) (ha : SliceOk a l.length c) (c0 : w.cell? ⟨B, 0, none⟩ = some (.int .i64 ((V.mk 6 false 0 0 ByteArray.empty l []).deep : Nat))) (c1 : w.cell? ⟨B, 1, none⟩ = some (.int .i64 ((V.mk 6 false 0 0 ByteArray.empty l []).size : Nat))) (c2 : w.cell? ⟨B, 2, none⟩ = some (.bool (V.mk 6 false 0 0 ByteArray.empty l []).known)) (c3 : w.cell? ⟨B, 3, none⟩ = some (.bool (V.mk 6 false 0 0 ByteArray.empty l []).right)) (c4 : w.cell? ⟨B, 4, none⟩ = some (.slice a l.length c)) (hr : HRow w ok a l.length H) (hin : ∀ j (hj : j < l.length), Rep w ok (H j) l[j]) (_ih : ∀ j (hj : j < l.length), motive (H j) l[j] (hin j hj)), motive (.iface 174 (.pointer (some ⟨B, 0, none⟩))) (.mk 6 false 0 0 ByteArray.empty l []) (Rep.list B l a c H hB ha c0 c1 c2 c3 c4 hr hin))
    (map : ∀ (B M : Nat) (l : List V) (q : List ByteArray) (a : Option Addr) (c : Nat) (ka : Option Addr) (kc : Nat) (H : Nat → Value) (hB : ok B ∧ PlainT w B 190) (hMo : ok M) (ha : SliceOk a l.length c) (hka : SliceOk ka q.length kc) (hq : q.length = l.length) (c0 : w.cell? ⟨B, 0, none⟩ = some (.int .i64 ((V.mk 7 false 0 0 ByteArray.empty l q).deep : Nat))) (c1 : w.cell? ⟨B, 1, none⟩ = some (.int .i64 ((V.mk 7 false 0 0 ByteArray.empty l q).size : Nat))) (c2 : w.cell? ⟨B, 2, none⟩ = some (.bool (V.mk 7 false 0 0 ByteArray.empty l q).known)) (c3 : w.cell? ⟨B, 3, none⟩ = some (.bool (V.mk 7 false 0 0 ByteArray.empty l q).right)) (c4 : w.cell? ⟨B, 4, none⟩ = some (.slice a l.length c)) (c5 : w.cell? ⟨B, 5, none⟩ = some (.slice ka q.length kc)) (c6 : w.cell? ⟨B, 6, none⟩ = some (.map (some M))) (hk : SRow w ok ka q) (hM : Places w M q) (hr : HRow w ok a l.length H) (hin : ∀ j (hj : j < l.length), Rep w ok (H j) l[j]) (_ih : ∀ j (hj : j < l.length), motive (H j) l[j] (hin j hj)), motive (.iface 187 (.pointer (some ⟨B, 0, none⟩))) (.mk 7 false 0 0 ByteArray.empty l q) (Rep.map B M l q a c ka kc H hB hMo ha hka hq c0 c1 c2 c3 c4 c5 c6 hk hM hr hin))
    {h : Value} {v : V} (t : Rep w ok h v) : motive h v t := by
  obtain ⟨_, hm⟩ := t (fun h v => ∃ t : Rep w ok h v, motive h v t) {
    null := ⟨Rep.null, null⟩,
    later := ⟨Rep.later, later⟩,
    bool := fun b => ⟨Rep.bool b, bool b⟩,
    int := fun n h => ⟨Rep.int n h, int n h⟩,
    point := fun n m hn hm => ⟨Rep.point n m hn hm, point n m hn hm⟩,
    text := fun s h => ⟨Rep.text s h, text s h⟩,
    list := fun B l a c H hB ha c0 c1 c2 c3 c4 hr hx => ⟨Rep.list B l a c H hB ha c0 c1 c2 c3 c4 hr (fun j hj => (hx j hj).1), list B l a c H hB ha c0 c1 c2 c3 c4 hr (fun j hj => (hx j hj).1) (fun j hj => (hx j hj).2)⟩,
    map := fun B M l q a c ka kc H hB hMo ha hka hq c0 c1 c2 c3 c4 c5 c6 hk hM hr hx => ⟨Rep.map B M l q a c ka kc H hB hMo ha hka hq c0 c1 c2 c3 c4 c5 c6 hk hM hr (fun j hj => (hx j hj).1), map B M l q a c ka kc H hB hMo ha hka hq c0 c1 c2 c3 c4 c5 c6 hk hM hr (fun j hj => (hx j hj).1) (fun j hj => (hx j hj).2)⟩ }
  exact hm
set_option maxRecDepth 100000 in
theorem HRow.agree {w w' : World} {ok : Nat → Prop} {a : Option Addr} {n : Nat} {H : Nat → Value} (h : HRow w ok a n H) (hg : Agree ok w w') : HRow w' ok a n H := fun hn => by
  obtain ⟨b, off, rfl, hb, hc⟩ := h hn
  exact ⟨b, off, rfl, hb, fun j hj => hg.cell hb (hc j hj)⟩
set_option maxRecDepth 100000 in
theorem HRow.below {w w' : World} {ok : Nat → Prop} {a : Option Addr} {n : Nat} {H : Nat → Value} (h : HRow w ok a n H) (hb : Below w.heap.size w w') : HRow w' ok a n H := h.agree (agreeB hb ok)
set_option maxRecDepth 100000 in
theorem HRow.mono {w : World} {ok ok' : Nat → Prop} {a : Option Addr} {n : Nat} {H : Nat → Value} (h : HRow w ok a n H) (hm : ∀ b, ok b → b < w.heap.size → ok' b) : HRow w ok' a n H := fun hn => by
  obtain ⟨b, off, rfl, hb, hc⟩ := h hn
  exact ⟨b, off, rfl, hm b hb (World.block_lt_of_cell? w ⟨b, off + 0, none⟩ (hc 0 hn)), hc⟩
set_option maxRecDepth 100000 in
theorem Places.lt {w : World} {M : Nat} {q : List ByteArray} (h : Places w M q) : M < w.heap.size := by
  obtain ⟨n, D, hown, -, -⟩ := h
  exact hown.lt
set_option maxRecDepth 100000 in
theorem Places.agree {w w' : World} {M : Nat} {q : List ByteArray} (h : Places w M q) (hg : w'.heap[M]? = w.heap[M]?) : Places w' M q := by
  obtain ⟨n, D, hown, h1, h2⟩ := h
  refine ⟨n, D, ?_, h1, h2⟩
  obtain ⟨es, clock, hbk, Ft, hs, hD⟩ := hown
  exact ⟨es, clock, hg.trans hbk, Ft, hs, hD⟩
set_option maxRecDepth 100000 in
theorem plain_agree {w w' : World} {ok : Nat → Prop} {B : Nat} {T : TypeId} {u : Value} (hB : ok B ∧ PlainT w B T) (hg : Agree ok w w') (c : w.cell? ⟨B, 0, none⟩ = some u) : ok B ∧ PlainT w' B T := by
  obtain ⟨h, cs, e⟩ := hB
  exact ⟨h, cs, (hg B h (World.block_lt_of_cell? w ⟨B, 0, none⟩ c)).trans e⟩
set_option maxRecDepth 100000 in
theorem Rep.agree {w w' : World} {ok : Nat → Prop} {h : Value} {v : V} (hr : Rep w ok h v) (hg : Agree ok w w') : Rep w' ok h v := by
  induction hr using Rep.ind with
  | null => exact Rep.null
  | later => exact Rep.later
  | bool b => exact Rep.bool b
  | int n h => exact Rep.int n h
  | point n m hn hm => exact Rep.point n m hn hm
  | text s h => exact Rep.text s h
  | list B l a c H hB ha c0 c1 c2 c3 c4 hr _ ih => exact Rep.list B l a c H (plain_agree hB hg c0) ha (hg.cell hB.1 c0) (hg.cell hB.1 c1) (hg.cell hB.1 c2) (hg.cell hB.1 c3) (hg.cell hB.1 c4) (hr.agree hg) ih
  | map B M l q a c ka kc H hB hMo ha hka hq c0 c1 c2 c3 c4 c5 c6 hk hM hr _ ih =>
    exact Rep.map B M l q a c ka kc H (plain_agree hB hg c0) hMo ha hka hq (hg.cell hB.1 c0) (hg.cell hB.1 c1) (hg.cell hB.1 c2) (hg.cell hB.1 c3) (hg.cell hB.1 c4) (hg.cell hB.1 c5) (hg.cell hB.1 c6) (hk.agree hg) (hM.agree (hg M hMo hM.lt)) (hr.agree hg) ih
set_option maxRecDepth 100000 in
theorem Rep.stays {w w' : World} {ok : Nat → Prop} {h : Value} {v : V} (hr : Rep w ok h v) (hb : Below w.heap.size w w') : Rep w' ok h v := hr.agree (agreeB hb ok)
set_option maxRecDepth 100000 in
theorem Rep.mono {w : World} {ok ok' : Nat → Prop} {h : Value} {v : V} (hr : Rep w ok h v) (hm : ∀ b, ok b → b < w.heap.size → ok' b) : Rep w ok' h v := by
  induction hr using Rep.ind with
  | null => exact Rep.null
  | later => exact Rep.later
  | bool b => exact Rep.bool b
  | int n h => exact Rep.int n h
  | point n m hn hm => exact Rep.point n m hn hm
  | text s h => exact Rep.text s h
  | list B l a c H hB ha c0 c1 c2 c3 c4 hr _ ih => exact Rep.list B l a c H ⟨hm B hB.1 (World.block_lt_of_cell? w ⟨B, 0, none⟩ c0), hB.2⟩ ha c0 c1 c2 c3 c4 (hr.mono hm) ih
  | map B M l q a c ka kc H hB hMo ha hka hq c0 c1 c2 c3 c4 c5 c6 hk hM hr _ ih =>
    exact Rep.map B M l q a c ka kc H ⟨hm B hB.1 (World.block_lt_of_cell? w ⟨B, 0, none⟩ c0), hB.2⟩ (hm M hMo hM.lt) ha hka hq c0 c1 c2 c3 c4 c5 c6 (hk.mono hm) hM (hr.mono hm) ih
set_option maxRecDepth 100000 in
theorem Rep.one {w : World} {ok : Nat → Prop} {h : Value} {v : V} (hr : Rep w ok h v) : h.oneCell' = true := by induction hr using Rep.ind <;> rfl
set_option maxRecDepth 100000 in
/-- A store of one cell's value into a new block; into one that is there. -/
theorem store_new (T : TypeId) (h c : Value) (ho : h.oneCell' = true) (W : World) : (store ⟨W.heap.size, 0, none⟩ h).run Try.prog (W.alloc (.cells #[c] T)) = .ok () (W.alloc (.cells #[h] T)) := by
  have hn := heap_alloc_new W (.cells #[c] T)
  have h1 : (W.alloc (.cells #[c] T)).cell? ⟨W.heap.size, 0, none⟩ = some c := cell_of_row _ _ _ _ _ _ hn
  have h2 : (W.alloc (.cells #[c] T)).frozen? ⟨W.heap.size, 0, none⟩ = false := frozen_of_row _ _ _ _ _ hn
  rw [run_store _ _ _ _ _ ho, h1, h2, World.setCell_alloc_new]
  rfl
set_option maxRecDepth 100000 in
theorem store_old (h c : Value) (ho : h.oneCell' = true) (W : World) (a : Addr) (h1 : W.cell? a = some c) (h2 : W.frozen? a = false) : (store a h).run Try.prog W = .ok () (W.setCell a h) := by
  rw [run_store _ _ _ _ _ ho, h1]
  simp [h2]
/-- A slice of values, and what they hold. -/
def RRow (w : World) (ok : Nat → Prop) (a : Option Addr) (l : List V) : Prop := ∃ H, HRow w ok a l.length H ∧ ∀ j (hj : j < l.length), Rep w ok (H j) l[j]
set_option maxRecDepth 100000 in
theorem RRow.agree {w w' : World} {ok : Nat → Prop} {a : Option Addr} {l : List V} (h : RRow w ok a l) (hg : Agree ok w w') : RRow w' ok a l := by
  obtain ⟨H, h1, h2⟩ := h
  exact ⟨H, h1.agree hg, fun j hj => (h2 j hj).agree hg⟩
set_option maxRecDepth 100000 in
theorem RRow.below {w w' : World} {ok : Nat → Prop} {a : Option Addr} {l : List V} (h : RRow w ok a l) (hb : Below w.heap.size w w') : RRow w' ok a l := h.agree (agreeB hb ok)
set_option maxRecDepth 100000 in
theorem RRow.mono {w : World} {ok ok' : Nat → Prop} {a : Option Addr} {l : List V} (h : RRow w ok a l) (hm : ∀ b, ok b → b < w.heap.size → ok' b) : RRow w ok' a l := by
  obtain ⟨H, h1, h2⟩ := h
  exact ⟨H, h1.mono hm, fun j hj => (h2 j hj).mono hm⟩
end Go.Proofs.Ytgknefpefeghcaa
