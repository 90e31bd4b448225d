/- A finder in memory: its nodes, its edges; follow. Conditions: the finder lies in memory. -/
import Derived.Test.YtgknefpefeghcaaMkP
import Derived.Test.YtgknefpefeghcaaVarA
import Derived.Maps.OwnSet
import Derived.Maps.Views
import Derived.DeepKeys4
import Derived.StringKeys
import Derived.Deep.CutRange
namespace Go.Proofs.Ytgknefpefeghcaa
open Go.RowKit Go.Maps Go.ChangeMaps Go.WideShapes Go.WideMaps

def I64e (n : Int) : Prop := -9223372036854775808 ≤ n ∧ n ≤ 9223372036854775807
/-- An edge's key. -/
def keyE (n b : Int) : Lit := .string (keyBytes [.int .i64 n, .int .u8 b])
set_option maxRecDepth 100000 in
theorem edge_cells : Try.prog.cellsOf 135 = 2 := by kernel_rfl
set_option maxRecDepth 100000 in
theorem edge_ci : Try.prog.cellsOf 3 = 1 := by kernel_rfl
set_option maxRecDepth 100000 in
theorem edge_cb : Try.prog.cellsOf 5 = 1 := by kernel_rfl
set_option maxRecDepth 100000 in
theorem edge_kt : Try.prog.keyType 135 = true := by kernel_rfl
set_option maxRecDepth 100000 in
theorem edge_wide : (match Try.prog.underlying 135 with | some (.array _ _) | some (.struct _) => true | _ => false) = true := by rw [Try.underlying135]
set_option maxRecDepth 100000 in
theorem edge_row : (135 : TypeId) < Try.prog.types.size := of_decide_eq_true (by kernel_rfl)
set_option maxRecDepth 100000 in
theorem edge_laid : laidOutB Try.prog = true := by kernel_rfl
set_option maxRecDepth 100000 in
theorem keyedE : Keyed Try.prog 135 := Keyed.of_law (deep_law_laid edge_laid (m := 2) (by omega) edge_row (by kernel_rfl) edge_wide)
set_option maxRecDepth 100000 in
theorem key_edge {n b : Int} (hn : I64e n) (hb : 0 ≤ b ∧ b ≤ 255) : keyOf Try.prog 135 (.agg #[.int .i64 n, .int .u8 b]) = some (keyE n b) := by
  have k0 := edge_cells
  have k1 := edge_ci
  have k2 := edge_cb
  have hkt := edge_kt
  have wa : (Lit.int .i64 n).wf = true := WalkArith.wf_i64 hn
  have wb : (Lit.int .u8 b).wf = true := WalkArith.wf_u8 hb
  obtain ⟨m, hm⟩ : ∃ m, Try.prog.types.size = m + 1 := Nat.exists_eq_succ_of_ne_zero (fun e => by have := edge_row; rw [e] at this; exact absurd this (by decide))
  unfold keyOf
  simp only [Try.underlying135]
  rw [if_pos (by simp [hkt, Value.formed, Try.underlying135, k0]), hm]
  unfold Program.keyLits
  simp only [Try.underlying135, Value.cells]
  cases m with
  | zero => have := edge_row; rw [hm] at this; exact absurd this (by decide)
  | succ m => simp [k0, k1, k2, Program.keyLits, Try.underlying3, Try.underlying5, wa, wb, keyE]
set_option maxRecDepth 100000 in
theorem keyE_inj {n b n' b' : Int} (hn : I64e n) (hb : 0 ≤ b ∧ b ≤ 255) (hn' : I64e n') (hb' : 0 ≤ b' ∧ b' ≤ 255) (h : keyE n b = keyE n' b') : n = n' ∧ b = b' := by
  have h1 := keyedE.inj (key_edge hn hb) ((key_edge hn' hb').trans (by rw [h]))
  simp at h1
  exact h1
/-- Cells of a row of nodes. -/
def flatN : List Nd → List Value
  | [] => []
  | x :: r => .int .i64 x.back :: .int .i64 x.long :: flatN r
set_option maxRecDepth 100000 in
theorem flatN_app (l r : List Nd) : flatN (l ++ r) = flatN l ++ flatN r := by
  induction l with
  | nil => rfl
  | cons y t ih => simp only [List.cons_append, flatN, ih]
set_option maxRecDepth 100000 in
theorem flatN_len (l : List Nd) : (flatN l).length = l.length * 2 := by
  induction l with
  | nil => rfl
  | cons y r ih => simp only [flatN, List.length_cons, ih]; omega
set_option maxRecDepth 100000 in
theorem flatN_get : ∀ (l : List Nd) (j : Nat) (x : Nd), l[j]? = some x → (flatN l)[j * 2]? = some (.int .i64 x.back) ∧ (flatN l)[j * 2 + 1]? = some (.int .i64 x.long)
  | [], j, x, h => by simp at h
  | y :: r, 0, x, h => by
    obtain rfl := Option.some.inj h
    exact ⟨rfl, rfl⟩
  | y :: r, j + 1, x, h => by
    have := flatN_get r j x h
    rw [show (j + 1) * 2 = j * 2 + 2 by omega]
    exact this
/-- What the map holds. -/
def ViewE (D : DataW Unit) (N : List Nd) : Prop := ∀ (i : Nat) (b : Int), i ≤ 1000000 → 0 ≤ b ∧ b ≤ 255 →
  (∀ j, EdgeTo N i b j → Maps.has D (keyE i b) = true ∧ ∀ z, D.atKey (keyE i b) z = .lit (.int .i64 j)) ∧ ((∀ j, ¬ EdgeTo N i b j) → Maps.has D (keyE i b) = false)
structure FIn (W : World) (base F Mb : Nat) (nv : Value) (N : List Nd) : Prop where
  box : W.heap[F]? = some (.cells #[nv, .map (some Mb)] 102)
  row : W.ownsRow base 111 2 nv N.length (flatN N)
  map : ∃ D : DataW Unit, W.ownsMap Try.prog 135 (plainElem Try.prog 3) Mb N.length D ∧ ViewE D N
  small : N.length ≤ 100000
set_option maxRecDepth 100000 in
theorem zeroIE (w : World) : (zeroValue 3).run Try.prog w = .ok (.int .i64 0) w := by kernel_rfl
set_option maxRecDepth 100000 in
theorem FIn.cells {W : World} {base F Mb : Nat} {nv : Value} {N : List Nd} (h : FIn W base F Mb nv N) : W.cell? ⟨F, 0, none⟩ = some nv ∧ W.cell? ⟨F, 1, none⟩ = some (.map (some Mb)) ∧ ∀ j, W.frozen? ⟨F, j, none⟩ = false :=
  ⟨cell_of_row _ _ _ _ _ _ h.box, cell_of_row _ _ _ _ _ _ h.box, fun _ => frozen_of_row _ _ _ _ _ h.box⟩
set_option maxRecDepth 100000 in
theorem FIn.lt {W : World} {base F Mb : Nat} {nv : Value} {N : List Nd} (h : FIn W base F Mb nv N) : F < W.heap.size := (Array.getElem?_eq_some_iff.1 h.box).1
set_option maxRecDepth 100000 in
/-- A node in memory. -/
theorem FIn.node {W : World} {base F Mb : Nat} {nv : Value} {N : List Nd} (h : FIn W base F Mb nv N) {k : Nat} {x : Nd} (hx : N[k]? = some x) :
    ∃ g cap, nv = .slice (some ⟨g, 0, none⟩) N.length cap ∧ k < N.length ∧ W.cell? ⟨g, k * 2, none⟩ = some (.int .i64 x.back) ∧ W.cell? ⟨g, k * 2 + 1, none⟩ = some (.int .i64 x.long) := by
  have hk := (List.getElem?_eq_some_iff.1 hx).1
  have hr := h.row
  rcases hr.2 with ⟨-, h0⟩ | ⟨g, cap, cur, rfl, -⟩
  · omega
  · obtain ⟨y0, y1⟩ := flatN_get N k x hx
    have hl := flatN_len N
    have c0 := hr.cellAt (k * 2) (by omega)
    have c1 := hr.cellAt (k * 2 + 1) (by omega)
    exact ⟨g, cap, rfl, hk, c0.trans y0, c1.trans y1⟩
set_option maxRecDepth 100000 in
theorem FIn.look {W : World} {base F Mb : Nat} {nv : Value} {N : List Nd} (h : FIn W base F Mb nv N) (k : Nat) (hk : k < N.length) (b : Int) (hb : 0 ≤ b ∧ b ≤ 255) :
    ∃ (c : Int) (ok : Bool), (Instr.lookup 100 (.map (some Mb)) (.agg #[.int .i64 (k : Int), .int .u8 b]) true).run Try.prog W = .ok (.tuple #[.int .i64 c, .bool ok]) W ∧ (ok = true → ∃ j : Nat, c = j ∧ EdgeTo N k b j) ∧ (ok = false → ∀ j, ¬ EdgeTo N k b j) := by
  obtain ⟨D, hown, hv⟩ := h.map
  have hsm := h.small
  have hkey := key_edge (n := (k : Int)) (b := b) (by unfold I64e; omega) hb
  obtain ⟨v, ps, hrun, hR⟩ := hown.look_ok keyedE Try.underlying100 (zeroIE W) (plainElem_int Try.underlying3 (a := 0) (by decide)) hkey
  obtain ⟨c, rfl, hc, -⟩ := plainElem_int_inv Try.underlying3 hR
  have hc := congrArg Prod.fst hc
  obtain ⟨h1, h2⟩ := hv k b (by omega) hb
  refine ⟨c, _, hrun, fun hok => ?_, fun hok j he => ?_⟩
  · by_cases he : ∃ j, EdgeTo N k b j
    · obtain ⟨j, he⟩ := he
      refine ⟨j, ?_, he⟩
      rw [(h1 j he).2] at hc
      cases hc; rfl
    · have := h2 (fun j hj => he ⟨j, hj⟩)
      rw [this] at hok; cases hok
  · rw [(h1 j he).1] at hok; cases hok
def labLen (N : List Nd) (k : Nat) : Nat := match N[k]? with | some x => x.lab.length | none => 0
set_option maxRecDepth 100000 in
theorem labLen_of {N : List Nd} {k : Nat} {x : Nd} (h : N[k]? = some x) : labLen N k = x.lab.length := by simp [labLen, h]
set_option maxRecDepth 100000 in
set_option maxHeartbeats 800000 in
theorem follow_any {W : World} {base F Mb : Nat} {nv : Value} {N : List Nd} (h : FIn W base F Mb nv N) (ht : TreeOk N) {s : List Int} {k : Nat} (hb : Best N s k) (b : Int) (hbb : 0 ≤ b ∧ b ≤ 255) :
    Calls Try.prog 54 #[.pointer (some ⟨F, 0, none⟩), .int .i64 (k : Int), .int .u8 b] W fun e w' => (∃ r : Nat, e = .returned (.int .i64 (r : Int)) ∧ Best N (b :: s) r) ∧ W = w' := by
  obtain ⟨z0, z1, zf⟩ := h.cells
  have hF := h.lt
  have hfo := Foll.start hb b
  clear hb
  go_enter Try.func54, Try.ntmps54
  go_wp2
  go_loop [1] (fun s1 => ∃ k : Nat, s1 = .int .i64 (k : Int) ∧ Foll N s b k) (fun s1 => labLen N (intOf s1).toNat)
  case atStart => exact ⟨k, rfl, hfo⟩
  case round =>
    clear hfo
    obtain ⟨k, rfl, hfo⟩ := hrel
    obtain ⟨x, hx, hx2, hx3⟩ := hfo
    have hfo : Foll N s b k := ⟨x, hx, hx2, hx3⟩
    obtain ⟨g, cap, rfl, hk, c0, c1⟩ := h.node hx
    obtain ⟨c, ok, hrun, hyes, hno⟩ := h.look k hk b hbb
    cases ok
    · have hno := hno rfl
      clear hyes
      by_cases hk0 : k = 0
      · subst hk0
        have hr := hfo.root ht hno
        clear hx3 hno
        rw [show ((0 : Nat) : Int) = 0 from rfl] at hrun
        go_wp2
        go_ret
        exact ⟨⟨0, rfl, hr⟩, rfl⟩
      · obtain ⟨x', e1, hf2, y, y1, y2⟩ := hfo.step ht hk0 hno
        rw [hx] at e1
        obtain rfl := Option.some.inj e1
        clear hx3 hno
        have hm : labLen N x.back < labLen N k := by rw [labLen_of hx, labLen_of y1]; exact y2
        go_wp2
        go_roundw
        case rel => exact ⟨x.back, rfl, hf2⟩
        case measure => simpa [intOf] using hm
    · obtain ⟨j, rfl, he⟩ := hyes rfl
      have hr := hfo.hit ht he
      clear hx3 hno hyes
      go_wp2
      go_ret
      exact ⟨⟨j, rfl, hr⟩, rfl⟩
end Go.Proofs.Ytgknefpefeghcaa
