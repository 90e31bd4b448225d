/- What pieces hands back: an iterator that yields frame by frame, each in new memory, and last what is none, if there is such. Conditions: the slice shows bytes, fewer than 2^45; the limit is one. -/
import Derived.Test.YtkcnpdcgonengaaFrA
import Derived.Test.YtkcnpdcgonengaaRF
import Derived.Shelf.Abstract
import Derived.Shelf.RegionOpen
import Derived.OwnWalkIn
import Derived.TacticsInMore
import Derived.LoopNIn
import Derived.LoopIn
namespace Go.Proofs.Ytkcnpdcgonengaa
open Go.RowKit Go.Shelf

attribute [local go_sem] Oper.semAt_some

/-- A piece: where its number begins, the frame, the error; and where the frame lies. -/
structure Piece where
  k : Nat
  b : List Int
  e : Int
  a : Option Addr
  c : Nat
def Piece.enc (p : Piece) : Array Value := #[.agg #[.int .i64 p.k, .slice p.a p.b.length p.c], .int .i64 p.e]
def Piece.strip (p : Piece) : Nat × List Int × Int := (p.k, p.b, p.e)
/-- What a round may count on: the frame's bytes are there, in a block from n₀ on; there are no more than a frame may have. -/
def Piece.told (n₀ : Nat) (p : Piece) (W : World) : Prop := Shown W p.a p.b p.c ∧ p.b.length ≤ 4096 ∧ ∀ x, p.a = some x → n₀ ≤ x.block ∧ ∃ cur, W.heap[x.block]? = some (.cells cur 5 (0, 0))

set_option maxRecDepth 100000 in
theorem pieces_any (a : Option Addr) (n cap : Nat) (L : Int) (w : World) : Calls Try.prog 69 #[.slice a n cap, .int .i64 L] w fun e w' =>
    e = .returned (.func (.func 112) #[] #[.pointer (some ⟨w.heap.size, 0, none⟩), .pointer (some ⟨w.heap.size + 1, 0, none⟩)]) ∧ (w.alloc (.cells #[.slice a n cap] 29)).alloc (.cells #[.int .i64 L] 3) = w' := by
  go_enter Try.func69, Try.ntmps69
  go_wp2
  go_ret
  exact ⟨rfl, rfl⟩
end Go.Proofs.Ytkcnpdcgonengaa
