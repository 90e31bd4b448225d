/-
  No cell of these rows narrows 'for every input' (looked for: loops, veiled, ifaces, maps, wideKeys, modest, calm, conditions, laid).
  DERIVED. THE GIVEN ROWS OF THIS SEAT. 5 by the template 'for every input the law returns true; each argument reads behind the call as it read before'; 0 by the template 'total and deterministic' (their statements: YtgknefpefeghcaaTotals.lean).
  GIVEN WITH THE SEED: the statements are not yours to turn. If you find one false, say at which input.
  Laid BY PROGRAM, IN A SANDBOX (cutbox-rows.mjs): the forced cells as the released guide's own fill.sh prints them over the translation 4c8b93b67f034226… (all of the seat's roots in one cut). By AI agents, Wed Nov 11 2026. No macro, syntax, notation, axiom, sorry.
-/
import Derived.Test.YtgknefpefeghcaaChecked
import GoSem.Claim
import GoSem.ClaimJoined
import GoSem.ClaimMapViews
import Derived.JoinedTies
import Derived.KernelRfl
namespace Go.Proofs.Ytgknefpefeghcaa
/- THE CELL 'sum', in the pinned program and in every row, IS THE sha256 OF THE DUMP (.gsa) THAT YtgknefpefeghcaaProg.lean LOADS. Nothing in Lean hashes anything: it is a label: what it is worth is what the hold of that sum in a sandbox is worth. -/
noncomputable def Try.pinned : Pinned := { name := "ytgknefpefeghcaa", sum := "4c8b93b67f03422647ef152a088ea1996a31d4f81cf3b27976e411eb8d2106b1", checked := Try.checked }
namespace Rows
def none {H : Type} : Left H := { results := [], args := [] }

/-- 'flangelaw11.MarkCleans': WHATEVER THE INPUT: true; the input reads as it did. -/
def markCleansSpec : ChangeSpec := { name := "markCleans", fn := fun _ => fun
  | [d1, d2] => { results := [.lit (.bool true)], args := [d1, d2] }
  | _ => none }
def markCleansRow : OpenClaim := { program := "ytgknefpefeghcaa", sum := "4c8b93b67f03422647ef152a088ea1996a31d4f81cf3b27976e411eb8d2106b1", func := "flange/flangelaw11.MarkCleans", spec := "markCleans", inPlace := ["internal/abi.NoEscape"], unfollowed := true, recurses := true, plainKeys := false, apart := false }
def MarkCleansSaid : Prop := markCleansRow.holds Try.pinned (OpenSpec.ofChange markCleansSpec)

/-- ITS FALSE NEIGHBOUR: 'it returns false'. Refute it at one input. -/
def markCleansWrong : ChangeSpec := { name := "markCleans", fn := fun _ => fun
  | [d1, d2] => { results := [.lit (.bool false)], args := [d1, d2] }
  | _ => none }
def MarkCleansWrongFalsely : Prop := markCleansRow.holds Try.pinned (OpenSpec.ofChange markCleansWrong)

/-- 'flangelaw13.DiagCleans': WHATEVER THE INPUT: true; the input reads as it did. -/
def diagCleansSpec : ChangeSpec := { name := "diagCleans", fn := fun _ => fun
  | [d1, d2] => { results := [.lit (.bool true)], args := [d1, d2] }
  | _ => none }
def diagCleansRow : OpenClaim := { program := "ytgknefpefeghcaa", sum := "4c8b93b67f03422647ef152a088ea1996a31d4f81cf3b27976e411eb8d2106b1", func := "flange/flangelaw13.DiagCleans", spec := "diagCleans", inPlace := ["internal/abi.NoEscape"], unfollowed := true, recurses := true, plainKeys := false, apart := false }
def DiagCleansSaid : Prop := diagCleansRow.holds Try.pinned (OpenSpec.ofChange diagCleansSpec)

/-- ITS FALSE NEIGHBOUR: 'it returns false'. Refute it at one input. -/
def diagCleansWrong : ChangeSpec := { name := "diagCleans", fn := fun _ => fun
  | [d1, d2] => { results := [.lit (.bool false)], args := [d1, d2] }
  | _ => none }
def DiagCleansWrongFalsely : Prop := diagCleansRow.holds Try.pinned (OpenSpec.ofChange diagCleansWrong)

/-- 'flangelaw13.DiagCodes': WHATEVER THE INPUT: true; the input reads as it did. -/
def diagCodesSpec : ChangeSpec := { name := "diagCodes", fn := fun _ => fun
  | [d1, d2] => { results := [.lit (.bool true)], args := [d1, d2] }
  | _ => none }
def diagCodesRow : OpenClaim := { program := "ytgknefpefeghcaa", sum := "4c8b93b67f03422647ef152a088ea1996a31d4f81cf3b27976e411eb8d2106b1", func := "flange/flangelaw13.DiagCodes", spec := "diagCodes", inPlace := ["internal/abi.NoEscape"], unfollowed := true, recurses := true, plainKeys := false, apart := false }
def DiagCodesSaid : Prop := diagCodesRow.holds Try.pinned (OpenSpec.ofChange diagCodesSpec)

/-- ITS FALSE NEIGHBOUR: 'it returns false'. Refute it at one input. -/
def diagCodesWrong : ChangeSpec := { name := "diagCodes", fn := fun _ => fun
  | [d1, d2] => { results := [.lit (.bool false)], args := [d1, d2] }
  | _ => none }
def DiagCodesWrongFalsely : Prop := diagCodesRow.holds Try.pinned (OpenSpec.ofChange diagCodesWrong)

/-- 'flangelaw13.DiagPlain': WHATEVER THE INPUT: true; the input reads as it did. -/
def diagPlainSpec : ChangeSpec := { name := "diagPlain", fn := fun _ => fun
  | [d1, d2] => { results := [.lit (.bool true)], args := [d1, d2] }
  | _ => none }
def diagPlainRow : OpenClaim := { program := "ytgknefpefeghcaa", sum := "4c8b93b67f03422647ef152a088ea1996a31d4f81cf3b27976e411eb8d2106b1", func := "flange/flangelaw13.DiagPlain", spec := "diagPlain", inPlace := ["internal/abi.NoEscape"], unfollowed := true, recurses := true, plainKeys := false, apart := false }
def DiagPlainSaid : Prop := diagPlainRow.holds Try.pinned (OpenSpec.ofChange diagPlainSpec)

/-- ITS FALSE NEIGHBOUR: 'it returns false'. Refute it at one input. -/
def diagPlainWrong : ChangeSpec := { name := "diagPlain", fn := fun _ => fun
  | [d1, d2] => { results := [.lit (.bool false)], args := [d1, d2] }
  | _ => none }
def DiagPlainWrongFalsely : Prop := diagPlainRow.holds Try.pinned (OpenSpec.ofChange diagPlainWrong)

/-- 'flangelaw13.DiagLines': WHATEVER THE INPUT: true; the input reads as it did. -/
def diagLinesSpec : ChangeSpec := { name := "diagLines", fn := fun _ => fun
  | [d] => { results := [.lit (.bool true)], args := [d] }
  | _ => none }
def diagLinesRow : OpenClaim := { program := "ytgknefpefeghcaa", sum := "4c8b93b67f03422647ef152a088ea1996a31d4f81cf3b27976e411eb8d2106b1", func := "flange/flangelaw13.DiagLines", spec := "diagLines", inPlace := ["internal/abi.NoEscape"], unfollowed := true, recurses := true, plainKeys := false, apart := false }
def DiagLinesSaid : Prop := diagLinesRow.holds Try.pinned (OpenSpec.ofChange diagLinesSpec)

/-- ITS FALSE NEIGHBOUR: 'it returns false'. Refute it at one input. -/
def diagLinesWrong : ChangeSpec := { name := "diagLines", fn := fun _ => fun
  | [d] => { results := [.lit (.bool false)], args := [d] }
  | _ => none }
def DiagLinesWrongFalsely : Prop := diagLinesRow.holds Try.pinned (OpenSpec.ofChange diagLinesWrong)

/- THE SECOND FORM. 'bulk': how many values and letters a reading holds, each counted each time it is reached (what is shared counts as often as it is met; a slice's spare places count too). A statement '..UptoSaid' is the law's where the arguments, and the package variables that the reading takes, are together of bulk at most 1048576: NARROWER than '..Said'. Prove '..Said' where nothing that the law and all that it calls make is longer than what came in: it says more and counts as full. Else prove '..UptoSaid'. A law counts once. -/
mutual
def uptoBulk {H : Type} : DataW H → Nat
  | .lit (.string bytes) => bytes.length + 1
  | .lit _ => 1
  | .nil => 1
  | .ptr d => uptoBulk d + 1
  | .slice elems spare => uptoBulkAll elems + uptoBulkAll spare + 1
  | .agg parts => uptoBulkAll parts + 1
  | .iface _ d => uptoBulk d + 1
  | .map entries => uptoBulkEntries entries + 1
  | .held _ => 1
def uptoBulkAll {H : Type} : List (DataW H) → Nat
  | [] => 0
  | d :: r => uptoBulk d + uptoBulkAll r
def uptoBulkEntries {H : Type} : List (Lit × DataW H) → Nat
  | [] => 0
  | x :: r => uptoBulkEntry x + uptoBulkEntries r
def uptoBulkEntry {H : Type} : Lit × DataW H → Nat
  | (.string bytes, d) => bytes.length + uptoBulk d + 1
  | (_, d) => uptoBulk d + 1
 end
def uptoSmall : (H : Type) → List (DataW H) → Bool := fun _ ds => decide (uptoBulkAll ds ≤ 1048576)
def OpenSpec.upto (s : _root_.Go.ChangeSpec) : _root_.Go.OpenSpec := { _root_.Go.OpenSpec.ofChange s with cond := some uptoSmall }

/-- 'flangelaw11.MarkCleans', WHERE WHAT IT READS IS OF BULK AT MOST 1048576: true; the input reads as it did. -/
def markCleansUptoRow : OpenClaim := { program := "ytgknefpefeghcaa", sum := "4c8b93b67f03422647ef152a088ea1996a31d4f81cf3b27976e411eb8d2106b1", func := "flange/flangelaw11.MarkCleans", spec := "markCleans", inPlace := ["internal/abi.NoEscape"], unfollowed := true, recurses := true, plainKeys := false, apart := false, narrowed := true }
def MarkCleansUptoSaid : Prop := markCleansUptoRow.holds Try.pinned (OpenSpec.upto markCleansSpec)

/-- 'flangelaw13.DiagCleans', WHERE WHAT IT READS IS OF BULK AT MOST 1048576: true; the input reads as it did. -/
def diagCleansUptoRow : OpenClaim := { program := "ytgknefpefeghcaa", sum := "4c8b93b67f03422647ef152a088ea1996a31d4f81cf3b27976e411eb8d2106b1", func := "flange/flangelaw13.DiagCleans", spec := "diagCleans", inPlace := ["internal/abi.NoEscape"], unfollowed := true, recurses := true, plainKeys := false, apart := false, narrowed := true }
def DiagCleansUptoSaid : Prop := diagCleansUptoRow.holds Try.pinned (OpenSpec.upto diagCleansSpec)

/-- 'flangelaw13.DiagCodes', WHERE WHAT IT READS IS OF BULK AT MOST 1048576: true; the input reads as it did. -/
def diagCodesUptoRow : OpenClaim := { program := "ytgknefpefeghcaa", sum := "4c8b93b67f03422647ef152a088ea1996a31d4f81cf3b27976e411eb8d2106b1", func := "flange/flangelaw13.DiagCodes", spec := "diagCodes", inPlace := ["internal/abi.NoEscape"], unfollowed := true, recurses := true, plainKeys := false, apart := false, narrowed := true }
def DiagCodesUptoSaid : Prop := diagCodesUptoRow.holds Try.pinned (OpenSpec.upto diagCodesSpec)

/-- 'flangelaw13.DiagPlain', WHERE WHAT IT READS IS OF BULK AT MOST 1048576: true; the input reads as it did. -/
def diagPlainUptoRow : OpenClaim := { program := "ytgknefpefeghcaa", sum := "4c8b93b67f03422647ef152a088ea1996a31d4f81cf3b27976e411eb8d2106b1", func := "flange/flangelaw13.DiagPlain", spec := "diagPlain", inPlace := ["internal/abi.NoEscape"], unfollowed := true, recurses := true, plainKeys := false, apart := false, narrowed := true }
def DiagPlainUptoSaid : Prop := diagPlainUptoRow.holds Try.pinned (OpenSpec.upto diagPlainSpec)

/-- 'flangelaw13.DiagLines', WHERE WHAT IT READS IS OF BULK AT MOST 1048576: true; the input reads as it did. -/
def diagLinesUptoRow : OpenClaim := { program := "ytgknefpefeghcaa", sum := "4c8b93b67f03422647ef152a088ea1996a31d4f81cf3b27976e411eb8d2106b1", func := "flange/flangelaw13.DiagLines", spec := "diagLines", inPlace := ["internal/abi.NoEscape"], unfollowed := true, recurses := true, plainKeys := false, apart := false, narrowed := true }
def DiagLinesUptoSaid : Prop := diagLinesUptoRow.holds Try.pinned (OpenSpec.upto diagLinesSpec)

end Rows
end Go.Proofs.Ytgknefpefeghcaa
