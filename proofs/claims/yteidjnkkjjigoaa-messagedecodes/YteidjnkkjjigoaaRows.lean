/-
  No cell of these rows narrows 'for every input' (looked for: loops, veiled, ifaces, maps, wideKeys, modest, calm, conditions, laid).
  DERIVED. THE GIVEN ROWS OF THIS SEAT. 9 by the template 'for every input the law returns true; each argument reads behind the call as it read before'; 0 by the template 'total and deterministic' (their statements: YteidjnkkjjigoaaTotals.lean).
  GIVEN WITH THE SEED: the statements are not yours to turn. If you find one false, say at which input.
  Laid BY PROGRAM, IN A SANDBOX (cutbox-rows.mjs): the forced cells as the released guide's own fill.sh prints them over the translation 9720054b51aa1151… (all of the seat's roots in one cut). By AI agents, Wed Nov 11 2026. No macro, syntax, notation, axiom, sorry.
-/
import Derived.Test.YteidjnkkjjigoaaChecked
import GoSem.Claim
import GoSem.ClaimJoined
import GoSem.ClaimMapViews
import Derived.JoinedTies
import Derived.KernelRfl
namespace Go.Proofs.Yteidjnkkjjigoaa
/- THE CELL 'sum', in the pinned program and in every row, IS THE sha256 OF THE DUMP (.gsa) THAT YteidjnkkjjigoaaProg.lean LOADS. Nothing in Lean hashes anything: it is a label: what it is worth is what the hold of that sum in a sandbox is worth. -/
noncomputable def Try.pinned : Pinned := { name := "yteidjnkkjjigoaa", sum := "9720054b51aa11511cdde289a4b2266fd9c5fc2d87f69bf2609d8466bc57b2e7", checked := Try.checked }
namespace Rows
def none {H : Type} : Left H := { results := [], args := [] }

/-- 'flangelaw01.VarintLays': WHATEVER THE INPUT: true; the input reads as it did. -/
def varintLaysSpec : ChangeSpec := { name := "varintLays", fn := fun _ => fun
  | [d1, d2, d3] => { results := [.lit (.bool true)], args := [d1, d2, d3] }
  | _ => none }
def varintLaysRow : OpenClaim := { program := "yteidjnkkjjigoaa", sum := "9720054b51aa11511cdde289a4b2266fd9c5fc2d87f69bf2609d8466bc57b2e7", func := "flange/flangelaw01.VarintLays", spec := "varintLays", apart := false }
def VarintLaysSaid : Prop := varintLaysRow.holds Try.pinned (OpenSpec.ofChange varintLaysSpec)

/-- ITS FALSE NEIGHBOUR: 'it returns false'. Refute it at one input. -/
def varintLaysWrong : ChangeSpec := { name := "varintLays", fn := fun _ => fun
  | [d1, d2, d3] => { results := [.lit (.bool false)], args := [d1, d2, d3] }
  | _ => none }
def VarintLaysWrongFalsely : Prop := varintLaysRow.holds Try.pinned (OpenSpec.ofChange varintLaysWrong)

/-- 'flangelaw01.VarintReads': WHATEVER THE INPUT: true; the input reads as it did. -/
def varintReadsSpec : ChangeSpec := { name := "varintReads", fn := fun _ => fun
  | [d] => { results := [.lit (.bool true)], args := [d] }
  | _ => none }
def varintReadsRow : OpenClaim := { program := "yteidjnkkjjigoaa", sum := "9720054b51aa11511cdde289a4b2266fd9c5fc2d87f69bf2609d8466bc57b2e7", func := "flange/flangelaw01.VarintReads", spec := "varintReads", apart := false }
def VarintReadsSaid : Prop := varintReadsRow.holds Try.pinned (OpenSpec.ofChange varintReadsSpec)

/-- ITS FALSE NEIGHBOUR: 'it returns false'. Refute it at one input. -/
def varintReadsWrong : ChangeSpec := { name := "varintReads", fn := fun _ => fun
  | [d] => { results := [.lit (.bool false)], args := [d] }
  | _ => none }
def VarintReadsWrongFalsely : Prop := varintReadsRow.holds Try.pinned (OpenSpec.ofChange varintReadsWrong)

/-- 'flangelaw01.VarintInts': WHATEVER THE INPUT: true; the input reads as it did. -/
def varintIntsSpec : ChangeSpec := { name := "varintInts", fn := fun _ => fun
  | [d1, d2] => { results := [.lit (.bool true)], args := [d1, d2] }
  | _ => none }
def varintIntsRow : OpenClaim := { program := "yteidjnkkjjigoaa", sum := "9720054b51aa11511cdde289a4b2266fd9c5fc2d87f69bf2609d8466bc57b2e7", func := "flange/flangelaw01.VarintInts", spec := "varintInts", apart := false }
def VarintIntsSaid : Prop := varintIntsRow.holds Try.pinned (OpenSpec.ofChange varintIntsSpec)

/-- ITS FALSE NEIGHBOUR: 'it returns false'. Refute it at one input. -/
def varintIntsWrong : ChangeSpec := { name := "varintInts", fn := fun _ => fun
  | [d1, d2] => { results := [.lit (.bool false)], args := [d1, d2] }
  | _ => none }
def VarintIntsWrongFalsely : Prop := varintIntsRow.holds Try.pinned (OpenSpec.ofChange varintIntsWrong)

/-- 'flangelaw01.VarintApart': WHATEVER THE INPUT: true; the input reads as it did. -/
def varintApartSpec : ChangeSpec := { name := "varintApart", fn := fun _ => fun
  | [d1, d2] => { results := [.lit (.bool true)], args := [d1, d2] }
  | _ => none }
def varintApartRow : OpenClaim := { program := "yteidjnkkjjigoaa", sum := "9720054b51aa11511cdde289a4b2266fd9c5fc2d87f69bf2609d8466bc57b2e7", func := "flange/flangelaw01.VarintApart", spec := "varintApart", apart := false }
def VarintApartSaid : Prop := varintApartRow.holds Try.pinned (OpenSpec.ofChange varintApartSpec)

/-- ITS FALSE NEIGHBOUR: 'it returns false'. Refute it at one input. -/
def varintApartWrong : ChangeSpec := { name := "varintApart", fn := fun _ => fun
  | [d1, d2] => { results := [.lit (.bool false)], args := [d1, d2] }
  | _ => none }
def VarintApartWrongFalsely : Prop := varintApartRow.holds Try.pinned (OpenSpec.ofChange varintApartWrong)

/-- 'flangelaw02.MessageEncodes': WHATEVER THE INPUT: true; the input reads as it did. -/
def messageEncodesSpec : ChangeSpec := { name := "messageEncodes", fn := fun _ => fun
  | [d] => { results := [.lit (.bool true)], args := [d] }
  | _ => none }
def messageEncodesRow : OpenClaim := { program := "yteidjnkkjjigoaa", sum := "9720054b51aa11511cdde289a4b2266fd9c5fc2d87f69bf2609d8466bc57b2e7", func := "flange/flangelaw02.MessageEncodes", spec := "messageEncodes", apart := false }
def MessageEncodesSaid : Prop := messageEncodesRow.holds Try.pinned (OpenSpec.ofChange messageEncodesSpec)

/-- ITS FALSE NEIGHBOUR: 'it returns false'. Refute it at one input. -/
def messageEncodesWrong : ChangeSpec := { name := "messageEncodes", fn := fun _ => fun
  | [d] => { results := [.lit (.bool false)], args := [d] }
  | _ => none }
def MessageEncodesWrongFalsely : Prop := messageEncodesRow.holds Try.pinned (OpenSpec.ofChange messageEncodesWrong)

/-- 'flangelaw02.MessageDecodes': WHATEVER THE INPUT: true; the input reads as it did. -/
def messageDecodesSpec : ChangeSpec := { name := "messageDecodes", fn := fun _ => fun
  | [d] => { results := [.lit (.bool true)], args := [d] }
  | _ => none }
def messageDecodesRow : OpenClaim := { program := "yteidjnkkjjigoaa", sum := "9720054b51aa11511cdde289a4b2266fd9c5fc2d87f69bf2609d8466bc57b2e7", func := "flange/flangelaw02.MessageDecodes", spec := "messageDecodes", apart := false }
def MessageDecodesSaid : Prop := messageDecodesRow.holds Try.pinned (OpenSpec.ofChange messageDecodesSpec)

/-- ITS FALSE NEIGHBOUR: 'it returns false'. Refute it at one input. -/
def messageDecodesWrong : ChangeSpec := { name := "messageDecodes", fn := fun _ => fun
  | [d] => { results := [.lit (.bool false)], args := [d] }
  | _ => none }
def MessageDecodesWrongFalsely : Prop := messageDecodesRow.holds Try.pinned (OpenSpec.ofChange messageDecodesWrong)

/-- 'flangelaw02.MessageFinds': WHATEVER THE INPUT: true; the input reads as it did. -/
def messageFindsSpec : ChangeSpec := { name := "messageFinds", fn := fun _ => fun
  | [d1, d2, d3] => { results := [.lit (.bool true)], args := [d1, d2, d3] }
  | _ => none }
def messageFindsRow : OpenClaim := { program := "yteidjnkkjjigoaa", sum := "9720054b51aa11511cdde289a4b2266fd9c5fc2d87f69bf2609d8466bc57b2e7", func := "flange/flangelaw02.MessageFinds", spec := "messageFinds", unfollowed := true, recurses := true, apart := false }
def MessageFindsSaid : Prop := messageFindsRow.holds Try.pinned (OpenSpec.ofChange messageFindsSpec)

/-- ITS FALSE NEIGHBOUR: 'it returns false'. Refute it at one input. -/
def messageFindsWrong : ChangeSpec := { name := "messageFinds", fn := fun _ => fun
  | [d1, d2, d3] => { results := [.lit (.bool false)], args := [d1, d2, d3] }
  | _ => none }
def MessageFindsWrongFalsely : Prop := messageFindsRow.holds Try.pinned (OpenSpec.ofChange messageFindsWrong)

/-- 'flangelaw02.MessageMakes': WHATEVER THE INPUT: true; the input reads as it did. -/
def messageMakesSpec : ChangeSpec := { name := "messageMakes", fn := fun _ => fun
  | [d1, d2, d3] => { results := [.lit (.bool true)], args := [d1, d2, d3] }
  | _ => none }
def messageMakesRow : OpenClaim := { program := "yteidjnkkjjigoaa", sum := "9720054b51aa11511cdde289a4b2266fd9c5fc2d87f69bf2609d8466bc57b2e7", func := "flange/flangelaw02.MessageMakes", spec := "messageMakes", apart := false }
def MessageMakesSaid : Prop := messageMakesRow.holds Try.pinned (OpenSpec.ofChange messageMakesSpec)

/-- ITS FALSE NEIGHBOUR: 'it returns false'. Refute it at one input. -/
def messageMakesWrong : ChangeSpec := { name := "messageMakes", fn := fun _ => fun
  | [d1, d2, d3] => { results := [.lit (.bool false)], args := [d1, d2, d3] }
  | _ => none }
def MessageMakesWrongFalsely : Prop := messageMakesRow.holds Try.pinned (OpenSpec.ofChange messageMakesWrong)

/-- 'flangelaw02.MessageJoins': WHATEVER THE INPUT: true; the input reads as it did. -/
def messageJoinsSpec : ChangeSpec := { name := "messageJoins", fn := fun _ => fun
  | [d1, d2, d3] => { results := [.lit (.bool true)], args := [d1, d2, d3] }
  | _ => none }
def messageJoinsRow : OpenClaim := { program := "yteidjnkkjjigoaa", sum := "9720054b51aa11511cdde289a4b2266fd9c5fc2d87f69bf2609d8466bc57b2e7", func := "flange/flangelaw02.MessageJoins", spec := "messageJoins", apart := false }
def MessageJoinsSaid : Prop := messageJoinsRow.holds Try.pinned (OpenSpec.ofChange messageJoinsSpec)

/-- ITS FALSE NEIGHBOUR: 'it returns false'. Refute it at one input. -/
def messageJoinsWrong : ChangeSpec := { name := "messageJoins", fn := fun _ => fun
  | [d1, d2, d3] => { results := [.lit (.bool false)], args := [d1, d2, d3] }
  | _ => none }
def MessageJoinsWrongFalsely : Prop := messageJoinsRow.holds Try.pinned (OpenSpec.ofChange messageJoinsWrong)

/- THE SECOND FORM. 'bulk': how many values and letters a reading holds, each counted each time it is reached (what is shared counts as often as it is met; a slice's spare places count too). A statement '..UptoSaid' is the law's where the arguments, and the package variables that the reading takes, are together of bulk at most 1048576: NARROWER than '..Said'. Prove '..Said' where nothing that the law and all that it calls make is longer than what came in: it says more and counts as full. Else prove '..UptoSaid'. A law counts once. -/
mutual
def uptoBulk {H : Type} : DataW H → Nat
  | .lit (.string bytes) => bytes.length + 1
  | .lit _ => 1
  | .nil => 1
  | .ptr d => uptoBulk d + 1
  | .slice elems spare => uptoBulkAll elems + uptoBulkAll spare + 1
  | .agg parts => uptoBulkAll parts + 1
  | .iface _ d => uptoBulk d + 1
  | .map entries => uptoBulkEntries entries + 1
  | .held _ => 1
def uptoBulkAll {H : Type} : List (DataW H) → Nat
  | [] => 0
  | d :: r => uptoBulk d + uptoBulkAll r
def uptoBulkEntries {H : Type} : List (Lit × DataW H) → Nat
  | [] => 0
  | x :: r => uptoBulkEntry x + uptoBulkEntries r
def uptoBulkEntry {H : Type} : Lit × DataW H → Nat
  | (.string bytes, d) => bytes.length + uptoBulk d + 1
  | (_, d) => uptoBulk d + 1
 end
def uptoSmall : (H : Type) → List (DataW H) → Bool := fun _ ds => decide (uptoBulkAll ds ≤ 1048576)
def OpenSpec.upto (s : _root_.Go.ChangeSpec) : _root_.Go.OpenSpec := { _root_.Go.OpenSpec.ofChange s with cond := some uptoSmall }

/-- 'flangelaw01.VarintLays', WHERE WHAT IT READS IS OF BULK AT MOST 1048576: true; the input reads as it did. -/
def varintLaysUptoRow : OpenClaim := { program := "yteidjnkkjjigoaa", sum := "9720054b51aa11511cdde289a4b2266fd9c5fc2d87f69bf2609d8466bc57b2e7", func := "flange/flangelaw01.VarintLays", spec := "varintLays", apart := false, narrowed := true }
def VarintLaysUptoSaid : Prop := varintLaysUptoRow.holds Try.pinned (OpenSpec.upto varintLaysSpec)

/-- 'flangelaw01.VarintReads', WHERE WHAT IT READS IS OF BULK AT MOST 1048576: true; the input reads as it did. -/
def varintReadsUptoRow : OpenClaim := { program := "yteidjnkkjjigoaa", sum := "9720054b51aa11511cdde289a4b2266fd9c5fc2d87f69bf2609d8466bc57b2e7", func := "flange/flangelaw01.VarintReads", spec := "varintReads", apart := false, narrowed := true }
def VarintReadsUptoSaid : Prop := varintReadsUptoRow.holds Try.pinned (OpenSpec.upto varintReadsSpec)

/-- 'flangelaw01.VarintInts', WHERE WHAT IT READS IS OF BULK AT MOST 1048576: true; the input reads as it did. -/
def varintIntsUptoRow : OpenClaim := { program := "yteidjnkkjjigoaa", sum := "9720054b51aa11511cdde289a4b2266fd9c5fc2d87f69bf2609d8466bc57b2e7", func := "flange/flangelaw01.VarintInts", spec := "varintInts", apart := false, narrowed := true }
def VarintIntsUptoSaid : Prop := varintIntsUptoRow.holds Try.pinned (OpenSpec.upto varintIntsSpec)

/-- 'flangelaw01.VarintApart', WHERE WHAT IT READS IS OF BULK AT MOST 1048576: true; the input reads as it did. -/
def varintApartUptoRow : OpenClaim := { program := "yteidjnkkjjigoaa", sum := "9720054b51aa11511cdde289a4b2266fd9c5fc2d87f69bf2609d8466bc57b2e7", func := "flange/flangelaw01.VarintApart", spec := "varintApart", apart := false, narrowed := true }
def VarintApartUptoSaid : Prop := varintApartUptoRow.holds Try.pinned (OpenSpec.upto varintApartSpec)

/-- 'flangelaw02.MessageEncodes', WHERE WHAT IT READS IS OF BULK AT MOST 1048576: true; the input reads as it did. -/
def messageEncodesUptoRow : OpenClaim := { program := "yteidjnkkjjigoaa", sum := "9720054b51aa11511cdde289a4b2266fd9c5fc2d87f69bf2609d8466bc57b2e7", func := "flange/flangelaw02.MessageEncodes", spec := "messageEncodes", apart := false, narrowed := true }
def MessageEncodesUptoSaid : Prop := messageEncodesUptoRow.holds Try.pinned (OpenSpec.upto messageEncodesSpec)

/-- 'flangelaw02.MessageDecodes', WHERE WHAT IT READS IS OF BULK AT MOST 1048576: true; the input reads as it did. -/
def messageDecodesUptoRow : OpenClaim := { program := "yteidjnkkjjigoaa", sum := "9720054b51aa11511cdde289a4b2266fd9c5fc2d87f69bf2609d8466bc57b2e7", func := "flange/flangelaw02.MessageDecodes", spec := "messageDecodes", apart := false, narrowed := true }
def MessageDecodesUptoSaid : Prop := messageDecodesUptoRow.holds Try.pinned (OpenSpec.upto messageDecodesSpec)

/-- 'flangelaw02.MessageFinds', WHERE WHAT IT READS IS OF BULK AT MOST 1048576: true; the input reads as it did. -/
def messageFindsUptoRow : OpenClaim := { program := "yteidjnkkjjigoaa", sum := "9720054b51aa11511cdde289a4b2266fd9c5fc2d87f69bf2609d8466bc57b2e7", func := "flange/flangelaw02.MessageFinds", spec := "messageFinds", unfollowed := true, recurses := true, apart := false, narrowed := true }
def MessageFindsUptoSaid : Prop := messageFindsUptoRow.holds Try.pinned (OpenSpec.upto messageFindsSpec)

/-- 'flangelaw02.MessageMakes', WHERE WHAT IT READS IS OF BULK AT MOST 1048576: true; the input reads as it did. -/
def messageMakesUptoRow : OpenClaim := { program := "yteidjnkkjjigoaa", sum := "9720054b51aa11511cdde289a4b2266fd9c5fc2d87f69bf2609d8466bc57b2e7", func := "flange/flangelaw02.MessageMakes", spec := "messageMakes", apart := false, narrowed := true }
def MessageMakesUptoSaid : Prop := messageMakesUptoRow.holds Try.pinned (OpenSpec.upto messageMakesSpec)

/-- 'flangelaw02.MessageJoins', WHERE WHAT IT READS IS OF BULK AT MOST 1048576: true; the input reads as it did. -/
def messageJoinsUptoRow : OpenClaim := { program := "yteidjnkkjjigoaa", sum := "9720054b51aa11511cdde289a4b2266fd9c5fc2d87f69bf2609d8466bc57b2e7", func := "flange/flangelaw02.MessageJoins", spec := "messageJoins", apart := false, narrowed := true }
def MessageJoinsUptoSaid : Prop := messageJoinsUptoRow.holds Try.pinned (OpenSpec.upto messageJoinsSpec)

end Rows
end Go.Proofs.Yteidjnkkjjigoaa
