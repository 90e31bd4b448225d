/-
  NARROWER THAN 'FOR EVERY INPUT', by the rows' own cells (each row's printed sentence says how): PackEncodes: loops · PackMany: loops · PackApart: loops.
  DERIVED. THE GIVEN ROWS OF THIS SEAT. 4 by the template 'for every input the law returns true; each argument reads behind the call as it read before'; 0 by the template 'total and deterministic' (their statements: YtepohbcpepkboaaGreatTotals.lean).
  GIVEN WITH THE SEED: the statements are not yours to turn. If you find one false, say at which input.
  Laid BY PROGRAM, IN A SANDBOX (cutbox-rows.mjs): the forced cells as the released guide's own fill.sh prints them over the translation 840f267445ac1cff… (all of the seat's roots in one cut). By AI agents, Wed Nov 11 2026. No macro, syntax, notation, axiom, sorry.
-/
import Derived.Test.YtepohbcpepkboaaGreatChecked
import GoSem.Claim
import GoSem.ClaimJoined
import GoSem.ClaimMapViews
import Derived.JoinedTies
import Derived.KernelRfl
namespace Go.Proofs.YtepohbcpepkboaaGreat
/- THE CELL 'sum', in the pinned program and in every row, IS THE sha256 OF THE DUMP (.gsa) THAT YtepohbcpepkboaaGreatProg.lean LOADS. Nothing in Lean hashes anything: it is a label: what it is worth is what the hold of that sum in a sandbox is worth. -/
noncomputable def Tryz.pinned : Pinned := { name := "ytepohbcpepkboaagreat", sum := "840f267445ac1cff066586783d8c356edf8e86eae06f73a465d2c4432daa6244", checked := Tryz.checked }
namespace Rows
def none {H : Type} : Left H := { results := [], args := [] }

/-- 'flangelaw06.PackEncodes': WHATEVER THE INPUT: true; the input reads as it did. -/
def packEncodesSpec : ChangeSpec := { name := "packEncodes", fn := fun _ => fun
  | [d] => { results := [.lit (.bool true)], args := [d] }
  | _ => none }
def packEncodesRow : OpenClaim := { program := "ytepohbcpepkboaagreat", sum := "840f267445ac1cff066586783d8c356edf8e86eae06f73a465d2c4432daa6244", func := "flange/flangelaw06.PackEncodes", spec := "packEncodes", unfollowed := true, recurses := true, loops := true, plainKeys := false, apart := false }
def PackEncodesSaid : Prop := packEncodesRow.holds Tryz.pinned (OpenSpec.ofChange packEncodesSpec)

/-- ITS FALSE NEIGHBOUR: 'it returns false'. Refute it at one input. -/
def packEncodesWrong : ChangeSpec := { name := "packEncodes", fn := fun _ => fun
  | [d] => { results := [.lit (.bool false)], args := [d] }
  | _ => none }
def PackEncodesWrongFalsely : Prop := packEncodesRow.holds Tryz.pinned (OpenSpec.ofChange packEncodesWrong)

/-- 'flangelaw06.PackDecodes': WHATEVER THE INPUT: true; the input reads as it did. -/
def packDecodesSpec : ChangeSpec := { name := "packDecodes", fn := fun _ => fun
  | [d] => { results := [.lit (.bool true)], args := [d] }
  | _ => none }
def packDecodesRow : OpenClaim := { program := "ytepohbcpepkboaagreat", sum := "840f267445ac1cff066586783d8c356edf8e86eae06f73a465d2c4432daa6244", func := "flange/flangelaw06.PackDecodes", spec := "packDecodes", unfollowed := true, recurses := true, plainKeys := false, apart := false }
def PackDecodesSaid : Prop := packDecodesRow.holds Tryz.pinned (OpenSpec.ofChange packDecodesSpec)

/-- ITS FALSE NEIGHBOUR: 'it returns false'. Refute it at one input. -/
def packDecodesWrong : ChangeSpec := { name := "packDecodes", fn := fun _ => fun
  | [d] => { results := [.lit (.bool false)], args := [d] }
  | _ => none }
def PackDecodesWrongFalsely : Prop := packDecodesRow.holds Tryz.pinned (OpenSpec.ofChange packDecodesWrong)

/-- 'flangelaw06.PackMany': WHATEVER THE INPUT: true; the input reads as it did. -/
def packManySpec : ChangeSpec := { name := "packMany", fn := fun _ => fun
  | [d1, d2] => { results := [.lit (.bool true)], args := [d1, d2] }
  | _ => none }
def packManyRow : OpenClaim := { program := "ytepohbcpepkboaagreat", sum := "840f267445ac1cff066586783d8c356edf8e86eae06f73a465d2c4432daa6244", func := "flange/flangelaw06.PackMany", spec := "packMany", unfollowed := true, recurses := true, loops := true, plainKeys := false, apart := false }
def PackManySaid : Prop := packManyRow.holds Tryz.pinned (OpenSpec.ofChange packManySpec)

/-- ITS FALSE NEIGHBOUR: 'it returns false'. Refute it at one input. -/
def packManyWrong : ChangeSpec := { name := "packMany", fn := fun _ => fun
  | [d1, d2] => { results := [.lit (.bool false)], args := [d1, d2] }
  | _ => none }
def PackManyWrongFalsely : Prop := packManyRow.holds Tryz.pinned (OpenSpec.ofChange packManyWrong)

/-- 'flangelaw06.PackApart': WHATEVER THE INPUT: true; the input reads as it did. -/
def packApartSpec : ChangeSpec := { name := "packApart", fn := fun _ => fun
  | [d1, d2] => { results := [.lit (.bool true)], args := [d1, d2] }
  | _ => none }
def packApartRow : OpenClaim := { program := "ytepohbcpepkboaagreat", sum := "840f267445ac1cff066586783d8c356edf8e86eae06f73a465d2c4432daa6244", func := "flange/flangelaw06.PackApart", spec := "packApart", unfollowed := true, recurses := true, loops := true, plainKeys := false, apart := false }
def PackApartSaid : Prop := packApartRow.holds Tryz.pinned (OpenSpec.ofChange packApartSpec)

/-- ITS FALSE NEIGHBOUR: 'it returns false'. Refute it at one input. -/
def packApartWrong : ChangeSpec := { name := "packApart", fn := fun _ => fun
  | [d1, d2] => { results := [.lit (.bool false)], args := [d1, d2] }
  | _ => none }
def PackApartWrongFalsely : Prop := packApartRow.holds Tryz.pinned (OpenSpec.ofChange packApartWrong)

/- THE SECOND FORM. 'bulk': how many values and letters a reading holds, each counted each time it is reached (what is shared counts as often as it is met; a slice's spare places count too). A statement '..UptoSaid' is the law's where the arguments, and the package variables that the reading takes, are together of bulk at most 1048576: NARROWER than '..Said'. Prove '..Said' where nothing that the law and all that it calls make is longer than what came in: it says more and counts as full. Else prove '..UptoSaid'. A law counts once. -/
mutual
def uptoBulk {H : Type} : DataW H → Nat
  | .lit (.string bytes) => bytes.length + 1
  | .lit _ => 1
  | .nil => 1
  | .ptr d => uptoBulk d + 1
  | .slice elems spare => uptoBulkAll elems + uptoBulkAll spare + 1
  | .agg parts => uptoBulkAll parts + 1
  | .iface _ d => uptoBulk d + 1
  | .map entries => uptoBulkEntries entries + 1
  | .held _ => 1
def uptoBulkAll {H : Type} : List (DataW H) → Nat
  | [] => 0
  | d :: r => uptoBulk d + uptoBulkAll r
def uptoBulkEntries {H : Type} : List (Lit × DataW H) → Nat
  | [] => 0
  | x :: r => uptoBulkEntry x + uptoBulkEntries r
def uptoBulkEntry {H : Type} : Lit × DataW H → Nat
  | (.string bytes, d) => bytes.length + uptoBulk d + 1
  | (_, d) => uptoBulk d + 1
 end
def uptoSmall : (H : Type) → List (DataW H) → Bool := fun _ ds => decide (uptoBulkAll ds ≤ 1048576)
def OpenSpec.upto (s : _root_.Go.ChangeSpec) : _root_.Go.OpenSpec := { _root_.Go.OpenSpec.ofChange s with cond := some uptoSmall }

/-- 'flangelaw06.PackEncodes', WHERE WHAT IT READS IS OF BULK AT MOST 1048576: true; the input reads as it did. -/
def packEncodesUptoRow : OpenClaim := { program := "ytepohbcpepkboaagreat", sum := "840f267445ac1cff066586783d8c356edf8e86eae06f73a465d2c4432daa6244", func := "flange/flangelaw06.PackEncodes", spec := "packEncodes", unfollowed := true, recurses := true, loops := true, plainKeys := false, apart := false, narrowed := true }
def PackEncodesUptoSaid : Prop := packEncodesUptoRow.holds Tryz.pinned (OpenSpec.upto packEncodesSpec)

/-- 'flangelaw06.PackDecodes', WHERE WHAT IT READS IS OF BULK AT MOST 1048576: true; the input reads as it did. -/
def packDecodesUptoRow : OpenClaim := { program := "ytepohbcpepkboaagreat", sum := "840f267445ac1cff066586783d8c356edf8e86eae06f73a465d2c4432daa6244", func := "flange/flangelaw06.PackDecodes", spec := "packDecodes", unfollowed := true, recurses := true, plainKeys := false, apart := false, narrowed := true }
def PackDecodesUptoSaid : Prop := packDecodesUptoRow.holds Tryz.pinned (OpenSpec.upto packDecodesSpec)

/-- 'flangelaw06.PackMany', WHERE WHAT IT READS IS OF BULK AT MOST 1048576: true; the input reads as it did. -/
def packManyUptoRow : OpenClaim := { program := "ytepohbcpepkboaagreat", sum := "840f267445ac1cff066586783d8c356edf8e86eae06f73a465d2c4432daa6244", func := "flange/flangelaw06.PackMany", spec := "packMany", unfollowed := true, recurses := true, loops := true, plainKeys := false, apart := false, narrowed := true }
def PackManyUptoSaid : Prop := packManyUptoRow.holds Tryz.pinned (OpenSpec.upto packManySpec)

/-- 'flangelaw06.PackApart', WHERE WHAT IT READS IS OF BULK AT MOST 1048576: true; the input reads as it did. -/
def packApartUptoRow : OpenClaim := { program := "ytepohbcpepkboaagreat", sum := "840f267445ac1cff066586783d8c356edf8e86eae06f73a465d2c4432daa6244", func := "flange/flangelaw06.PackApart", spec := "packApart", unfollowed := true, recurses := true, loops := true, plainKeys := false, apart := false, narrowed := true }
def PackApartUptoSaid : Prop := packApartUptoRow.holds Tryz.pinned (OpenSpec.upto packApartSpec)

end Rows
end Go.Proofs.YtepohbcpepkboaaGreat
