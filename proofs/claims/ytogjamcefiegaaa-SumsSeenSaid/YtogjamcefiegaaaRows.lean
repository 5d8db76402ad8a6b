/-
  No cell of these rows narrows 'for every input' (looked for: loops, veiled, ifaces, maps, wideKeys, modest, calm, conditions, laid).
  DERIVED. THE GIVEN ROWS OF THIS SEAT. 6 by the template 'for every input the law returns true; each argument reads behind the call as it read before'; 0 by the template 'total and deterministic' (their statements: YtogjamcefiegaaaTotals.lean).
  GIVEN WITH THE SEED: the statements are not yours to turn. If you find one false, say at which input.
  Laid BY PROGRAM, IN A SANDBOX (cutbox-rows.mjs): the forced cells as the released guide's own fill.sh prints them over the translation 2eb122697e6a0d1b… (all of the seat's roots in one cut). By AI agents, Wed Nov 11 2026. No macro, syntax, notation, axiom, sorry.
-/
import Derived.Test.YtogjamcefiegaaaChecked
import GoSem.Claim
import GoSem.ClaimJoined
import GoSem.ClaimMapViews
import Derived.JoinedTies
import Derived.KernelRfl
namespace Go.Proofs.Ytogjamcefiegaaa
/- THE CELL 'sum', in the pinned program and in every row, IS THE sha256 OF THE DUMP (.gsa) THAT YtogjamcefiegaaaProg.lean LOADS. Nothing in Lean hashes anything: it is a label: what it is worth is what the hold of that sum in a sandbox is worth. -/
noncomputable def Try.pinned : Pinned := { name := "ytogjamcefiegaaa", sum := "2eb122697e6a0d1be13bbe9083aaf1bc804d059096b6363c8098b63f51b2dbc8", checked := Try.checked }
namespace Rows
def none {H : Type} : Left H := { results := [], args := [] }

/-- 'outstationlaw01.SumsReckon': WHATEVER THE INPUT: true; the input reads as it did. -/
def sumsReckonSpec : ChangeSpec := { name := "sumsReckon", fn := fun _ => fun
  | [d1, d2, d3] => { results := [.lit (.bool true)], args := [d1, d2, d3] }
  | _ => none }
def sumsReckonRow : OpenClaim := { program := "ytogjamcefiegaaa", sum := "2eb122697e6a0d1be13bbe9083aaf1bc804d059096b6363c8098b63f51b2dbc8", func := "outstation/outstationlaw01.SumsReckon", spec := "sumsReckon", apart := false }
def SumsReckonSaid : Prop := sumsReckonRow.holds Try.pinned (OpenSpec.ofChange sumsReckonSpec)

/-- ITS FALSE NEIGHBOUR: 'it returns false'. Refute it at one input. -/
def sumsReckonWrong : ChangeSpec := { name := "sumsReckon", fn := fun _ => fun
  | [d1, d2, d3] => { results := [.lit (.bool false)], args := [d1, d2, d3] }
  | _ => none }
def SumsReckonWrongFalsely : Prop := sumsReckonRow.holds Try.pinned (OpenSpec.ofChange sumsReckonWrong)

/-- 'outstationlaw01.SumsSeal': WHATEVER THE INPUT: true; the input reads as it did. -/
def sumsSealSpec : ChangeSpec := { name := "sumsSeal", fn := fun _ => fun
  | [d] => { results := [.lit (.bool true)], args := [d] }
  | _ => none }
def sumsSealRow : OpenClaim := { program := "ytogjamcefiegaaa", sum := "2eb122697e6a0d1be13bbe9083aaf1bc804d059096b6363c8098b63f51b2dbc8", func := "outstation/outstationlaw01.SumsSeal", spec := "sumsSeal", unfollowed := true, recurses := true, apart := false }
def SumsSealSaid : Prop := sumsSealRow.holds Try.pinned (OpenSpec.ofChange sumsSealSpec)

/-- ITS FALSE NEIGHBOUR: 'it returns false'. Refute it at one input. -/
def sumsSealWrong : ChangeSpec := { name := "sumsSeal", fn := fun _ => fun
  | [d] => { results := [.lit (.bool false)], args := [d] }
  | _ => none }
def SumsSealWrongFalsely : Prop := sumsSealRow.holds Try.pinned (OpenSpec.ofChange sumsSealWrong)

/-- 'outstationlaw01.SumsPieces': WHATEVER THE INPUT: true; the input reads as it did. -/
def sumsPiecesSpec : ChangeSpec := { name := "sumsPieces", fn := fun _ => fun
  | [d1, d2] => { results := [.lit (.bool true)], args := [d1, d2] }
  | _ => none }
def sumsPiecesRow : OpenClaim := { program := "ytogjamcefiegaaa", sum := "2eb122697e6a0d1be13bbe9083aaf1bc804d059096b6363c8098b63f51b2dbc8", func := "outstation/outstationlaw01.SumsPieces", spec := "sumsPieces", apart := false }
def SumsPiecesSaid : Prop := sumsPiecesRow.holds Try.pinned (OpenSpec.ofChange sumsPiecesSpec)

/-- ITS FALSE NEIGHBOUR: 'it returns false'. Refute it at one input. -/
def sumsPiecesWrong : ChangeSpec := { name := "sumsPieces", fn := fun _ => fun
  | [d1, d2] => { results := [.lit (.bool false)], args := [d1, d2] }
  | _ => none }
def SumsPiecesWrongFalsely : Prop := sumsPiecesRow.holds Try.pinned (OpenSpec.ofChange sumsPiecesWrong)

/-- 'outstationlaw01.SumsSeen': WHATEVER THE INPUT: true; the input reads as it did. -/
def sumsSeenSpec : ChangeSpec := { name := "sumsSeen", fn := fun _ => fun
  | [d1, d2, d3] => { results := [.lit (.bool true)], args := [d1, d2, d3] }
  | _ => none }
def sumsSeenRow : OpenClaim := { program := "ytogjamcefiegaaa", sum := "2eb122697e6a0d1be13bbe9083aaf1bc804d059096b6363c8098b63f51b2dbc8", func := "outstation/outstationlaw01.SumsSeen", spec := "sumsSeen", unfollowed := true, recurses := true, apart := false }
def SumsSeenSaid : Prop := sumsSeenRow.holds Try.pinned (OpenSpec.ofChange sumsSeenSpec)

/-- ITS FALSE NEIGHBOUR: 'it returns false'. Refute it at one input. -/
def sumsSeenWrong : ChangeSpec := { name := "sumsSeen", fn := fun _ => fun
  | [d1, d2, d3] => { results := [.lit (.bool false)], args := [d1, d2, d3] }
  | _ => none }
def SumsSeenWrongFalsely : Prop := sumsSeenRow.holds Try.pinned (OpenSpec.ofChange sumsSeenWrong)

/-- 'outstationlaw01.SumsLaid': WHATEVER THE INPUT: true; the input reads as it did. -/
def sumsLaidSpec : ChangeSpec := { name := "sumsLaid", fn := fun _ => fun
  | [d1, d2] => { results := [.lit (.bool true)], args := [d1, d2] }
  | _ => none }
def sumsLaidRow : OpenClaim := { program := "ytogjamcefiegaaa", sum := "2eb122697e6a0d1be13bbe9083aaf1bc804d059096b6363c8098b63f51b2dbc8", func := "outstation/outstationlaw01.SumsLaid", spec := "sumsLaid", apart := false }
def SumsLaidSaid : Prop := sumsLaidRow.holds Try.pinned (OpenSpec.ofChange sumsLaidSpec)

/-- ITS FALSE NEIGHBOUR: 'it returns false'. Refute it at one input. -/
def sumsLaidWrong : ChangeSpec := { name := "sumsLaid", fn := fun _ => fun
  | [d1, d2] => { results := [.lit (.bool false)], args := [d1, d2] }
  | _ => none }
def SumsLaidWrongFalsely : Prop := sumsLaidRow.holds Try.pinned (OpenSpec.ofChange sumsLaidWrong)

/-- 'outstationlaw01.SumsKnown': WHATEVER THE INPUT: true; the input reads as it did. -/
def sumsKnownSpec : ChangeSpec := { name := "sumsKnown", fn := fun _ => fun
  | [] => { results := [.lit (.bool true)], args := [] }
  | _ => none }
def sumsKnownRow : OpenClaim := { program := "ytogjamcefiegaaa", sum := "2eb122697e6a0d1be13bbe9083aaf1bc804d059096b6363c8098b63f51b2dbc8", func := "outstation/outstationlaw01.SumsKnown", spec := "sumsKnown", unfollowed := true, recurses := true, apart := false }
def SumsKnownSaid : Prop := sumsKnownRow.holds Try.pinned (OpenSpec.ofChange sumsKnownSpec)

/-- ITS FALSE NEIGHBOUR: 'it returns false'. Refute it at one input. -/
def sumsKnownWrong : ChangeSpec := { name := "sumsKnown", fn := fun _ => fun
  | [] => { results := [.lit (.bool false)], args := [] }
  | _ => none }
def SumsKnownWrongFalsely : Prop := sumsKnownRow.holds Try.pinned (OpenSpec.ofChange sumsKnownWrong)

/- THE SECOND FORM. 'bulk': how many values and letters a reading holds, each counted each time it is reached (what is shared counts as often as it is met; a slice's spare places count too). A statement '..UptoSaid' is the law's where the arguments, and the package variables that the reading takes, are together of bulk at most 1048576: NARROWER than '..Said'. Prove '..Said' where nothing that the law and all that it calls make is longer than what came in: it says more and counts as full. Else prove '..UptoSaid'. A law counts once. -/
mutual
def uptoBulk {H : Type} : DataW H → Nat
  | .lit (.string bytes) => bytes.length + 1
  | .lit _ => 1
  | .nil => 1
  | .ptr d => uptoBulk d + 1
  | .slice elems spare => uptoBulkAll elems + uptoBulkAll spare + 1
  | .agg parts => uptoBulkAll parts + 1
  | .iface _ d => uptoBulk d + 1
  | .map entries => uptoBulkEntries entries + 1
  | .held _ => 1
def uptoBulkAll {H : Type} : List (DataW H) → Nat
  | [] => 0
  | d :: r => uptoBulk d + uptoBulkAll r
def uptoBulkEntries {H : Type} : List (Lit × DataW H) → Nat
  | [] => 0
  | x :: r => uptoBulkEntry x + uptoBulkEntries r
def uptoBulkEntry {H : Type} : Lit × DataW H → Nat
  | (.string bytes, d) => bytes.length + uptoBulk d + 1
  | (_, d) => uptoBulk d + 1
 end
def uptoSmall : (H : Type) → List (DataW H) → Bool := fun _ ds => decide (uptoBulkAll ds ≤ 1048576)
def OpenSpec.upto (s : _root_.Go.ChangeSpec) : _root_.Go.OpenSpec := { _root_.Go.OpenSpec.ofChange s with cond := some uptoSmall }

/-- 'outstationlaw01.SumsReckon', WHERE WHAT IT READS IS OF BULK AT MOST 1048576: true; the input reads as it did. -/
def sumsReckonUptoRow : OpenClaim := { program := "ytogjamcefiegaaa", sum := "2eb122697e6a0d1be13bbe9083aaf1bc804d059096b6363c8098b63f51b2dbc8", func := "outstation/outstationlaw01.SumsReckon", spec := "sumsReckon", apart := false, narrowed := true }
def SumsReckonUptoSaid : Prop := sumsReckonUptoRow.holds Try.pinned (OpenSpec.upto sumsReckonSpec)

/-- 'outstationlaw01.SumsSeal', WHERE WHAT IT READS IS OF BULK AT MOST 1048576: true; the input reads as it did. -/
def sumsSealUptoRow : OpenClaim := { program := "ytogjamcefiegaaa", sum := "2eb122697e6a0d1be13bbe9083aaf1bc804d059096b6363c8098b63f51b2dbc8", func := "outstation/outstationlaw01.SumsSeal", spec := "sumsSeal", unfollowed := true, recurses := true, apart := false, narrowed := true }
def SumsSealUptoSaid : Prop := sumsSealUptoRow.holds Try.pinned (OpenSpec.upto sumsSealSpec)

/-- 'outstationlaw01.SumsPieces', WHERE WHAT IT READS IS OF BULK AT MOST 1048576: true; the input reads as it did. -/
def sumsPiecesUptoRow : OpenClaim := { program := "ytogjamcefiegaaa", sum := "2eb122697e6a0d1be13bbe9083aaf1bc804d059096b6363c8098b63f51b2dbc8", func := "outstation/outstationlaw01.SumsPieces", spec := "sumsPieces", apart := false, narrowed := true }
def SumsPiecesUptoSaid : Prop := sumsPiecesUptoRow.holds Try.pinned (OpenSpec.upto sumsPiecesSpec)

/-- 'outstationlaw01.SumsSeen', WHERE WHAT IT READS IS OF BULK AT MOST 1048576: true; the input reads as it did. -/
def sumsSeenUptoRow : OpenClaim := { program := "ytogjamcefiegaaa", sum := "2eb122697e6a0d1be13bbe9083aaf1bc804d059096b6363c8098b63f51b2dbc8", func := "outstation/outstationlaw01.SumsSeen", spec := "sumsSeen", unfollowed := true, recurses := true, apart := false, narrowed := true }
def SumsSeenUptoSaid : Prop := sumsSeenUptoRow.holds Try.pinned (OpenSpec.upto sumsSeenSpec)

/-- 'outstationlaw01.SumsLaid', WHERE WHAT IT READS IS OF BULK AT MOST 1048576: true; the input reads as it did. -/
def sumsLaidUptoRow : OpenClaim := { program := "ytogjamcefiegaaa", sum := "2eb122697e6a0d1be13bbe9083aaf1bc804d059096b6363c8098b63f51b2dbc8", func := "outstation/outstationlaw01.SumsLaid", spec := "sumsLaid", apart := false, narrowed := true }
def SumsLaidUptoSaid : Prop := sumsLaidUptoRow.holds Try.pinned (OpenSpec.upto sumsLaidSpec)

/-- 'outstationlaw01.SumsKnown', WHERE WHAT IT READS IS OF BULK AT MOST 1048576: true; the input reads as it did. -/
def sumsKnownUptoRow : OpenClaim := { program := "ytogjamcefiegaaa", sum := "2eb122697e6a0d1be13bbe9083aaf1bc804d059096b6363c8098b63f51b2dbc8", func := "outstation/outstationlaw01.SumsKnown", spec := "sumsKnown", unfollowed := true, recurses := true, apart := false, narrowed := true }
def SumsKnownUptoSaid : Prop := sumsKnownUptoRow.holds Try.pinned (OpenSpec.upto sumsKnownSpec)

end Rows
end Go.Proofs.Ytogjamcefiegaaa
