/-
  No cell of these rows narrows 'for every input' (looked for: loops, veiled, ifaces, maps, wideKeys, modest, calm, conditions, laid).
  DERIVED. THE GIVEN ROWS OF THIS SEAT. 8 by the template 'for every input the law returns true; each argument reads behind the call as it read before'; 0 by the template 'total and deterministic' (their statements: YtcnidddneiekfaaTotals.lean).
  GIVEN WITH THE SEED: the statements are not yours to turn. If you find one false, say at which input.
  Laid BY PROGRAM, IN A SANDBOX (cutbox-rows.mjs): the forced cells as the released guide's own fill.sh prints them over the translation 5cb03fe0b24e6192… (all of the seat's roots in one cut). By AI agents, Wed Nov 11 2026. No macro, syntax, notation, axiom, sorry.
-/
import Derived.Test.YtcnidddneiekfaaChecked
import GoSem.Claim
import GoSem.ClaimJoined
import GoSem.ClaimMapViews
import Derived.JoinedTies
import Derived.KernelRfl
namespace Go.Proofs.Ytcnidddneiekfaa
/- THE CELL 'sum', in the pinned program and in every row, IS THE sha256 OF THE DUMP (.gsa) THAT YtcnidddneiekfaaProg.lean LOADS. Nothing in Lean hashes anything: it is a label: what it is worth is what the hold of that sum in a sandbox is worth. -/
noncomputable def Try.pinned : Pinned := { name := "ytcnidddneiekfaa", sum := "5cb03fe0b24e619262b7f42d5305cfe76338eaac4f1d6660644f3b0f7aba2134", checked := Try.checked }
namespace Rows
def none {H : Type} : Left H := { results := [], args := [] }

/-- 'outstationlaw06.ScaleRaws': WHATEVER THE INPUT: true; the input reads as it did. -/
def scaleRawsSpec : ChangeSpec := { name := "scaleRaws", fn := fun _ => fun
  | [d1, d2] => { results := [.lit (.bool true)], args := [d1, d2] }
  | _ => none }
def scaleRawsRow : OpenClaim := { program := "ytcnidddneiekfaa", sum := "5cb03fe0b24e619262b7f42d5305cfe76338eaac4f1d6660644f3b0f7aba2134", func := "outstation/outstationlaw06.ScaleRaws", spec := "scaleRaws", recurses := true, apart := false }
def ScaleRawsSaid : Prop := scaleRawsRow.holds Try.pinned (OpenSpec.ofChange scaleRawsSpec)

/-- ITS FALSE NEIGHBOUR: 'it returns false'. Refute it at one input. -/
def scaleRawsWrong : ChangeSpec := { name := "scaleRaws", fn := fun _ => fun
  | [d1, d2] => { results := [.lit (.bool false)], args := [d1, d2] }
  | _ => none }
def ScaleRawsWrongFalsely : Prop := scaleRawsRow.holds Try.pinned (OpenSpec.ofChange scaleRawsWrong)

/-- 'outstationlaw06.ScaleWords': WHATEVER THE INPUT: true; the input reads as it did. -/
def scaleWordsSpec : ChangeSpec := { name := "scaleWords", fn := fun _ => fun
  | [d1, d2] => { results := [.lit (.bool true)], args := [d1, d2] }
  | _ => none }
def scaleWordsRow : OpenClaim := { program := "ytcnidddneiekfaa", sum := "5cb03fe0b24e619262b7f42d5305cfe76338eaac4f1d6660644f3b0f7aba2134", func := "outstation/outstationlaw06.ScaleWords", spec := "scaleWords", recurses := true, apart := false }
def ScaleWordsSaid : Prop := scaleWordsRow.holds Try.pinned (OpenSpec.ofChange scaleWordsSpec)

/-- ITS FALSE NEIGHBOUR: 'it returns false'. Refute it at one input. -/
def scaleWordsWrong : ChangeSpec := { name := "scaleWords", fn := fun _ => fun
  | [d1, d2] => { results := [.lit (.bool false)], args := [d1, d2] }
  | _ => none }
def ScaleWordsWrongFalsely : Prop := scaleWordsRow.holds Try.pinned (OpenSpec.ofChange scaleWordsWrong)

/-- 'outstationlaw06.ScaleValues': WHATEVER THE INPUT: true; the input reads as it did. -/
def scaleValuesSpec : ChangeSpec := { name := "scaleValues", fn := fun _ => fun
  | [d1, d2] => { results := [.lit (.bool true)], args := [d1, d2] }
  | _ => none }
def scaleValuesRow : OpenClaim := { program := "ytcnidddneiekfaa", sum := "5cb03fe0b24e619262b7f42d5305cfe76338eaac4f1d6660644f3b0f7aba2134", func := "outstation/outstationlaw06.ScaleValues", spec := "scaleValues", recurses := true, apart := false }
def ScaleValuesSaid : Prop := scaleValuesRow.holds Try.pinned (OpenSpec.ofChange scaleValuesSpec)

/-- ITS FALSE NEIGHBOUR: 'it returns false'. Refute it at one input. -/
def scaleValuesWrong : ChangeSpec := { name := "scaleValues", fn := fun _ => fun
  | [d1, d2] => { results := [.lit (.bool false)], args := [d1, d2] }
  | _ => none }
def ScaleValuesWrongFalsely : Prop := scaleValuesRow.holds Try.pinned (OpenSpec.ofChange scaleValuesWrong)

/-- 'outstationlaw06.ScaleBack': WHATEVER THE INPUT: true; the input reads as it did. -/
def scaleBackSpec : ChangeSpec := { name := "scaleBack", fn := fun _ => fun
  | [d1, d2, d3] => { results := [.lit (.bool true)], args := [d1, d2, d3] }
  | _ => none }
def scaleBackRow : OpenClaim := { program := "ytcnidddneiekfaa", sum := "5cb03fe0b24e619262b7f42d5305cfe76338eaac4f1d6660644f3b0f7aba2134", func := "outstation/outstationlaw06.ScaleBack", spec := "scaleBack", recurses := true, apart := false }
def ScaleBackSaid : Prop := scaleBackRow.holds Try.pinned (OpenSpec.ofChange scaleBackSpec)

/-- ITS FALSE NEIGHBOUR: 'it returns false'. Refute it at one input. -/
def scaleBackWrong : ChangeSpec := { name := "scaleBack", fn := fun _ => fun
  | [d1, d2, d3] => { results := [.lit (.bool false)], args := [d1, d2, d3] }
  | _ => none }
def ScaleBackWrongFalsely : Prop := scaleBackRow.holds Try.pinned (OpenSpec.ofChange scaleBackWrong)

/-- 'outstationlaw06.ScaleNearest': WHATEVER THE INPUT: true; the input reads as it did. -/
def scaleNearestSpec : ChangeSpec := { name := "scaleNearest", fn := fun _ => fun
  | [d1, d2] => { results := [.lit (.bool true)], args := [d1, d2] }
  | _ => none }
def scaleNearestRow : OpenClaim := { program := "ytcnidddneiekfaa", sum := "5cb03fe0b24e619262b7f42d5305cfe76338eaac4f1d6660644f3b0f7aba2134", func := "outstation/outstationlaw06.ScaleNearest", spec := "scaleNearest", recurses := true, apart := false }
def ScaleNearestSaid : Prop := scaleNearestRow.holds Try.pinned (OpenSpec.ofChange scaleNearestSpec)

/-- ITS FALSE NEIGHBOUR: 'it returns false'. Refute it at one input. -/
def scaleNearestWrong : ChangeSpec := { name := "scaleNearest", fn := fun _ => fun
  | [d1, d2] => { results := [.lit (.bool false)], args := [d1, d2] }
  | _ => none }
def ScaleNearestWrongFalsely : Prop := scaleNearestRow.holds Try.pinned (OpenSpec.ofChange scaleNearestWrong)

/-- 'outstationlaw06.ScaleRises': WHATEVER THE INPUT: true; the input reads as it did. -/
def scaleRisesSpec : ChangeSpec := { name := "scaleRises", fn := fun _ => fun
  | [d1, d2, d3] => { results := [.lit (.bool true)], args := [d1, d2, d3] }
  | _ => none }
def scaleRisesRow : OpenClaim := { program := "ytcnidddneiekfaa", sum := "5cb03fe0b24e619262b7f42d5305cfe76338eaac4f1d6660644f3b0f7aba2134", func := "outstation/outstationlaw06.ScaleRises", spec := "scaleRises", recurses := true, apart := false }
def ScaleRisesSaid : Prop := scaleRisesRow.holds Try.pinned (OpenSpec.ofChange scaleRisesSpec)

/-- ITS FALSE NEIGHBOUR: 'it returns false'. Refute it at one input. -/
def scaleRisesWrong : ChangeSpec := { name := "scaleRises", fn := fun _ => fun
  | [d1, d2, d3] => { results := [.lit (.bool false)], args := [d1, d2, d3] }
  | _ => none }
def ScaleRisesWrongFalsely : Prop := scaleRisesRow.holds Try.pinned (OpenSpec.ofChange scaleRisesWrong)

/-- 'outstationlaw06.ScaleTurned': WHATEVER THE INPUT: true; the input reads as it did. -/
def scaleTurnedSpec : ChangeSpec := { name := "scaleTurned", fn := fun _ => fun
  | [d1, d2] => { results := [.lit (.bool true)], args := [d1, d2] }
  | _ => none }
def scaleTurnedRow : OpenClaim := { program := "ytcnidddneiekfaa", sum := "5cb03fe0b24e619262b7f42d5305cfe76338eaac4f1d6660644f3b0f7aba2134", func := "outstation/outstationlaw06.ScaleTurned", spec := "scaleTurned", recurses := true, apart := false }
def ScaleTurnedSaid : Prop := scaleTurnedRow.holds Try.pinned (OpenSpec.ofChange scaleTurnedSpec)

/-- ITS FALSE NEIGHBOUR: 'it returns false'. Refute it at one input. -/
def scaleTurnedWrong : ChangeSpec := { name := "scaleTurned", fn := fun _ => fun
  | [d1, d2] => { results := [.lit (.bool false)], args := [d1, d2] }
  | _ => none }
def ScaleTurnedWrongFalsely : Prop := scaleTurnedRow.holds Try.pinned (OpenSpec.ofChange scaleTurnedWrong)

/-- 'outstationlaw06.ScaleKnown': WHATEVER THE INPUT: true; the input reads as it did. -/
def scaleKnownSpec : ChangeSpec := { name := "scaleKnown", fn := fun _ => fun
  | [] => { results := [.lit (.bool true)], args := [] }
  | _ => none }
def scaleKnownRow : OpenClaim := { program := "ytcnidddneiekfaa", sum := "5cb03fe0b24e619262b7f42d5305cfe76338eaac4f1d6660644f3b0f7aba2134", func := "outstation/outstationlaw06.ScaleKnown", spec := "scaleKnown", recurses := true, apart := false }
def ScaleKnownSaid : Prop := scaleKnownRow.holds Try.pinned (OpenSpec.ofChange scaleKnownSpec)

/-- ITS FALSE NEIGHBOUR: 'it returns false'. Refute it at one input. -/
def scaleKnownWrong : ChangeSpec := { name := "scaleKnown", fn := fun _ => fun
  | [] => { results := [.lit (.bool false)], args := [] }
  | _ => none }
def ScaleKnownWrongFalsely : Prop := scaleKnownRow.holds Try.pinned (OpenSpec.ofChange scaleKnownWrong)

/- THE SECOND FORM. 'bulk': how many values and letters a reading holds, each counted each time it is reached (what is shared counts as often as it is met; a slice's spare places count too). A statement '..UptoSaid' is the law's where the arguments, and the package variables that the reading takes, are together of bulk at most 1048576: NARROWER than '..Said'. Prove '..Said' where nothing that the law and all that it calls make is longer than what came in: it says more and counts as full. Else prove '..UptoSaid'. A law counts once. -/
mutual
def uptoBulk {H : Type} : DataW H → Nat
  | .lit (.string bytes) => bytes.length + 1
  | .lit _ => 1
  | .nil => 1
  | .ptr d => uptoBulk d + 1
  | .slice elems spare => uptoBulkAll elems + uptoBulkAll spare + 1
  | .agg parts => uptoBulkAll parts + 1
  | .iface _ d => uptoBulk d + 1
  | .map entries => uptoBulkEntries entries + 1
  | .held _ => 1
def uptoBulkAll {H : Type} : List (DataW H) → Nat
  | [] => 0
  | d :: r => uptoBulk d + uptoBulkAll r
def uptoBulkEntries {H : Type} : List (Lit × DataW H) → Nat
  | [] => 0
  | x :: r => uptoBulkEntry x + uptoBulkEntries r
def uptoBulkEntry {H : Type} : Lit × DataW H → Nat
  | (.string bytes, d) => bytes.length + uptoBulk d + 1
  | (_, d) => uptoBulk d + 1
 end
def uptoSmall : (H : Type) → List (DataW H) → Bool := fun _ ds => decide (uptoBulkAll ds ≤ 1048576)
def OpenSpec.upto (s : _root_.Go.ChangeSpec) : _root_.Go.OpenSpec := { _root_.Go.OpenSpec.ofChange s with cond := some uptoSmall }

/-- 'outstationlaw06.ScaleRaws', WHERE WHAT IT READS IS OF BULK AT MOST 1048576: true; the input reads as it did. -/
def scaleRawsUptoRow : OpenClaim := { program := "ytcnidddneiekfaa", sum := "5cb03fe0b24e619262b7f42d5305cfe76338eaac4f1d6660644f3b0f7aba2134", func := "outstation/outstationlaw06.ScaleRaws", spec := "scaleRaws", recurses := true, apart := false, narrowed := true }
def ScaleRawsUptoSaid : Prop := scaleRawsUptoRow.holds Try.pinned (OpenSpec.upto scaleRawsSpec)

/-- 'outstationlaw06.ScaleWords', WHERE WHAT IT READS IS OF BULK AT MOST 1048576: true; the input reads as it did. -/
def scaleWordsUptoRow : OpenClaim := { program := "ytcnidddneiekfaa", sum := "5cb03fe0b24e619262b7f42d5305cfe76338eaac4f1d6660644f3b0f7aba2134", func := "outstation/outstationlaw06.ScaleWords", spec := "scaleWords", recurses := true, apart := false, narrowed := true }
def ScaleWordsUptoSaid : Prop := scaleWordsUptoRow.holds Try.pinned (OpenSpec.upto scaleWordsSpec)

/-- 'outstationlaw06.ScaleValues', WHERE WHAT IT READS IS OF BULK AT MOST 1048576: true; the input reads as it did. -/
def scaleValuesUptoRow : OpenClaim := { program := "ytcnidddneiekfaa", sum := "5cb03fe0b24e619262b7f42d5305cfe76338eaac4f1d6660644f3b0f7aba2134", func := "outstation/outstationlaw06.ScaleValues", spec := "scaleValues", recurses := true, apart := false, narrowed := true }
def ScaleValuesUptoSaid : Prop := scaleValuesUptoRow.holds Try.pinned (OpenSpec.upto scaleValuesSpec)

/-- 'outstationlaw06.ScaleBack', WHERE WHAT IT READS IS OF BULK AT MOST 1048576: true; the input reads as it did. -/
def scaleBackUptoRow : OpenClaim := { program := "ytcnidddneiekfaa", sum := "5cb03fe0b24e619262b7f42d5305cfe76338eaac4f1d6660644f3b0f7aba2134", func := "outstation/outstationlaw06.ScaleBack", spec := "scaleBack", recurses := true, apart := false, narrowed := true }
def ScaleBackUptoSaid : Prop := scaleBackUptoRow.holds Try.pinned (OpenSpec.upto scaleBackSpec)

/-- 'outstationlaw06.ScaleNearest', WHERE WHAT IT READS IS OF BULK AT MOST 1048576: true; the input reads as it did. -/
def scaleNearestUptoRow : OpenClaim := { program := "ytcnidddneiekfaa", sum := "5cb03fe0b24e619262b7f42d5305cfe76338eaac4f1d6660644f3b0f7aba2134", func := "outstation/outstationlaw06.ScaleNearest", spec := "scaleNearest", recurses := true, apart := false, narrowed := true }
def ScaleNearestUptoSaid : Prop := scaleNearestUptoRow.holds Try.pinned (OpenSpec.upto scaleNearestSpec)

/-- 'outstationlaw06.ScaleRises', WHERE WHAT IT READS IS OF BULK AT MOST 1048576: true; the input reads as it did. -/
def scaleRisesUptoRow : OpenClaim := { program := "ytcnidddneiekfaa", sum := "5cb03fe0b24e619262b7f42d5305cfe76338eaac4f1d6660644f3b0f7aba2134", func := "outstation/outstationlaw06.ScaleRises", spec := "scaleRises", recurses := true, apart := false, narrowed := true }
def ScaleRisesUptoSaid : Prop := scaleRisesUptoRow.holds Try.pinned (OpenSpec.upto scaleRisesSpec)

/-- 'outstationlaw06.ScaleTurned', WHERE WHAT IT READS IS OF BULK AT MOST 1048576: true; the input reads as it did. -/
def scaleTurnedUptoRow : OpenClaim := { program := "ytcnidddneiekfaa", sum := "5cb03fe0b24e619262b7f42d5305cfe76338eaac4f1d6660644f3b0f7aba2134", func := "outstation/outstationlaw06.ScaleTurned", spec := "scaleTurned", recurses := true, apart := false, narrowed := true }
def ScaleTurnedUptoSaid : Prop := scaleTurnedUptoRow.holds Try.pinned (OpenSpec.upto scaleTurnedSpec)

/-- 'outstationlaw06.ScaleKnown', WHERE WHAT IT READS IS OF BULK AT MOST 1048576: true; the input reads as it did. -/
def scaleKnownUptoRow : OpenClaim := { program := "ytcnidddneiekfaa", sum := "5cb03fe0b24e619262b7f42d5305cfe76338eaac4f1d6660644f3b0f7aba2134", func := "outstation/outstationlaw06.ScaleKnown", spec := "scaleKnown", recurses := true, apart := false, narrowed := true }
def ScaleKnownUptoSaid : Prop := scaleKnownUptoRow.holds Try.pinned (OpenSpec.upto scaleKnownSpec)

end Rows
end Go.Proofs.Ytcnidddneiekfaa
