/-
  No cell of these rows narrows 'for every input' (looked for: loops, veiled, ifaces, maps, wideKeys, modest, calm, conditions, laid).
  DERIVED. THE GIVEN ROWS OF THIS SEAT. 6 by the template 'for every input the law returns true; each argument reads behind the call as it read before'; 0 by the template 'total and deterministic' (their statements: YtmakegbkgiajdaaTotals.lean).
  GIVEN WITH THE SEED: the statements are not yours to turn. If you find one false, say at which input.
  Laid BY PROGRAM, IN A SANDBOX (cutbox-rows.mjs): the forced cells as the released guide's own fill.sh prints them over the translation e7aa91226315158a… (all of the seat's roots in one cut). By AI agents, Wed Nov 11 2026. No macro, syntax, notation, axiom, sorry.
-/
import Derived.Test.YtmakegbkgiajdaaChecked
import GoSem.Claim
import GoSem.ClaimJoined
import GoSem.ClaimMapViews
import Derived.JoinedTies
import Derived.KernelRfl
namespace Go.Proofs.Ytmakegbkgiajdaa
/- THE CELL 'sum', in the pinned program and in every row, IS THE sha256 OF THE DUMP (.gsa) THAT YtmakegbkgiajdaaProg.lean LOADS. Nothing in Lean hashes anything: it is a label: what it is worth is what the hold of that sum in a sandbox is worth. -/
noncomputable def Try.pinned : Pinned := { name := "ytmakegbkgiajdaa", sum := "e7aa91226315158a92f9c0286b460c1640ed92daea70aedb09bb2836fed40654", checked := Try.checked }
namespace Rows
def none {H : Type} : Left H := { results := [], args := [] }

/-- 'outstationlaw09.TagsChecks': WHATEVER THE INPUT: true; the input reads as it did. -/
def tagsChecksSpec : ChangeSpec := { name := "tagsChecks", fn := fun _ => fun
  | [d] => { results := [.lit (.bool true)], args := [d] }
  | _ => none }
def tagsChecksRow : OpenClaim := { program := "ytmakegbkgiajdaa", sum := "e7aa91226315158a92f9c0286b460c1640ed92daea70aedb09bb2836fed40654", func := "outstation/outstationlaw09.TagsChecks", spec := "tagsChecks", apart := false }
def TagsChecksSaid : Prop := tagsChecksRow.holds Try.pinned (OpenSpec.ofChange tagsChecksSpec)

/-- ITS FALSE NEIGHBOUR: 'it returns false'. Refute it at one input. -/
def tagsChecksWrong : ChangeSpec := { name := "tagsChecks", fn := fun _ => fun
  | [d] => { results := [.lit (.bool false)], args := [d] }
  | _ => none }
def TagsChecksWrongFalsely : Prop := tagsChecksRow.holds Try.pinned (OpenSpec.ofChange tagsChecksWrong)

/-- 'outstationlaw09.TagsTables': WHATEVER THE INPUT: true; the input reads as it did. -/
def tagsTablesSpec : ChangeSpec := { name := "tagsTables", fn := fun _ => fun
  | [d1, d2] => { results := [.lit (.bool true)], args := [d1, d2] }
  | _ => none }
def tagsTablesRow : OpenClaim := { program := "ytmakegbkgiajdaa", sum := "e7aa91226315158a92f9c0286b460c1640ed92daea70aedb09bb2836fed40654", func := "outstation/outstationlaw09.TagsTables", spec := "tagsTables", apart := false }
def TagsTablesSaid : Prop := tagsTablesRow.holds Try.pinned (OpenSpec.ofChange tagsTablesSpec)

/-- ITS FALSE NEIGHBOUR: 'it returns false'. Refute it at one input. -/
def tagsTablesWrong : ChangeSpec := { name := "tagsTables", fn := fun _ => fun
  | [d1, d2] => { results := [.lit (.bool false)], args := [d1, d2] }
  | _ => none }
def TagsTablesWrongFalsely : Prop := tagsTablesRow.holds Try.pinned (OpenSpec.ofChange tagsTablesWrong)

/-- 'outstationlaw09.TagsFound': WHATEVER THE INPUT: true; the input reads as it did. -/
def tagsFoundSpec : ChangeSpec := { name := "tagsFound", fn := fun _ => fun
  | [d1, d2] => { results := [.lit (.bool true)], args := [d1, d2] }
  | _ => none }
def tagsFoundRow : OpenClaim := { program := "ytmakegbkgiajdaa", sum := "e7aa91226315158a92f9c0286b460c1640ed92daea70aedb09bb2836fed40654", func := "outstation/outstationlaw09.TagsFound", spec := "tagsFound", apart := false }
def TagsFoundSaid : Prop := tagsFoundRow.holds Try.pinned (OpenSpec.ofChange tagsFoundSpec)

/-- ITS FALSE NEIGHBOUR: 'it returns false'. Refute it at one input. -/
def tagsFoundWrong : ChangeSpec := { name := "tagsFound", fn := fun _ => fun
  | [d1, d2] => { results := [.lit (.bool false)], args := [d1, d2] }
  | _ => none }
def TagsFoundWrongFalsely : Prop := tagsFoundRow.holds Try.pinned (OpenSpec.ofChange tagsFoundWrong)

/-- 'outstationlaw09.TagsLess': WHATEVER THE INPUT: true; the input reads as it did. -/
def tagsLessSpec : ChangeSpec := { name := "tagsLess", fn := fun _ => fun
  | [d1, d2] => { results := [.lit (.bool true)], args := [d1, d2] }
  | _ => none }
def tagsLessRow : OpenClaim := { program := "ytmakegbkgiajdaa", sum := "e7aa91226315158a92f9c0286b460c1640ed92daea70aedb09bb2836fed40654", func := "outstation/outstationlaw09.TagsLess", spec := "tagsLess", apart := false }
def TagsLessSaid : Prop := tagsLessRow.holds Try.pinned (OpenSpec.ofChange tagsLessSpec)

/-- ITS FALSE NEIGHBOUR: 'it returns false'. Refute it at one input. -/
def tagsLessWrong : ChangeSpec := { name := "tagsLess", fn := fun _ => fun
  | [d1, d2] => { results := [.lit (.bool false)], args := [d1, d2] }
  | _ => none }
def TagsLessWrongFalsely : Prop := tagsLessRow.holds Try.pinned (OpenSpec.ofChange tagsLessWrong)

/-- 'outstationlaw09.TagsEnds': WHATEVER THE INPUT: true; the input reads as it did. -/
def tagsEndsSpec : ChangeSpec := { name := "tagsEnds", fn := fun _ => fun
  | [d] => { results := [.lit (.bool true)], args := [d] }
  | _ => none }
def tagsEndsRow : OpenClaim := { program := "ytmakegbkgiajdaa", sum := "e7aa91226315158a92f9c0286b460c1640ed92daea70aedb09bb2836fed40654", func := "outstation/outstationlaw09.TagsEnds", spec := "tagsEnds", apart := false }
def TagsEndsSaid : Prop := tagsEndsRow.holds Try.pinned (OpenSpec.ofChange tagsEndsSpec)

/-- ITS FALSE NEIGHBOUR: 'it returns false'. Refute it at one input. -/
def tagsEndsWrong : ChangeSpec := { name := "tagsEnds", fn := fun _ => fun
  | [d] => { results := [.lit (.bool false)], args := [d] }
  | _ => none }
def TagsEndsWrongFalsely : Prop := tagsEndsRow.holds Try.pinned (OpenSpec.ofChange tagsEndsWrong)

/-- 'outstationlaw09.TagsKnown': WHATEVER THE INPUT: true; the input reads as it did. -/
def tagsKnownSpec : ChangeSpec := { name := "tagsKnown", fn := fun _ => fun
  | [] => { results := [.lit (.bool true)], args := [] }
  | _ => none }
def tagsKnownRow : OpenClaim := { program := "ytmakegbkgiajdaa", sum := "e7aa91226315158a92f9c0286b460c1640ed92daea70aedb09bb2836fed40654", func := "outstation/outstationlaw09.TagsKnown", spec := "tagsKnown", apart := false }
def TagsKnownSaid : Prop := tagsKnownRow.holds Try.pinned (OpenSpec.ofChange tagsKnownSpec)

/-- ITS FALSE NEIGHBOUR: 'it returns false'. Refute it at one input. -/
def tagsKnownWrong : ChangeSpec := { name := "tagsKnown", fn := fun _ => fun
  | [] => { results := [.lit (.bool false)], args := [] }
  | _ => none }
def TagsKnownWrongFalsely : Prop := tagsKnownRow.holds Try.pinned (OpenSpec.ofChange tagsKnownWrong)

/- THE SECOND FORM. 'bulk': how many values and letters a reading holds, each counted each time it is reached (what is shared counts as often as it is met; a slice's spare places count too). A statement '..UptoSaid' is the law's where the arguments, and the package variables that the reading takes, are together of bulk at most 1048576: NARROWER than '..Said'. Prove '..Said' where nothing that the law and all that it calls make is longer than what came in: it says more and counts as full. Else prove '..UptoSaid'. A law counts once. -/
mutual
def uptoBulk {H : Type} : DataW H → Nat
  | .lit (.string bytes) => bytes.length + 1
  | .lit _ => 1
  | .nil => 1
  | .ptr d => uptoBulk d + 1
  | .slice elems spare => uptoBulkAll elems + uptoBulkAll spare + 1
  | .agg parts => uptoBulkAll parts + 1
  | .iface _ d => uptoBulk d + 1
  | .map entries => uptoBulkEntries entries + 1
  | .held _ => 1
def uptoBulkAll {H : Type} : List (DataW H) → Nat
  | [] => 0
  | d :: r => uptoBulk d + uptoBulkAll r
def uptoBulkEntries {H : Type} : List (Lit × DataW H) → Nat
  | [] => 0
  | x :: r => uptoBulkEntry x + uptoBulkEntries r
def uptoBulkEntry {H : Type} : Lit × DataW H → Nat
  | (.string bytes, d) => bytes.length + uptoBulk d + 1
  | (_, d) => uptoBulk d + 1
 end
def uptoSmall : (H : Type) → List (DataW H) → Bool := fun _ ds => decide (uptoBulkAll ds ≤ 1048576)
def OpenSpec.upto (s : _root_.Go.ChangeSpec) : _root_.Go.OpenSpec := { _root_.Go.OpenSpec.ofChange s with cond := some uptoSmall }

/-- 'outstationlaw09.TagsChecks', WHERE WHAT IT READS IS OF BULK AT MOST 1048576: true; the input reads as it did. -/
def tagsChecksUptoRow : OpenClaim := { program := "ytmakegbkgiajdaa", sum := "e7aa91226315158a92f9c0286b460c1640ed92daea70aedb09bb2836fed40654", func := "outstation/outstationlaw09.TagsChecks", spec := "tagsChecks", apart := false, narrowed := true }
def TagsChecksUptoSaid : Prop := tagsChecksUptoRow.holds Try.pinned (OpenSpec.upto tagsChecksSpec)

/-- 'outstationlaw09.TagsTables', WHERE WHAT IT READS IS OF BULK AT MOST 1048576: true; the input reads as it did. -/
def tagsTablesUptoRow : OpenClaim := { program := "ytmakegbkgiajdaa", sum := "e7aa91226315158a92f9c0286b460c1640ed92daea70aedb09bb2836fed40654", func := "outstation/outstationlaw09.TagsTables", spec := "tagsTables", apart := false, narrowed := true }
def TagsTablesUptoSaid : Prop := tagsTablesUptoRow.holds Try.pinned (OpenSpec.upto tagsTablesSpec)

/-- 'outstationlaw09.TagsFound', WHERE WHAT IT READS IS OF BULK AT MOST 1048576: true; the input reads as it did. -/
def tagsFoundUptoRow : OpenClaim := { program := "ytmakegbkgiajdaa", sum := "e7aa91226315158a92f9c0286b460c1640ed92daea70aedb09bb2836fed40654", func := "outstation/outstationlaw09.TagsFound", spec := "tagsFound", apart := false, narrowed := true }
def TagsFoundUptoSaid : Prop := tagsFoundUptoRow.holds Try.pinned (OpenSpec.upto tagsFoundSpec)

/-- 'outstationlaw09.TagsLess', WHERE WHAT IT READS IS OF BULK AT MOST 1048576: true; the input reads as it did. -/
def tagsLessUptoRow : OpenClaim := { program := "ytmakegbkgiajdaa", sum := "e7aa91226315158a92f9c0286b460c1640ed92daea70aedb09bb2836fed40654", func := "outstation/outstationlaw09.TagsLess", spec := "tagsLess", apart := false, narrowed := true }
def TagsLessUptoSaid : Prop := tagsLessUptoRow.holds Try.pinned (OpenSpec.upto tagsLessSpec)

/-- 'outstationlaw09.TagsEnds', WHERE WHAT IT READS IS OF BULK AT MOST 1048576: true; the input reads as it did. -/
def tagsEndsUptoRow : OpenClaim := { program := "ytmakegbkgiajdaa", sum := "e7aa91226315158a92f9c0286b460c1640ed92daea70aedb09bb2836fed40654", func := "outstation/outstationlaw09.TagsEnds", spec := "tagsEnds", apart := false, narrowed := true }
def TagsEndsUptoSaid : Prop := tagsEndsUptoRow.holds Try.pinned (OpenSpec.upto tagsEndsSpec)

/-- 'outstationlaw09.TagsKnown', WHERE WHAT IT READS IS OF BULK AT MOST 1048576: true; the input reads as it did. -/
def tagsKnownUptoRow : OpenClaim := { program := "ytmakegbkgiajdaa", sum := "e7aa91226315158a92f9c0286b460c1640ed92daea70aedb09bb2836fed40654", func := "outstation/outstationlaw09.TagsKnown", spec := "tagsKnown", apart := false, narrowed := true }
def TagsKnownUptoSaid : Prop := tagsKnownUptoRow.holds Try.pinned (OpenSpec.upto tagsKnownSpec)

end Rows
end Go.Proofs.Ytmakegbkgiajdaa
