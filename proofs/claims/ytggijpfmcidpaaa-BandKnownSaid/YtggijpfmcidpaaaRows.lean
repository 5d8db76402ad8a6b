/-
  No cell of these rows narrows 'for every input' (looked for: loops, veiled, ifaces, maps, wideKeys, modest, calm, conditions, laid).
  DERIVED. THE GIVEN ROWS OF THIS SEAT. 6 by the template 'for every input the law returns true; each argument reads behind the call as it read before'; 0 by the template 'total and deterministic' (their statements: YtggijpfmcidpaaaTotals.lean).
  GIVEN WITH THE SEED: the statements are not yours to turn. If you find one false, say at which input.
  Laid BY PROGRAM, IN A SANDBOX (cutbox-rows.mjs): the forced cells as the released guide's own fill.sh prints them over the translation 05cbea6db6a5b590… (all of the seat's roots in one cut). By AI agents, Wed Nov 11 2026. No macro, syntax, notation, axiom, sorry.
-/
import Derived.Test.YtggijpfmcidpaaaChecked
import GoSem.Claim
import GoSem.ClaimJoined
import GoSem.ClaimMapViews
import Derived.JoinedTies
import Derived.KernelRfl
namespace Go.Proofs.Ytggijpfmcidpaaa
/- THE CELL 'sum', in the pinned program and in every row, IS THE sha256 OF THE DUMP (.gsa) THAT YtggijpfmcidpaaaProg.lean LOADS. Nothing in Lean hashes anything: it is a label: what it is worth is what the hold of that sum in a sandbox is worth. -/
noncomputable def Try.pinned : Pinned := { name := "ytggijpfmcidpaaa", sum := "05cbea6db6a5b590f77377d863a586c29f82ba1973f4cf66bb0125eff44bc7de", checked := Try.checked }
namespace Rows
def none {H : Type} : Left H := { results := [], args := [] }

/-- 'outstationlaw07.BandSteps': WHATEVER THE INPUT: true; the input reads as it did. -/
def bandStepsSpec : ChangeSpec := { name := "bandSteps", fn := fun _ => fun
  | [d1, d2, d3] => { results := [.lit (.bool true)], args := [d1, d2, d3] }
  | _ => none }
def bandStepsRow : OpenClaim := { program := "ytggijpfmcidpaaa", sum := "05cbea6db6a5b590f77377d863a586c29f82ba1973f4cf66bb0125eff44bc7de", func := "outstation/outstationlaw07.BandSteps", spec := "bandSteps", apart := false }
def BandStepsSaid : Prop := bandStepsRow.holds Try.pinned (OpenSpec.ofChange bandStepsSpec)

/-- ITS FALSE NEIGHBOUR: 'it returns false'. Refute it at one input. -/
def bandStepsWrong : ChangeSpec := { name := "bandSteps", fn := fun _ => fun
  | [d1, d2, d3] => { results := [.lit (.bool false)], args := [d1, d2, d3] }
  | _ => none }
def BandStepsWrongFalsely : Prop := bandStepsRow.holds Try.pinned (OpenSpec.ofChange bandStepsWrong)

/-- 'outstationlaw07.BandRuns': WHATEVER THE INPUT: true; the input reads as it did. -/
def bandRunsSpec : ChangeSpec := { name := "bandRuns", fn := fun _ => fun
  | [d1, d2] => { results := [.lit (.bool true)], args := [d1, d2] }
  | _ => none }
def bandRunsRow : OpenClaim := { program := "ytggijpfmcidpaaa", sum := "05cbea6db6a5b590f77377d863a586c29f82ba1973f4cf66bb0125eff44bc7de", func := "outstation/outstationlaw07.BandRuns", spec := "bandRuns", apart := false }
def BandRunsSaid : Prop := bandRunsRow.holds Try.pinned (OpenSpec.ofChange bandRunsSpec)

/-- ITS FALSE NEIGHBOUR: 'it returns false'. Refute it at one input. -/
def bandRunsWrong : ChangeSpec := { name := "bandRuns", fn := fun _ => fun
  | [d1, d2] => { results := [.lit (.bool false)], args := [d1, d2] }
  | _ => none }
def BandRunsWrongFalsely : Prop := bandRunsRow.holds Try.pinned (OpenSpec.ofChange bandRunsWrong)

/-- 'outstationlaw07.BandNear': WHATEVER THE INPUT: true; the input reads as it did. -/
def bandNearSpec : ChangeSpec := { name := "bandNear", fn := fun _ => fun
  | [d1, d2] => { results := [.lit (.bool true)], args := [d1, d2] }
  | _ => none }
def bandNearRow : OpenClaim := { program := "ytggijpfmcidpaaa", sum := "05cbea6db6a5b590f77377d863a586c29f82ba1973f4cf66bb0125eff44bc7de", func := "outstation/outstationlaw07.BandNear", spec := "bandNear", apart := false }
def BandNearSaid : Prop := bandNearRow.holds Try.pinned (OpenSpec.ofChange bandNearSpec)

/-- ITS FALSE NEIGHBOUR: 'it returns false'. Refute it at one input. -/
def bandNearWrong : ChangeSpec := { name := "bandNear", fn := fun _ => fun
  | [d1, d2] => { results := [.lit (.bool false)], args := [d1, d2] }
  | _ => none }
def BandNearWrongFalsely : Prop := bandNearRow.holds Try.pinned (OpenSpec.ofChange bandNearWrong)

/-- 'outstationlaw07.BandFar': WHATEVER THE INPUT: true; the input reads as it did. -/
def bandFarSpec : ChangeSpec := { name := "bandFar", fn := fun _ => fun
  | [d1, d2] => { results := [.lit (.bool true)], args := [d1, d2] }
  | _ => none }
def bandFarRow : OpenClaim := { program := "ytggijpfmcidpaaa", sum := "05cbea6db6a5b590f77377d863a586c29f82ba1973f4cf66bb0125eff44bc7de", func := "outstation/outstationlaw07.BandFar", spec := "bandFar", apart := false }
def BandFarSaid : Prop := bandFarRow.holds Try.pinned (OpenSpec.ofChange bandFarSpec)

/-- ITS FALSE NEIGHBOUR: 'it returns false'. Refute it at one input. -/
def bandFarWrong : ChangeSpec := { name := "bandFar", fn := fun _ => fun
  | [d1, d2] => { results := [.lit (.bool false)], args := [d1, d2] }
  | _ => none }
def BandFarWrongFalsely : Prop := bandFarRow.holds Try.pinned (OpenSpec.ofChange bandFarWrong)

/-- 'outstationlaw07.BandParts': WHATEVER THE INPUT: true; the input reads as it did. -/
def bandPartsSpec : ChangeSpec := { name := "bandParts", fn := fun _ => fun
  | [d1, d2, d3] => { results := [.lit (.bool true)], args := [d1, d2, d3] }
  | _ => none }
def bandPartsRow : OpenClaim := { program := "ytggijpfmcidpaaa", sum := "05cbea6db6a5b590f77377d863a586c29f82ba1973f4cf66bb0125eff44bc7de", func := "outstation/outstationlaw07.BandParts", spec := "bandParts", apart := false }
def BandPartsSaid : Prop := bandPartsRow.holds Try.pinned (OpenSpec.ofChange bandPartsSpec)

/-- ITS FALSE NEIGHBOUR: 'it returns false'. Refute it at one input. -/
def bandPartsWrong : ChangeSpec := { name := "bandParts", fn := fun _ => fun
  | [d1, d2, d3] => { results := [.lit (.bool false)], args := [d1, d2, d3] }
  | _ => none }
def BandPartsWrongFalsely : Prop := bandPartsRow.holds Try.pinned (OpenSpec.ofChange bandPartsWrong)

/-- 'outstationlaw07.BandKnown': WHATEVER THE INPUT: true; the input reads as it did. -/
def bandKnownSpec : ChangeSpec := { name := "bandKnown", fn := fun _ => fun
  | [] => { results := [.lit (.bool true)], args := [] }
  | _ => none }
def bandKnownRow : OpenClaim := { program := "ytggijpfmcidpaaa", sum := "05cbea6db6a5b590f77377d863a586c29f82ba1973f4cf66bb0125eff44bc7de", func := "outstation/outstationlaw07.BandKnown", spec := "bandKnown", apart := false }
def BandKnownSaid : Prop := bandKnownRow.holds Try.pinned (OpenSpec.ofChange bandKnownSpec)

/-- ITS FALSE NEIGHBOUR: 'it returns false'. Refute it at one input. -/
def bandKnownWrong : ChangeSpec := { name := "bandKnown", fn := fun _ => fun
  | [] => { results := [.lit (.bool false)], args := [] }
  | _ => none }
def BandKnownWrongFalsely : Prop := bandKnownRow.holds Try.pinned (OpenSpec.ofChange bandKnownWrong)

/- THE SECOND FORM. 'bulk': how many values and letters a reading holds, each counted each time it is reached (what is shared counts as often as it is met; a slice's spare places count too). A statement '..UptoSaid' is the law's where the arguments, and the package variables that the reading takes, are together of bulk at most 1048576: NARROWER than '..Said'. Prove '..Said' where nothing that the law and all that it calls make is longer than what came in: it says more and counts as full. Else prove '..UptoSaid'. A law counts once. -/
mutual
def uptoBulk {H : Type} : DataW H → Nat
  | .lit (.string bytes) => bytes.length + 1
  | .lit _ => 1
  | .nil => 1
  | .ptr d => uptoBulk d + 1
  | .slice elems spare => uptoBulkAll elems + uptoBulkAll spare + 1
  | .agg parts => uptoBulkAll parts + 1
  | .iface _ d => uptoBulk d + 1
  | .map entries => uptoBulkEntries entries + 1
  | .held _ => 1
def uptoBulkAll {H : Type} : List (DataW H) → Nat
  | [] => 0
  | d :: r => uptoBulk d + uptoBulkAll r
def uptoBulkEntries {H : Type} : List (Lit × DataW H) → Nat
  | [] => 0
  | x :: r => uptoBulkEntry x + uptoBulkEntries r
def uptoBulkEntry {H : Type} : Lit × DataW H → Nat
  | (.string bytes, d) => bytes.length + uptoBulk d + 1
  | (_, d) => uptoBulk d + 1
 end
def uptoSmall : (H : Type) → List (DataW H) → Bool := fun _ ds => decide (uptoBulkAll ds ≤ 1048576)
def OpenSpec.upto (s : _root_.Go.ChangeSpec) : _root_.Go.OpenSpec := { _root_.Go.OpenSpec.ofChange s with cond := some uptoSmall }

/-- 'outstationlaw07.BandSteps', WHERE WHAT IT READS IS OF BULK AT MOST 1048576: true; the input reads as it did. -/
def bandStepsUptoRow : OpenClaim := { program := "ytggijpfmcidpaaa", sum := "05cbea6db6a5b590f77377d863a586c29f82ba1973f4cf66bb0125eff44bc7de", func := "outstation/outstationlaw07.BandSteps", spec := "bandSteps", apart := false, narrowed := true }
def BandStepsUptoSaid : Prop := bandStepsUptoRow.holds Try.pinned (OpenSpec.upto bandStepsSpec)

/-- 'outstationlaw07.BandRuns', WHERE WHAT IT READS IS OF BULK AT MOST 1048576: true; the input reads as it did. -/
def bandRunsUptoRow : OpenClaim := { program := "ytggijpfmcidpaaa", sum := "05cbea6db6a5b590f77377d863a586c29f82ba1973f4cf66bb0125eff44bc7de", func := "outstation/outstationlaw07.BandRuns", spec := "bandRuns", apart := false, narrowed := true }
def BandRunsUptoSaid : Prop := bandRunsUptoRow.holds Try.pinned (OpenSpec.upto bandRunsSpec)

/-- 'outstationlaw07.BandNear', WHERE WHAT IT READS IS OF BULK AT MOST 1048576: true; the input reads as it did. -/
def bandNearUptoRow : OpenClaim := { program := "ytggijpfmcidpaaa", sum := "05cbea6db6a5b590f77377d863a586c29f82ba1973f4cf66bb0125eff44bc7de", func := "outstation/outstationlaw07.BandNear", spec := "bandNear", apart := false, narrowed := true }
def BandNearUptoSaid : Prop := bandNearUptoRow.holds Try.pinned (OpenSpec.upto bandNearSpec)

/-- 'outstationlaw07.BandFar', WHERE WHAT IT READS IS OF BULK AT MOST 1048576: true; the input reads as it did. -/
def bandFarUptoRow : OpenClaim := { program := "ytggijpfmcidpaaa", sum := "05cbea6db6a5b590f77377d863a586c29f82ba1973f4cf66bb0125eff44bc7de", func := "outstation/outstationlaw07.BandFar", spec := "bandFar", apart := false, narrowed := true }
def BandFarUptoSaid : Prop := bandFarUptoRow.holds Try.pinned (OpenSpec.upto bandFarSpec)

/-- 'outstationlaw07.BandParts', WHERE WHAT IT READS IS OF BULK AT MOST 1048576: true; the input reads as it did. -/
def bandPartsUptoRow : OpenClaim := { program := "ytggijpfmcidpaaa", sum := "05cbea6db6a5b590f77377d863a586c29f82ba1973f4cf66bb0125eff44bc7de", func := "outstation/outstationlaw07.BandParts", spec := "bandParts", apart := false, narrowed := true }
def BandPartsUptoSaid : Prop := bandPartsUptoRow.holds Try.pinned (OpenSpec.upto bandPartsSpec)

/-- 'outstationlaw07.BandKnown', WHERE WHAT IT READS IS OF BULK AT MOST 1048576: true; the input reads as it did. -/
def bandKnownUptoRow : OpenClaim := { program := "ytggijpfmcidpaaa", sum := "05cbea6db6a5b590f77377d863a586c29f82ba1973f4cf66bb0125eff44bc7de", func := "outstation/outstationlaw07.BandKnown", spec := "bandKnown", apart := false, narrowed := true }
def BandKnownUptoSaid : Prop := bandKnownUptoRow.holds Try.pinned (OpenSpec.upto bandKnownSpec)

end Rows
end Go.Proofs.Ytggijpfmcidpaaa
