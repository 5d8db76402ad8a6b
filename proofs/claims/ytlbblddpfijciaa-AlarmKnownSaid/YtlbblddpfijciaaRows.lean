/-
  No cell of these rows narrows 'for every input' (looked for: loops, veiled, ifaces, maps, wideKeys, modest, calm, conditions, laid).
  DERIVED. THE GIVEN ROWS OF THIS SEAT. 7 by the template 'for every input the law returns true; each argument reads behind the call as it read before'; 0 by the template 'total and deterministic' (their statements: YtlbblddpfijciaaTotals.lean).
  GIVEN WITH THE SEED: the statements are not yours to turn. If you find one false, say at which input.
  Laid BY PROGRAM, IN A SANDBOX (cutbox-rows.mjs): the forced cells as the released guide's own fill.sh prints them over the translation d01bb13c5e7216bd… (all of the seat's roots in one cut). By AI agents, Wed Nov 11 2026. No macro, syntax, notation, axiom, sorry.
-/
import Derived.Test.YtlbblddpfijciaaChecked
import GoSem.Claim
import GoSem.ClaimJoined
import GoSem.ClaimMapViews
import Derived.JoinedTies
import Derived.KernelRfl
namespace Go.Proofs.Ytlbblddpfijciaa
/- THE CELL 'sum', in the pinned program and in every row, IS THE sha256 OF THE DUMP (.gsa) THAT YtlbblddpfijciaaProg.lean LOADS. Nothing in Lean hashes anything: it is a label: what it is worth is what the hold of that sum in a sandbox is worth. -/
noncomputable def Try.pinned : Pinned := { name := "ytlbblddpfijciaa", sum := "d01bb13c5e7216bd6b5a3cbd9a0299dee7b9c2766c694aa374d0854aab40c4bc", checked := Try.checked }
namespace Rows
def none {H : Type} : Left H := { results := [], args := [] }

/-- 'outstationlaw08.AlarmSteps': WHATEVER THE INPUT: true; the input reads as it did. -/
def alarmStepsSpec : ChangeSpec := { name := "alarmSteps", fn := fun _ => fun
  | [d1, d2, d3] => { results := [.lit (.bool true)], args := [d1, d2, d3] }
  | _ => none }
def alarmStepsRow : OpenClaim := { program := "ytlbblddpfijciaa", sum := "d01bb13c5e7216bd6b5a3cbd9a0299dee7b9c2766c694aa374d0854aab40c4bc", func := "outstation/outstationlaw08.AlarmSteps", spec := "alarmSteps", unfollowed := true, recurses := true, apart := false }
def AlarmStepsSaid : Prop := alarmStepsRow.holds Try.pinned (OpenSpec.ofChange alarmStepsSpec)

/-- ITS FALSE NEIGHBOUR: 'it returns false'. Refute it at one input. -/
def alarmStepsWrong : ChangeSpec := { name := "alarmSteps", fn := fun _ => fun
  | [d1, d2, d3] => { results := [.lit (.bool false)], args := [d1, d2, d3] }
  | _ => none }
def AlarmStepsWrongFalsely : Prop := alarmStepsRow.holds Try.pinned (OpenSpec.ofChange alarmStepsWrong)

/-- 'outstationlaw08.AlarmRuns': WHATEVER THE INPUT: true; the input reads as it did. -/
def alarmRunsSpec : ChangeSpec := { name := "alarmRuns", fn := fun _ => fun
  | [d1, d2, d3] => { results := [.lit (.bool true)], args := [d1, d2, d3] }
  | _ => none }
def alarmRunsRow : OpenClaim := { program := "ytlbblddpfijciaa", sum := "d01bb13c5e7216bd6b5a3cbd9a0299dee7b9c2766c694aa374d0854aab40c4bc", func := "outstation/outstationlaw08.AlarmRuns", spec := "alarmRuns", unfollowed := true, recurses := true, apart := false }
def AlarmRunsSaid : Prop := alarmRunsRow.holds Try.pinned (OpenSpec.ofChange alarmRunsSpec)

/-- ITS FALSE NEIGHBOUR: 'it returns false'. Refute it at one input. -/
def alarmRunsWrong : ChangeSpec := { name := "alarmRuns", fn := fun _ => fun
  | [d1, d2, d3] => { results := [.lit (.bool false)], args := [d1, d2, d3] }
  | _ => none }
def AlarmRunsWrongFalsely : Prop := alarmRunsRow.holds Try.pinned (OpenSpec.ofChange alarmRunsWrong)

/-- 'outstationlaw08.AlarmTells': WHATEVER THE INPUT: true; the input reads as it did. -/
def alarmTellsSpec : ChangeSpec := { name := "alarmTells", fn := fun _ => fun
  | [d1, d2, d3] => { results := [.lit (.bool true)], args := [d1, d2, d3] }
  | _ => none }
def alarmTellsRow : OpenClaim := { program := "ytlbblddpfijciaa", sum := "d01bb13c5e7216bd6b5a3cbd9a0299dee7b9c2766c694aa374d0854aab40c4bc", func := "outstation/outstationlaw08.AlarmTells", spec := "alarmTells", unfollowed := true, recurses := true, apart := false }
def AlarmTellsSaid : Prop := alarmTellsRow.holds Try.pinned (OpenSpec.ofChange alarmTellsSpec)

/-- ITS FALSE NEIGHBOUR: 'it returns false'. Refute it at one input. -/
def alarmTellsWrong : ChangeSpec := { name := "alarmTells", fn := fun _ => fun
  | [d1, d2, d3] => { results := [.lit (.bool false)], args := [d1, d2, d3] }
  | _ => none }
def AlarmTellsWrongFalsely : Prop := alarmTellsRow.holds Try.pinned (OpenSpec.ofChange alarmTellsWrong)

/-- 'outstationlaw08.AlarmInside': WHATEVER THE INPUT: true; the input reads as it did. -/
def alarmInsideSpec : ChangeSpec := { name := "alarmInside", fn := fun _ => fun
  | [d1, d2, d3] => { results := [.lit (.bool true)], args := [d1, d2, d3] }
  | _ => none }
def alarmInsideRow : OpenClaim := { program := "ytlbblddpfijciaa", sum := "d01bb13c5e7216bd6b5a3cbd9a0299dee7b9c2766c694aa374d0854aab40c4bc", func := "outstation/outstationlaw08.AlarmInside", spec := "alarmInside", unfollowed := true, recurses := true, apart := false }
def AlarmInsideSaid : Prop := alarmInsideRow.holds Try.pinned (OpenSpec.ofChange alarmInsideSpec)

/-- ITS FALSE NEIGHBOUR: 'it returns false'. Refute it at one input. -/
def alarmInsideWrong : ChangeSpec := { name := "alarmInside", fn := fun _ => fun
  | [d1, d2, d3] => { results := [.lit (.bool false)], args := [d1, d2, d3] }
  | _ => none }
def AlarmInsideWrongFalsely : Prop := alarmInsideRow.holds Try.pinned (OpenSpec.ofChange alarmInsideWrong)

/-- 'outstationlaw08.AlarmLatched': WHATEVER THE INPUT: true; the input reads as it did. -/
def alarmLatchedSpec : ChangeSpec := { name := "alarmLatched", fn := fun _ => fun
  | [d1, d2] => { results := [.lit (.bool true)], args := [d1, d2] }
  | _ => none }
def alarmLatchedRow : OpenClaim := { program := "ytlbblddpfijciaa", sum := "d01bb13c5e7216bd6b5a3cbd9a0299dee7b9c2766c694aa374d0854aab40c4bc", func := "outstation/outstationlaw08.AlarmLatched", spec := "alarmLatched", unfollowed := true, recurses := true, apart := false }
def AlarmLatchedSaid : Prop := alarmLatchedRow.holds Try.pinned (OpenSpec.ofChange alarmLatchedSpec)

/-- ITS FALSE NEIGHBOUR: 'it returns false'. Refute it at one input. -/
def alarmLatchedWrong : ChangeSpec := { name := "alarmLatched", fn := fun _ => fun
  | [d1, d2] => { results := [.lit (.bool false)], args := [d1, d2] }
  | _ => none }
def AlarmLatchedWrongFalsely : Prop := alarmLatchedRow.holds Try.pinned (OpenSpec.ofChange alarmLatchedWrong)

/-- 'outstationlaw08.AlarmApart': WHATEVER THE INPUT: true; the input reads as it did. -/
def alarmApartSpec : ChangeSpec := { name := "alarmApart", fn := fun _ => fun
  | [d1, d2] => { results := [.lit (.bool true)], args := [d1, d2] }
  | _ => none }
def alarmApartRow : OpenClaim := { program := "ytlbblddpfijciaa", sum := "d01bb13c5e7216bd6b5a3cbd9a0299dee7b9c2766c694aa374d0854aab40c4bc", func := "outstation/outstationlaw08.AlarmApart", spec := "alarmApart", unfollowed := true, recurses := true, apart := false }
def AlarmApartSaid : Prop := alarmApartRow.holds Try.pinned (OpenSpec.ofChange alarmApartSpec)

/-- ITS FALSE NEIGHBOUR: 'it returns false'. Refute it at one input. -/
def alarmApartWrong : ChangeSpec := { name := "alarmApart", fn := fun _ => fun
  | [d1, d2] => { results := [.lit (.bool false)], args := [d1, d2] }
  | _ => none }
def AlarmApartWrongFalsely : Prop := alarmApartRow.holds Try.pinned (OpenSpec.ofChange alarmApartWrong)

/-- 'outstationlaw08.AlarmKnown': WHATEVER THE INPUT: true; the input reads as it did. -/
def alarmKnownSpec : ChangeSpec := { name := "alarmKnown", fn := fun _ => fun
  | [] => { results := [.lit (.bool true)], args := [] }
  | _ => none }
def alarmKnownRow : OpenClaim := { program := "ytlbblddpfijciaa", sum := "d01bb13c5e7216bd6b5a3cbd9a0299dee7b9c2766c694aa374d0854aab40c4bc", func := "outstation/outstationlaw08.AlarmKnown", spec := "alarmKnown", unfollowed := true, recurses := true, apart := false }
def AlarmKnownSaid : Prop := alarmKnownRow.holds Try.pinned (OpenSpec.ofChange alarmKnownSpec)

/-- ITS FALSE NEIGHBOUR: 'it returns false'. Refute it at one input. -/
def alarmKnownWrong : ChangeSpec := { name := "alarmKnown", fn := fun _ => fun
  | [] => { results := [.lit (.bool false)], args := [] }
  | _ => none }
def AlarmKnownWrongFalsely : Prop := alarmKnownRow.holds Try.pinned (OpenSpec.ofChange alarmKnownWrong)

/- THE SECOND FORM. 'bulk': how many values and letters a reading holds, each counted each time it is reached (what is shared counts as often as it is met; a slice's spare places count too). A statement '..UptoSaid' is the law's where the arguments, and the package variables that the reading takes, are together of bulk at most 1048576: NARROWER than '..Said'. Prove '..Said' where nothing that the law and all that it calls make is longer than what came in: it says more and counts as full. Else prove '..UptoSaid'. A law counts once. -/
mutual
def uptoBulk {H : Type} : DataW H → Nat
  | .lit (.string bytes) => bytes.length + 1
  | .lit _ => 1
  | .nil => 1
  | .ptr d => uptoBulk d + 1
  | .slice elems spare => uptoBulkAll elems + uptoBulkAll spare + 1
  | .agg parts => uptoBulkAll parts + 1
  | .iface _ d => uptoBulk d + 1
  | .map entries => uptoBulkEntries entries + 1
  | .held _ => 1
def uptoBulkAll {H : Type} : List (DataW H) → Nat
  | [] => 0
  | d :: r => uptoBulk d + uptoBulkAll r
def uptoBulkEntries {H : Type} : List (Lit × DataW H) → Nat
  | [] => 0
  | x :: r => uptoBulkEntry x + uptoBulkEntries r
def uptoBulkEntry {H : Type} : Lit × DataW H → Nat
  | (.string bytes, d) => bytes.length + uptoBulk d + 1
  | (_, d) => uptoBulk d + 1
 end
def uptoSmall : (H : Type) → List (DataW H) → Bool := fun _ ds => decide (uptoBulkAll ds ≤ 1048576)
def OpenSpec.upto (s : _root_.Go.ChangeSpec) : _root_.Go.OpenSpec := { _root_.Go.OpenSpec.ofChange s with cond := some uptoSmall }

/-- 'outstationlaw08.AlarmSteps', WHERE WHAT IT READS IS OF BULK AT MOST 1048576: true; the input reads as it did. -/
def alarmStepsUptoRow : OpenClaim := { program := "ytlbblddpfijciaa", sum := "d01bb13c5e7216bd6b5a3cbd9a0299dee7b9c2766c694aa374d0854aab40c4bc", func := "outstation/outstationlaw08.AlarmSteps", spec := "alarmSteps", unfollowed := true, recurses := true, apart := false, narrowed := true }
def AlarmStepsUptoSaid : Prop := alarmStepsUptoRow.holds Try.pinned (OpenSpec.upto alarmStepsSpec)

/-- 'outstationlaw08.AlarmRuns', WHERE WHAT IT READS IS OF BULK AT MOST 1048576: true; the input reads as it did. -/
def alarmRunsUptoRow : OpenClaim := { program := "ytlbblddpfijciaa", sum := "d01bb13c5e7216bd6b5a3cbd9a0299dee7b9c2766c694aa374d0854aab40c4bc", func := "outstation/outstationlaw08.AlarmRuns", spec := "alarmRuns", unfollowed := true, recurses := true, apart := false, narrowed := true }
def AlarmRunsUptoSaid : Prop := alarmRunsUptoRow.holds Try.pinned (OpenSpec.upto alarmRunsSpec)

/-- 'outstationlaw08.AlarmTells', WHERE WHAT IT READS IS OF BULK AT MOST 1048576: true; the input reads as it did. -/
def alarmTellsUptoRow : OpenClaim := { program := "ytlbblddpfijciaa", sum := "d01bb13c5e7216bd6b5a3cbd9a0299dee7b9c2766c694aa374d0854aab40c4bc", func := "outstation/outstationlaw08.AlarmTells", spec := "alarmTells", unfollowed := true, recurses := true, apart := false, narrowed := true }
def AlarmTellsUptoSaid : Prop := alarmTellsUptoRow.holds Try.pinned (OpenSpec.upto alarmTellsSpec)

/-- 'outstationlaw08.AlarmInside', WHERE WHAT IT READS IS OF BULK AT MOST 1048576: true; the input reads as it did. -/
def alarmInsideUptoRow : OpenClaim := { program := "ytlbblddpfijciaa", sum := "d01bb13c5e7216bd6b5a3cbd9a0299dee7b9c2766c694aa374d0854aab40c4bc", func := "outstation/outstationlaw08.AlarmInside", spec := "alarmInside", unfollowed := true, recurses := true, apart := false, narrowed := true }
def AlarmInsideUptoSaid : Prop := alarmInsideUptoRow.holds Try.pinned (OpenSpec.upto alarmInsideSpec)

/-- 'outstationlaw08.AlarmLatched', WHERE WHAT IT READS IS OF BULK AT MOST 1048576: true; the input reads as it did. -/
def alarmLatchedUptoRow : OpenClaim := { program := "ytlbblddpfijciaa", sum := "d01bb13c5e7216bd6b5a3cbd9a0299dee7b9c2766c694aa374d0854aab40c4bc", func := "outstation/outstationlaw08.AlarmLatched", spec := "alarmLatched", unfollowed := true, recurses := true, apart := false, narrowed := true }
def AlarmLatchedUptoSaid : Prop := alarmLatchedUptoRow.holds Try.pinned (OpenSpec.upto alarmLatchedSpec)

/-- 'outstationlaw08.AlarmApart', WHERE WHAT IT READS IS OF BULK AT MOST 1048576: true; the input reads as it did. -/
def alarmApartUptoRow : OpenClaim := { program := "ytlbblddpfijciaa", sum := "d01bb13c5e7216bd6b5a3cbd9a0299dee7b9c2766c694aa374d0854aab40c4bc", func := "outstation/outstationlaw08.AlarmApart", spec := "alarmApart", unfollowed := true, recurses := true, apart := false, narrowed := true }
def AlarmApartUptoSaid : Prop := alarmApartUptoRow.holds Try.pinned (OpenSpec.upto alarmApartSpec)

/-- 'outstationlaw08.AlarmKnown', WHERE WHAT IT READS IS OF BULK AT MOST 1048576: true; the input reads as it did. -/
def alarmKnownUptoRow : OpenClaim := { program := "ytlbblddpfijciaa", sum := "d01bb13c5e7216bd6b5a3cbd9a0299dee7b9c2766c694aa374d0854aab40c4bc", func := "outstation/outstationlaw08.AlarmKnown", spec := "alarmKnown", unfollowed := true, recurses := true, apart := false, narrowed := true }
def AlarmKnownUptoSaid : Prop := alarmKnownUptoRow.holds Try.pinned (OpenSpec.upto alarmKnownSpec)

end Rows
end Go.Proofs.Ytlbblddpfijciaa
