/-
  No cell of these rows narrows 'for every input' (looked for: loops, veiled, ifaces, maps, wideKeys, modest, calm, conditions, laid).
  DERIVED. THE GIVEN ROWS OF THIS SEAT. 7 by the template 'for every input the law returns true; each argument reads behind the call as it read before'; 0 by the template 'total and deterministic' (their statements: YtfclgjdlkcmnfaaTotals.lean).
  GIVEN WITH THE SEED: the statements are not yours to turn. If you find one false, say at which input.
  Laid BY PROGRAM, IN A SANDBOX (cutbox-rows.mjs): the forced cells as the released guide's own fill.sh prints them over the translation f27e5d7ab0b4ae14… (all of the seat's roots in one cut). By AI agents, Wed Nov 11 2026. No macro, syntax, notation, axiom, sorry.
-/
import Derived.Test.YtfclgjdlkcmnfaaChecked
import GoSem.Claim
import GoSem.ClaimJoined
import GoSem.ClaimMapViews
import Derived.JoinedTies
import Derived.KernelRfl
namespace Go.Proofs.Ytfclgjdlkcmnfaa
/- THE CELL 'sum', in the pinned program and in every row, IS THE sha256 OF THE DUMP (.gsa) THAT YtfclgjdlkcmnfaaProg.lean LOADS. Nothing in Lean hashes anything: it is a label: what it is worth is what the hold of that sum in a sandbox is worth. -/
noncomputable def Try.pinned : Pinned := { name := "ytfclgjdlkcmnfaa", sum := "f27e5d7ab0b4ae1457e23d0981aec11cdf2a57fd32fbd41517249e81124e898e", checked := Try.checked }
namespace Rows
def none {H : Type} : Left H := { results := [], args := [] }

/-- 'outstationlaw12.DeviceNews': WHATEVER THE INPUT: true; the input reads as it did. -/
def deviceNewsSpec : ChangeSpec := { name := "deviceNews", fn := fun _ => fun
  | [d1, d2] => { results := [.lit (.bool true)], args := [d1, d2] }
  | _ => none }
def deviceNewsRow : OpenClaim := { program := "ytfclgjdlkcmnfaa", sum := "f27e5d7ab0b4ae1457e23d0981aec11cdf2a57fd32fbd41517249e81124e898e", func := "outstation/outstationlaw12.DeviceNews", spec := "deviceNews", unfollowed := true, recurses := true, apart := false }
def DeviceNewsSaid : Prop := deviceNewsRow.holds Try.pinned (OpenSpec.ofChange deviceNewsSpec)

/-- ITS FALSE NEIGHBOUR: 'it returns false'. Refute it at one input. -/
def deviceNewsWrong : ChangeSpec := { name := "deviceNews", fn := fun _ => fun
  | [d1, d2] => { results := [.lit (.bool false)], args := [d1, d2] }
  | _ => none }
def DeviceNewsWrongFalsely : Prop := deviceNewsRow.holds Try.pinned (OpenSpec.ofChange deviceNewsWrong)

/-- 'outstationlaw12.DeviceRuns': WHATEVER THE INPUT: true; the input reads as it did. -/
def deviceRunsSpec : ChangeSpec := { name := "deviceRuns", fn := fun _ => fun
  | [d1, d2] => { results := [.lit (.bool true)], args := [d1, d2] }
  | _ => none }
def deviceRunsRow : OpenClaim := { program := "ytfclgjdlkcmnfaa", sum := "f27e5d7ab0b4ae1457e23d0981aec11cdf2a57fd32fbd41517249e81124e898e", func := "outstation/outstationlaw12.DeviceRuns", spec := "deviceRuns", unfollowed := true, recurses := true, apart := false }
def DeviceRunsSaid : Prop := deviceRunsRow.holds Try.pinned (OpenSpec.ofChange deviceRunsSpec)

/-- ITS FALSE NEIGHBOUR: 'it returns false'. Refute it at one input. -/
def deviceRunsWrong : ChangeSpec := { name := "deviceRuns", fn := fun _ => fun
  | [d1, d2] => { results := [.lit (.bool false)], args := [d1, d2] }
  | _ => none }
def DeviceRunsWrongFalsely : Prop := deviceRunsRow.holds Try.pinned (OpenSpec.ofChange deviceRunsWrong)

/-- 'outstationlaw12.DeviceLasts': WHATEVER THE INPUT: true; the input reads as it did. -/
def deviceLastsSpec : ChangeSpec := { name := "deviceLasts", fn := fun _ => fun
  | [d1, d2, d3, d4] => { results := [.lit (.bool true)], args := [d1, d2, d3, d4] }
  | _ => none }
def deviceLastsRow : OpenClaim := { program := "ytfclgjdlkcmnfaa", sum := "f27e5d7ab0b4ae1457e23d0981aec11cdf2a57fd32fbd41517249e81124e898e", func := "outstation/outstationlaw12.DeviceLasts", spec := "deviceLasts", unfollowed := true, recurses := true, apart := false }
def DeviceLastsSaid : Prop := deviceLastsRow.holds Try.pinned (OpenSpec.ofChange deviceLastsSpec)

/-- ITS FALSE NEIGHBOUR: 'it returns false'. Refute it at one input. -/
def deviceLastsWrong : ChangeSpec := { name := "deviceLasts", fn := fun _ => fun
  | [d1, d2, d3, d4] => { results := [.lit (.bool false)], args := [d1, d2, d3, d4] }
  | _ => none }
def DeviceLastsWrongFalsely : Prop := deviceLastsRow.holds Try.pinned (OpenSpec.ofChange deviceLastsWrong)

/-- 'outstationlaw12.DeviceFails': WHATEVER THE INPUT: true; the input reads as it did. -/
def deviceFailsSpec : ChangeSpec := { name := "deviceFails", fn := fun _ => fun
  | [d1, d2] => { results := [.lit (.bool true)], args := [d1, d2] }
  | _ => none }
def deviceFailsRow : OpenClaim := { program := "ytfclgjdlkcmnfaa", sum := "f27e5d7ab0b4ae1457e23d0981aec11cdf2a57fd32fbd41517249e81124e898e", func := "outstation/outstationlaw12.DeviceFails", spec := "deviceFails", unfollowed := true, recurses := true, apart := false }
def DeviceFailsSaid : Prop := deviceFailsRow.holds Try.pinned (OpenSpec.ofChange deviceFailsSpec)

/-- ITS FALSE NEIGHBOUR: 'it returns false'. Refute it at one input. -/
def deviceFailsWrong : ChangeSpec := { name := "deviceFails", fn := fun _ => fun
  | [d1, d2] => { results := [.lit (.bool false)], args := [d1, d2] }
  | _ => none }
def DeviceFailsWrongFalsely : Prop := deviceFailsRow.holds Try.pinned (OpenSpec.ofChange deviceFailsWrong)

/-- 'outstationlaw12.DeviceRoom': WHATEVER THE INPUT: true; the input reads as it did. -/
def deviceRoomSpec : ChangeSpec := { name := "deviceRoom", fn := fun _ => fun
  | [d1, d2] => { results := [.lit (.bool true)], args := [d1, d2] }
  | _ => none }
def deviceRoomRow : OpenClaim := { program := "ytfclgjdlkcmnfaa", sum := "f27e5d7ab0b4ae1457e23d0981aec11cdf2a57fd32fbd41517249e81124e898e", func := "outstation/outstationlaw12.DeviceRoom", spec := "deviceRoom", unfollowed := true, recurses := true, apart := false }
def DeviceRoomSaid : Prop := deviceRoomRow.holds Try.pinned (OpenSpec.ofChange deviceRoomSpec)

/-- ITS FALSE NEIGHBOUR: 'it returns false'. Refute it at one input. -/
def deviceRoomWrong : ChangeSpec := { name := "deviceRoom", fn := fun _ => fun
  | [d1, d2] => { results := [.lit (.bool false)], args := [d1, d2] }
  | _ => none }
def DeviceRoomWrongFalsely : Prop := deviceRoomRow.holds Try.pinned (OpenSpec.ofChange deviceRoomWrong)

/-- 'outstationlaw12.DeviceRenamed': WHATEVER THE INPUT: true; the input reads as it did. -/
def deviceRenamedSpec : ChangeSpec := { name := "deviceRenamed", fn := fun _ => fun
  | [d1, d2, d3, d4] => { results := [.lit (.bool true)], args := [d1, d2, d3, d4] }
  | _ => none }
def deviceRenamedRow : OpenClaim := { program := "ytfclgjdlkcmnfaa", sum := "f27e5d7ab0b4ae1457e23d0981aec11cdf2a57fd32fbd41517249e81124e898e", func := "outstation/outstationlaw12.DeviceRenamed", spec := "deviceRenamed", unfollowed := true, recurses := true, apart := false }
def DeviceRenamedSaid : Prop := deviceRenamedRow.holds Try.pinned (OpenSpec.ofChange deviceRenamedSpec)

/-- ITS FALSE NEIGHBOUR: 'it returns false'. Refute it at one input. -/
def deviceRenamedWrong : ChangeSpec := { name := "deviceRenamed", fn := fun _ => fun
  | [d1, d2, d3, d4] => { results := [.lit (.bool false)], args := [d1, d2, d3, d4] }
  | _ => none }
def DeviceRenamedWrongFalsely : Prop := deviceRenamedRow.holds Try.pinned (OpenSpec.ofChange deviceRenamedWrong)

/-- 'outstationlaw12.DeviceKnown': WHATEVER THE INPUT: true; the input reads as it did. -/
def deviceKnownSpec : ChangeSpec := { name := "deviceKnown", fn := fun _ => fun
  | [] => { results := [.lit (.bool true)], args := [] }
  | _ => none }
def deviceKnownRow : OpenClaim := { program := "ytfclgjdlkcmnfaa", sum := "f27e5d7ab0b4ae1457e23d0981aec11cdf2a57fd32fbd41517249e81124e898e", func := "outstation/outstationlaw12.DeviceKnown", spec := "deviceKnown", unfollowed := true, recurses := true, apart := false }
def DeviceKnownSaid : Prop := deviceKnownRow.holds Try.pinned (OpenSpec.ofChange deviceKnownSpec)

/-- ITS FALSE NEIGHBOUR: 'it returns false'. Refute it at one input. -/
def deviceKnownWrong : ChangeSpec := { name := "deviceKnown", fn := fun _ => fun
  | [] => { results := [.lit (.bool false)], args := [] }
  | _ => none }
def DeviceKnownWrongFalsely : Prop := deviceKnownRow.holds Try.pinned (OpenSpec.ofChange deviceKnownWrong)

/- THE SECOND FORM. 'bulk': how many values and letters a reading holds, each counted each time it is reached (what is shared counts as often as it is met; a slice's spare places count too). A statement '..UptoSaid' is the law's where the arguments, and the package variables that the reading takes, are together of bulk at most 1048576: NARROWER than '..Said'. Prove '..Said' where nothing that the law and all that it calls make is longer than what came in: it says more and counts as full. Else prove '..UptoSaid'. A law counts once. -/
mutual
def uptoBulk {H : Type} : DataW H → Nat
  | .lit (.string bytes) => bytes.length + 1
  | .lit _ => 1
  | .nil => 1
  | .ptr d => uptoBulk d + 1
  | .slice elems spare => uptoBulkAll elems + uptoBulkAll spare + 1
  | .agg parts => uptoBulkAll parts + 1
  | .iface _ d => uptoBulk d + 1
  | .map entries => uptoBulkEntries entries + 1
  | .held _ => 1
def uptoBulkAll {H : Type} : List (DataW H) → Nat
  | [] => 0
  | d :: r => uptoBulk d + uptoBulkAll r
def uptoBulkEntries {H : Type} : List (Lit × DataW H) → Nat
  | [] => 0
  | x :: r => uptoBulkEntry x + uptoBulkEntries r
def uptoBulkEntry {H : Type} : Lit × DataW H → Nat
  | (.string bytes, d) => bytes.length + uptoBulk d + 1
  | (_, d) => uptoBulk d + 1
 end
def uptoSmall : (H : Type) → List (DataW H) → Bool := fun _ ds => decide (uptoBulkAll ds ≤ 1048576)
def OpenSpec.upto (s : _root_.Go.ChangeSpec) : _root_.Go.OpenSpec := { _root_.Go.OpenSpec.ofChange s with cond := some uptoSmall }

/-- 'outstationlaw12.DeviceNews', WHERE WHAT IT READS IS OF BULK AT MOST 1048576: true; the input reads as it did. -/
def deviceNewsUptoRow : OpenClaim := { program := "ytfclgjdlkcmnfaa", sum := "f27e5d7ab0b4ae1457e23d0981aec11cdf2a57fd32fbd41517249e81124e898e", func := "outstation/outstationlaw12.DeviceNews", spec := "deviceNews", unfollowed := true, recurses := true, apart := false, narrowed := true }
def DeviceNewsUptoSaid : Prop := deviceNewsUptoRow.holds Try.pinned (OpenSpec.upto deviceNewsSpec)

/-- 'outstationlaw12.DeviceRuns', WHERE WHAT IT READS IS OF BULK AT MOST 1048576: true; the input reads as it did. -/
def deviceRunsUptoRow : OpenClaim := { program := "ytfclgjdlkcmnfaa", sum := "f27e5d7ab0b4ae1457e23d0981aec11cdf2a57fd32fbd41517249e81124e898e", func := "outstation/outstationlaw12.DeviceRuns", spec := "deviceRuns", unfollowed := true, recurses := true, apart := false, narrowed := true }
def DeviceRunsUptoSaid : Prop := deviceRunsUptoRow.holds Try.pinned (OpenSpec.upto deviceRunsSpec)

/-- 'outstationlaw12.DeviceLasts', WHERE WHAT IT READS IS OF BULK AT MOST 1048576: true; the input reads as it did. -/
def deviceLastsUptoRow : OpenClaim := { program := "ytfclgjdlkcmnfaa", sum := "f27e5d7ab0b4ae1457e23d0981aec11cdf2a57fd32fbd41517249e81124e898e", func := "outstation/outstationlaw12.DeviceLasts", spec := "deviceLasts", unfollowed := true, recurses := true, apart := false, narrowed := true }
def DeviceLastsUptoSaid : Prop := deviceLastsUptoRow.holds Try.pinned (OpenSpec.upto deviceLastsSpec)

/-- 'outstationlaw12.DeviceFails', WHERE WHAT IT READS IS OF BULK AT MOST 1048576: true; the input reads as it did. -/
def deviceFailsUptoRow : OpenClaim := { program := "ytfclgjdlkcmnfaa", sum := "f27e5d7ab0b4ae1457e23d0981aec11cdf2a57fd32fbd41517249e81124e898e", func := "outstation/outstationlaw12.DeviceFails", spec := "deviceFails", unfollowed := true, recurses := true, apart := false, narrowed := true }
def DeviceFailsUptoSaid : Prop := deviceFailsUptoRow.holds Try.pinned (OpenSpec.upto deviceFailsSpec)

/-- 'outstationlaw12.DeviceRoom', WHERE WHAT IT READS IS OF BULK AT MOST 1048576: true; the input reads as it did. -/
def deviceRoomUptoRow : OpenClaim := { program := "ytfclgjdlkcmnfaa", sum := "f27e5d7ab0b4ae1457e23d0981aec11cdf2a57fd32fbd41517249e81124e898e", func := "outstation/outstationlaw12.DeviceRoom", spec := "deviceRoom", unfollowed := true, recurses := true, apart := false, narrowed := true }
def DeviceRoomUptoSaid : Prop := deviceRoomUptoRow.holds Try.pinned (OpenSpec.upto deviceRoomSpec)

/-- 'outstationlaw12.DeviceRenamed', WHERE WHAT IT READS IS OF BULK AT MOST 1048576: true; the input reads as it did. -/
def deviceRenamedUptoRow : OpenClaim := { program := "ytfclgjdlkcmnfaa", sum := "f27e5d7ab0b4ae1457e23d0981aec11cdf2a57fd32fbd41517249e81124e898e", func := "outstation/outstationlaw12.DeviceRenamed", spec := "deviceRenamed", unfollowed := true, recurses := true, apart := false, narrowed := true }
def DeviceRenamedUptoSaid : Prop := deviceRenamedUptoRow.holds Try.pinned (OpenSpec.upto deviceRenamedSpec)

/-- 'outstationlaw12.DeviceKnown', WHERE WHAT IT READS IS OF BULK AT MOST 1048576: true; the input reads as it did. -/
def deviceKnownUptoRow : OpenClaim := { program := "ytfclgjdlkcmnfaa", sum := "f27e5d7ab0b4ae1457e23d0981aec11cdf2a57fd32fbd41517249e81124e898e", func := "outstation/outstationlaw12.DeviceKnown", spec := "deviceKnown", unfollowed := true, recurses := true, apart := false, narrowed := true }
def DeviceKnownUptoSaid : Prop := deviceKnownUptoRow.holds Try.pinned (OpenSpec.upto deviceKnownSpec)

end Rows
end Go.Proofs.Ytfclgjdlkcmnfaa
