/-
  No cell of these rows narrows 'for every input' (looked for: loops, veiled, ifaces, maps, wideKeys, modest, calm, conditions, laid).
  DERIVED. THE GIVEN ROWS OF THIS SEAT. 7 by the template 'for every input the law returns true; each argument reads behind the call as it read before'; 0 by the template 'total and deterministic' (their statements: YtooelfmfcihlkaaTotals.lean).
  GIVEN WITH THE SEED: the statements are not yours to turn. If you find one false, say at which input.
  Laid BY PROGRAM, IN A SANDBOX (cutbox-rows.mjs): the forced cells as the released guide's own fill.sh prints them over the translation f2b672f0e3acbd3c… (all of the seat's roots in one cut). By AI agents, Wed Nov 11 2026. No macro, syntax, notation, axiom, sorry.
-/
import Derived.Test.YtooelfmfcihlkaaChecked
import GoSem.Claim
import GoSem.ClaimJoined
import GoSem.ClaimMapViews
import Derived.JoinedTies
import Derived.KernelRfl
namespace Go.Proofs.Ytooelfmfcihlkaa
/- THE CELL 'sum', in the pinned program and in every row, IS THE sha256 OF THE DUMP (.gsa) THAT YtooelfmfcihlkaaProg.lean LOADS. Nothing in Lean hashes anything: it is a label: what it is worth is what the hold of that sum in a sandbox is worth. -/
noncomputable def Try.pinned : Pinned := { name := "ytooelfmfcihlkaa", sum := "f2b672f0e3acbd3c2bf43af141f6c419c0c8900f07107bfff452ecb47f531487", checked := Try.checked }
namespace Rows
def none {H : Type} : Left H := { results := [], args := [] }

/-- 'outstationlaw13.ChunkLays': WHATEVER THE INPUT: true; the input reads as it did. -/
def chunkLaysSpec : ChangeSpec := { name := "chunkLays", fn := fun _ => fun
  | [d] => { results := [.lit (.bool true)], args := [d] }
  | _ => none }
def chunkLaysRow : OpenClaim := { program := "ytooelfmfcihlkaa", sum := "f2b672f0e3acbd3c2bf43af141f6c419c0c8900f07107bfff452ecb47f531487", func := "outstation/outstationlaw13.ChunkLays", spec := "chunkLays", apart := false }
def ChunkLaysSaid : Prop := chunkLaysRow.holds Try.pinned (OpenSpec.ofChange chunkLaysSpec)

/-- ITS FALSE NEIGHBOUR: 'it returns false'. Refute it at one input. -/
def chunkLaysWrong : ChangeSpec := { name := "chunkLays", fn := fun _ => fun
  | [d] => { results := [.lit (.bool false)], args := [d] }
  | _ => none }
def ChunkLaysWrongFalsely : Prop := chunkLaysRow.holds Try.pinned (OpenSpec.ofChange chunkLaysWrong)

/-- 'outstationlaw13.ChunkStays': WHATEVER THE INPUT: true; the input reads as it did. -/
def chunkStaysSpec : ChangeSpec := { name := "chunkStays", fn := fun _ => fun
  | [d] => { results := [.lit (.bool true)], args := [d] }
  | _ => none }
def chunkStaysRow : OpenClaim := { program := "ytooelfmfcihlkaa", sum := "f2b672f0e3acbd3c2bf43af141f6c419c0c8900f07107bfff452ecb47f531487", func := "outstation/outstationlaw13.ChunkStays", spec := "chunkStays", apart := false }
def ChunkStaysSaid : Prop := chunkStaysRow.holds Try.pinned (OpenSpec.ofChange chunkStaysSpec)

/-- ITS FALSE NEIGHBOUR: 'it returns false'. Refute it at one input. -/
def chunkStaysWrong : ChangeSpec := { name := "chunkStays", fn := fun _ => fun
  | [d] => { results := [.lit (.bool false)], args := [d] }
  | _ => none }
def ChunkStaysWrongFalsely : Prop := chunkStaysRow.holds Try.pinned (OpenSpec.ofChange chunkStaysWrong)

/-- 'outstationlaw13.ChunkBack': WHATEVER THE INPUT: true; the input reads as it did. -/
def chunkBackSpec : ChangeSpec := { name := "chunkBack", fn := fun _ => fun
  | [d1, d2] => { results := [.lit (.bool true)], args := [d1, d2] }
  | _ => none }
def chunkBackRow : OpenClaim := { program := "ytooelfmfcihlkaa", sum := "f2b672f0e3acbd3c2bf43af141f6c419c0c8900f07107bfff452ecb47f531487", func := "outstation/outstationlaw13.ChunkBack", spec := "chunkBack", apart := false }
def ChunkBackSaid : Prop := chunkBackRow.holds Try.pinned (OpenSpec.ofChange chunkBackSpec)

/-- ITS FALSE NEIGHBOUR: 'it returns false'. Refute it at one input. -/
def chunkBackWrong : ChangeSpec := { name := "chunkBack", fn := fun _ => fun
  | [d1, d2] => { results := [.lit (.bool false)], args := [d1, d2] }
  | _ => none }
def ChunkBackWrongFalsely : Prop := chunkBackRow.holds Try.pinned (OpenSpec.ofChange chunkBackWrong)

/-- 'outstationlaw13.ChunkCut': WHATEVER THE INPUT: true; the input reads as it did. -/
def chunkCutSpec : ChangeSpec := { name := "chunkCut", fn := fun _ => fun
  | [d1, d2] => { results := [.lit (.bool true)], args := [d1, d2] }
  | _ => none }
def chunkCutRow : OpenClaim := { program := "ytooelfmfcihlkaa", sum := "f2b672f0e3acbd3c2bf43af141f6c419c0c8900f07107bfff452ecb47f531487", func := "outstation/outstationlaw13.ChunkCut", spec := "chunkCut", apart := false }
def ChunkCutSaid : Prop := chunkCutRow.holds Try.pinned (OpenSpec.ofChange chunkCutSpec)

/-- ITS FALSE NEIGHBOUR: 'it returns false'. Refute it at one input. -/
def chunkCutWrong : ChangeSpec := { name := "chunkCut", fn := fun _ => fun
  | [d1, d2] => { results := [.lit (.bool false)], args := [d1, d2] }
  | _ => none }
def ChunkCutWrongFalsely : Prop := chunkCutRow.holds Try.pinned (OpenSpec.ofChange chunkCutWrong)

/-- 'outstationlaw13.ChunkPrefix': WHATEVER THE INPUT: true; the input reads as it did. -/
def chunkPrefixSpec : ChangeSpec := { name := "chunkPrefix", fn := fun _ => fun
  | [d] => { results := [.lit (.bool true)], args := [d] }
  | _ => none }
def chunkPrefixRow : OpenClaim := { program := "ytooelfmfcihlkaa", sum := "f2b672f0e3acbd3c2bf43af141f6c419c0c8900f07107bfff452ecb47f531487", func := "outstation/outstationlaw13.ChunkPrefix", spec := "chunkPrefix", apart := false }
def ChunkPrefixSaid : Prop := chunkPrefixRow.holds Try.pinned (OpenSpec.ofChange chunkPrefixSpec)

/-- ITS FALSE NEIGHBOUR: 'it returns false'. Refute it at one input. -/
def chunkPrefixWrong : ChangeSpec := { name := "chunkPrefix", fn := fun _ => fun
  | [d] => { results := [.lit (.bool false)], args := [d] }
  | _ => none }
def ChunkPrefixWrongFalsely : Prop := chunkPrefixRow.holds Try.pinned (OpenSpec.ofChange chunkPrefixWrong)

/-- 'outstationlaw13.ChunkTurned': WHATEVER THE INPUT: true; the input reads as it did. -/
def chunkTurnedSpec : ChangeSpec := { name := "chunkTurned", fn := fun _ => fun
  | [d1, d2, d3] => { results := [.lit (.bool true)], args := [d1, d2, d3] }
  | _ => none }
def chunkTurnedRow : OpenClaim := { program := "ytooelfmfcihlkaa", sum := "f2b672f0e3acbd3c2bf43af141f6c419c0c8900f07107bfff452ecb47f531487", func := "outstation/outstationlaw13.ChunkTurned", spec := "chunkTurned", apart := false }
def ChunkTurnedSaid : Prop := chunkTurnedRow.holds Try.pinned (OpenSpec.ofChange chunkTurnedSpec)

/-- ITS FALSE NEIGHBOUR: 'it returns false'. Refute it at one input. -/
def chunkTurnedWrong : ChangeSpec := { name := "chunkTurned", fn := fun _ => fun
  | [d1, d2, d3] => { results := [.lit (.bool false)], args := [d1, d2, d3] }
  | _ => none }
def ChunkTurnedWrongFalsely : Prop := chunkTurnedRow.holds Try.pinned (OpenSpec.ofChange chunkTurnedWrong)

/-- 'outstationlaw13.ChunkKnown': WHATEVER THE INPUT: true; the input reads as it did. -/
def chunkKnownSpec : ChangeSpec := { name := "chunkKnown", fn := fun _ => fun
  | [] => { results := [.lit (.bool true)], args := [] }
  | _ => none }
def chunkKnownRow : OpenClaim := { program := "ytooelfmfcihlkaa", sum := "f2b672f0e3acbd3c2bf43af141f6c419c0c8900f07107bfff452ecb47f531487", func := "outstation/outstationlaw13.ChunkKnown", spec := "chunkKnown", apart := false }
def ChunkKnownSaid : Prop := chunkKnownRow.holds Try.pinned (OpenSpec.ofChange chunkKnownSpec)

/-- ITS FALSE NEIGHBOUR: 'it returns false'. Refute it at one input. -/
def chunkKnownWrong : ChangeSpec := { name := "chunkKnown", fn := fun _ => fun
  | [] => { results := [.lit (.bool false)], args := [] }
  | _ => none }
def ChunkKnownWrongFalsely : Prop := chunkKnownRow.holds Try.pinned (OpenSpec.ofChange chunkKnownWrong)

/- THE SECOND FORM. 'bulk': how many values and letters a reading holds, each counted each time it is reached (what is shared counts as often as it is met; a slice's spare places count too). A statement '..UptoSaid' is the law's where the arguments, and the package variables that the reading takes, are together of bulk at most 1048576: NARROWER than '..Said'. Prove '..Said' where nothing that the law and all that it calls make is longer than what came in: it says more and counts as full. Else prove '..UptoSaid'. A law counts once. -/
mutual
def uptoBulk {H : Type} : DataW H → Nat
  | .lit (.string bytes) => bytes.length + 1
  | .lit _ => 1
  | .nil => 1
  | .ptr d => uptoBulk d + 1
  | .slice elems spare => uptoBulkAll elems + uptoBulkAll spare + 1
  | .agg parts => uptoBulkAll parts + 1
  | .iface _ d => uptoBulk d + 1
  | .map entries => uptoBulkEntries entries + 1
  | .held _ => 1
def uptoBulkAll {H : Type} : List (DataW H) → Nat
  | [] => 0
  | d :: r => uptoBulk d + uptoBulkAll r
def uptoBulkEntries {H : Type} : List (Lit × DataW H) → Nat
  | [] => 0
  | x :: r => uptoBulkEntry x + uptoBulkEntries r
def uptoBulkEntry {H : Type} : Lit × DataW H → Nat
  | (.string bytes, d) => bytes.length + uptoBulk d + 1
  | (_, d) => uptoBulk d + 1
 end
def uptoSmall : (H : Type) → List (DataW H) → Bool := fun _ ds => decide (uptoBulkAll ds ≤ 1048576)
def OpenSpec.upto (s : _root_.Go.ChangeSpec) : _root_.Go.OpenSpec := { _root_.Go.OpenSpec.ofChange s with cond := some uptoSmall }

/-- 'outstationlaw13.ChunkLays', WHERE WHAT IT READS IS OF BULK AT MOST 1048576: true; the input reads as it did. -/
def chunkLaysUptoRow : OpenClaim := { program := "ytooelfmfcihlkaa", sum := "f2b672f0e3acbd3c2bf43af141f6c419c0c8900f07107bfff452ecb47f531487", func := "outstation/outstationlaw13.ChunkLays", spec := "chunkLays", apart := false, narrowed := true }
def ChunkLaysUptoSaid : Prop := chunkLaysUptoRow.holds Try.pinned (OpenSpec.upto chunkLaysSpec)

/-- 'outstationlaw13.ChunkStays', WHERE WHAT IT READS IS OF BULK AT MOST 1048576: true; the input reads as it did. -/
def chunkStaysUptoRow : OpenClaim := { program := "ytooelfmfcihlkaa", sum := "f2b672f0e3acbd3c2bf43af141f6c419c0c8900f07107bfff452ecb47f531487", func := "outstation/outstationlaw13.ChunkStays", spec := "chunkStays", apart := false, narrowed := true }
def ChunkStaysUptoSaid : Prop := chunkStaysUptoRow.holds Try.pinned (OpenSpec.upto chunkStaysSpec)

/-- 'outstationlaw13.ChunkBack', WHERE WHAT IT READS IS OF BULK AT MOST 1048576: true; the input reads as it did. -/
def chunkBackUptoRow : OpenClaim := { program := "ytooelfmfcihlkaa", sum := "f2b672f0e3acbd3c2bf43af141f6c419c0c8900f07107bfff452ecb47f531487", func := "outstation/outstationlaw13.ChunkBack", spec := "chunkBack", apart := false, narrowed := true }
def ChunkBackUptoSaid : Prop := chunkBackUptoRow.holds Try.pinned (OpenSpec.upto chunkBackSpec)

/-- 'outstationlaw13.ChunkCut', WHERE WHAT IT READS IS OF BULK AT MOST 1048576: true; the input reads as it did. -/
def chunkCutUptoRow : OpenClaim := { program := "ytooelfmfcihlkaa", sum := "f2b672f0e3acbd3c2bf43af141f6c419c0c8900f07107bfff452ecb47f531487", func := "outstation/outstationlaw13.ChunkCut", spec := "chunkCut", apart := false, narrowed := true }
def ChunkCutUptoSaid : Prop := chunkCutUptoRow.holds Try.pinned (OpenSpec.upto chunkCutSpec)

/-- 'outstationlaw13.ChunkPrefix', WHERE WHAT IT READS IS OF BULK AT MOST 1048576: true; the input reads as it did. -/
def chunkPrefixUptoRow : OpenClaim := { program := "ytooelfmfcihlkaa", sum := "f2b672f0e3acbd3c2bf43af141f6c419c0c8900f07107bfff452ecb47f531487", func := "outstation/outstationlaw13.ChunkPrefix", spec := "chunkPrefix", apart := false, narrowed := true }
def ChunkPrefixUptoSaid : Prop := chunkPrefixUptoRow.holds Try.pinned (OpenSpec.upto chunkPrefixSpec)

/-- 'outstationlaw13.ChunkTurned', WHERE WHAT IT READS IS OF BULK AT MOST 1048576: true; the input reads as it did. -/
def chunkTurnedUptoRow : OpenClaim := { program := "ytooelfmfcihlkaa", sum := "f2b672f0e3acbd3c2bf43af141f6c419c0c8900f07107bfff452ecb47f531487", func := "outstation/outstationlaw13.ChunkTurned", spec := "chunkTurned", apart := false, narrowed := true }
def ChunkTurnedUptoSaid : Prop := chunkTurnedUptoRow.holds Try.pinned (OpenSpec.upto chunkTurnedSpec)

/-- 'outstationlaw13.ChunkKnown', WHERE WHAT IT READS IS OF BULK AT MOST 1048576: true; the input reads as it did. -/
def chunkKnownUptoRow : OpenClaim := { program := "ytooelfmfcihlkaa", sum := "f2b672f0e3acbd3c2bf43af141f6c419c0c8900f07107bfff452ecb47f531487", func := "outstation/outstationlaw13.ChunkKnown", spec := "chunkKnown", apart := false, narrowed := true }
def ChunkKnownUptoSaid : Prop := chunkKnownUptoRow.holds Try.pinned (OpenSpec.upto chunkKnownSpec)

end Rows
end Go.Proofs.Ytooelfmfcihlkaa
