/-
  No cell of these rows narrows 'for every input' (looked for: loops, veiled, ifaces, maps, wideKeys, modest, calm, conditions, laid).
  DERIVED. THE GIVEN ROWS OF THIS SEAT. 7 by the template 'for every input the law returns true; each argument reads behind the call as it read before'; 0 by the template 'total and deterministic' (their statements: YtfdikjfbmfibjaaTotals.lean).
  GIVEN WITH THE SEED: the statements are not yours to turn. If you find one false, say at which input.
  Laid BY PROGRAM, IN A SANDBOX (cutbox-rows.mjs): the forced cells as the released guide's own fill.sh prints them over the translation 6a0997ceb9108545… (all of the seat's roots in one cut). By AI agents, Wed Nov 11 2026. No macro, syntax, notation, axiom, sorry.
-/
import Derived.Test.YtfdikjfbmfibjaaChecked
import GoSem.Claim
import GoSem.ClaimJoined
import GoSem.ClaimMapViews
import Derived.JoinedTies
import Derived.KernelRfl
namespace Go.Proofs.Ytfdikjfbmfibjaa
/- THE CELL 'sum', in the pinned program and in every row, IS THE sha256 OF THE DUMP (.gsa) THAT YtfdikjfbmfibjaaProg.lean LOADS. Nothing in Lean hashes anything: it is a label: what it is worth is what the hold of that sum in a sandbox is worth. -/
noncomputable def Try.pinned : Pinned := { name := "ytfdikjfbmfibjaa", sum := "6a0997ceb91085453591b793c9070d508ae8257244d1f66fb371636b2e2ec9c7", checked := Try.checked }
namespace Rows
def none {H : Type} : Left H := { results := [], args := [] }

/-- 'outstationlaw04.ReplyChecks': WHATEVER THE INPUT: true; the input reads as it did. -/
def replyChecksSpec : ChangeSpec := { name := "replyChecks", fn := fun _ => fun
  | [d1, d2] => { results := [.lit (.bool true)], args := [d1, d2] }
  | _ => none }
def replyChecksRow : OpenClaim := { program := "ytfdikjfbmfibjaa", sum := "6a0997ceb91085453591b793c9070d508ae8257244d1f66fb371636b2e2ec9c7", func := "outstation/outstationlaw04.ReplyChecks", spec := "replyChecks", unfollowed := true, recurses := true, apart := false }
def ReplyChecksSaid : Prop := replyChecksRow.holds Try.pinned (OpenSpec.ofChange replyChecksSpec)

/-- ITS FALSE NEIGHBOUR: 'it returns false'. Refute it at one input. -/
def replyChecksWrong : ChangeSpec := { name := "replyChecks", fn := fun _ => fun
  | [d1, d2] => { results := [.lit (.bool false)], args := [d1, d2] }
  | _ => none }
def ReplyChecksWrongFalsely : Prop := replyChecksRow.holds Try.pinned (OpenSpec.ofChange replyChecksWrong)

/-- 'outstationlaw04.ReplyPuts': WHATEVER THE INPUT: true; the input reads as it did. -/
def replyPutsSpec : ChangeSpec := { name := "replyPuts", fn := fun _ => fun
  | [d1, d2] => { results := [.lit (.bool true)], args := [d1, d2] }
  | _ => none }
def replyPutsRow : OpenClaim := { program := "ytfdikjfbmfibjaa", sum := "6a0997ceb91085453591b793c9070d508ae8257244d1f66fb371636b2e2ec9c7", func := "outstation/outstationlaw04.ReplyPuts", spec := "replyPuts", unfollowed := true, recurses := true, apart := false }
def ReplyPutsSaid : Prop := replyPutsRow.holds Try.pinned (OpenSpec.ofChange replyPutsSpec)

/-- ITS FALSE NEIGHBOUR: 'it returns false'. Refute it at one input. -/
def replyPutsWrong : ChangeSpec := { name := "replyPuts", fn := fun _ => fun
  | [d1, d2] => { results := [.lit (.bool false)], args := [d1, d2] }
  | _ => none }
def ReplyPutsWrongFalsely : Prop := replyPutsRow.holds Try.pinned (OpenSpec.ofChange replyPutsWrong)

/-- 'outstationlaw04.ReplyGets': WHATEVER THE INPUT: true; the input reads as it did. -/
def replyGetsSpec : ChangeSpec := { name := "replyGets", fn := fun _ => fun
  | [d1, d2] => { results := [.lit (.bool true)], args := [d1, d2] }
  | _ => none }
def replyGetsRow : OpenClaim := { program := "ytfdikjfbmfibjaa", sum := "6a0997ceb91085453591b793c9070d508ae8257244d1f66fb371636b2e2ec9c7", func := "outstation/outstationlaw04.ReplyGets", spec := "replyGets", unfollowed := true, recurses := true, apart := false }
def ReplyGetsSaid : Prop := replyGetsRow.holds Try.pinned (OpenSpec.ofChange replyGetsSpec)

/-- ITS FALSE NEIGHBOUR: 'it returns false'. Refute it at one input. -/
def replyGetsWrong : ChangeSpec := { name := "replyGets", fn := fun _ => fun
  | [d1, d2] => { results := [.lit (.bool false)], args := [d1, d2] }
  | _ => none }
def ReplyGetsWrongFalsely : Prop := replyGetsRow.holds Try.pinned (OpenSpec.ofChange replyGetsWrong)

/-- 'outstationlaw04.ReplyBack': WHATEVER THE INPUT: true; the input reads as it did. -/
def replyBackSpec : ChangeSpec := { name := "replyBack", fn := fun _ => fun
  | [d1, d2, d3, d4] => { results := [.lit (.bool true)], args := [d1, d2, d3, d4] }
  | _ => none }
def replyBackRow : OpenClaim := { program := "ytfdikjfbmfibjaa", sum := "6a0997ceb91085453591b793c9070d508ae8257244d1f66fb371636b2e2ec9c7", func := "outstation/outstationlaw04.ReplyBack", spec := "replyBack", unfollowed := true, recurses := true, apart := false }
def ReplyBackSaid : Prop := replyBackRow.holds Try.pinned (OpenSpec.ofChange replyBackSpec)

/-- ITS FALSE NEIGHBOUR: 'it returns false'. Refute it at one input. -/
def replyBackWrong : ChangeSpec := { name := "replyBack", fn := fun _ => fun
  | [d1, d2, d3, d4] => { results := [.lit (.bool false)], args := [d1, d2, d3, d4] }
  | _ => none }
def ReplyBackWrongFalsely : Prop := replyBackRow.holds Try.pinned (OpenSpec.ofChange replyBackWrong)

/-- 'outstationlaw04.ReplyForms': WHATEVER THE INPUT: true; the input reads as it did. -/
def replyFormsSpec : ChangeSpec := { name := "replyForms", fn := fun _ => fun
  | [d1, d2] => { results := [.lit (.bool true)], args := [d1, d2] }
  | _ => none }
def replyFormsRow : OpenClaim := { program := "ytfdikjfbmfibjaa", sum := "6a0997ceb91085453591b793c9070d508ae8257244d1f66fb371636b2e2ec9c7", func := "outstation/outstationlaw04.ReplyForms", spec := "replyForms", unfollowed := true, recurses := true, apart := false }
def ReplyFormsSaid : Prop := replyFormsRow.holds Try.pinned (OpenSpec.ofChange replyFormsSpec)

/-- ITS FALSE NEIGHBOUR: 'it returns false'. Refute it at one input. -/
def replyFormsWrong : ChangeSpec := { name := "replyForms", fn := fun _ => fun
  | [d1, d2] => { results := [.lit (.bool false)], args := [d1, d2] }
  | _ => none }
def ReplyFormsWrongFalsely : Prop := replyFormsRow.holds Try.pinned (OpenSpec.ofChange replyFormsWrong)

/-- 'outstationlaw04.ReplyExceptions': WHATEVER THE INPUT: true; the input reads as it did. -/
def replyExceptionsSpec : ChangeSpec := { name := "replyExceptions", fn := fun _ => fun
  | [d1, d2] => { results := [.lit (.bool true)], args := [d1, d2] }
  | _ => none }
def replyExceptionsRow : OpenClaim := { program := "ytfdikjfbmfibjaa", sum := "6a0997ceb91085453591b793c9070d508ae8257244d1f66fb371636b2e2ec9c7", func := "outstation/outstationlaw04.ReplyExceptions", spec := "replyExceptions", unfollowed := true, recurses := true, apart := false }
def ReplyExceptionsSaid : Prop := replyExceptionsRow.holds Try.pinned (OpenSpec.ofChange replyExceptionsSpec)

/-- ITS FALSE NEIGHBOUR: 'it returns false'. Refute it at one input. -/
def replyExceptionsWrong : ChangeSpec := { name := "replyExceptions", fn := fun _ => fun
  | [d1, d2] => { results := [.lit (.bool false)], args := [d1, d2] }
  | _ => none }
def ReplyExceptionsWrongFalsely : Prop := replyExceptionsRow.holds Try.pinned (OpenSpec.ofChange replyExceptionsWrong)

/-- 'outstationlaw03.AskReads': WHATEVER THE INPUT: true; the input reads as it did. -/
def askReadsSpec : ChangeSpec := { name := "askReads", fn := fun _ => fun
  | [d] => { results := [.lit (.bool true)], args := [d] }
  | _ => none }
def askReadsRow : OpenClaim := { program := "ytfdikjfbmfibjaa", sum := "6a0997ceb91085453591b793c9070d508ae8257244d1f66fb371636b2e2ec9c7", func := "outstation/outstationlaw03.AskReads", spec := "askReads", apart := false }
def AskReadsSaid : Prop := askReadsRow.holds Try.pinned (OpenSpec.ofChange askReadsSpec)

/-- ITS FALSE NEIGHBOUR: 'it returns false'. Refute it at one input. -/
def askReadsWrong : ChangeSpec := { name := "askReads", fn := fun _ => fun
  | [d] => { results := [.lit (.bool false)], args := [d] }
  | _ => none }
def AskReadsWrongFalsely : Prop := askReadsRow.holds Try.pinned (OpenSpec.ofChange askReadsWrong)

/- THE SECOND FORM. 'bulk': how many values and letters a reading holds, each counted each time it is reached (what is shared counts as often as it is met; a slice's spare places count too). A statement '..UptoSaid' is the law's where the arguments, and the package variables that the reading takes, are together of bulk at most 1048576: NARROWER than '..Said'. Prove '..Said' where nothing that the law and all that it calls make is longer than what came in: it says more and counts as full. Else prove '..UptoSaid'. A law counts once. -/
mutual
def uptoBulk {H : Type} : DataW H → Nat
  | .lit (.string bytes) => bytes.length + 1
  | .lit _ => 1
  | .nil => 1
  | .ptr d => uptoBulk d + 1
  | .slice elems spare => uptoBulkAll elems + uptoBulkAll spare + 1
  | .agg parts => uptoBulkAll parts + 1
  | .iface _ d => uptoBulk d + 1
  | .map entries => uptoBulkEntries entries + 1
  | .held _ => 1
def uptoBulkAll {H : Type} : List (DataW H) → Nat
  | [] => 0
  | d :: r => uptoBulk d + uptoBulkAll r
def uptoBulkEntries {H : Type} : List (Lit × DataW H) → Nat
  | [] => 0
  | x :: r => uptoBulkEntry x + uptoBulkEntries r
def uptoBulkEntry {H : Type} : Lit × DataW H → Nat
  | (.string bytes, d) => bytes.length + uptoBulk d + 1
  | (_, d) => uptoBulk d + 1
 end
def uptoSmall : (H : Type) → List (DataW H) → Bool := fun _ ds => decide (uptoBulkAll ds ≤ 1048576)
def OpenSpec.upto (s : _root_.Go.ChangeSpec) : _root_.Go.OpenSpec := { _root_.Go.OpenSpec.ofChange s with cond := some uptoSmall }

/-- 'outstationlaw04.ReplyChecks', WHERE WHAT IT READS IS OF BULK AT MOST 1048576: true; the input reads as it did. -/
def replyChecksUptoRow : OpenClaim := { program := "ytfdikjfbmfibjaa", sum := "6a0997ceb91085453591b793c9070d508ae8257244d1f66fb371636b2e2ec9c7", func := "outstation/outstationlaw04.ReplyChecks", spec := "replyChecks", unfollowed := true, recurses := true, apart := false, narrowed := true }
def ReplyChecksUptoSaid : Prop := replyChecksUptoRow.holds Try.pinned (OpenSpec.upto replyChecksSpec)

/-- 'outstationlaw04.ReplyPuts', WHERE WHAT IT READS IS OF BULK AT MOST 1048576: true; the input reads as it did. -/
def replyPutsUptoRow : OpenClaim := { program := "ytfdikjfbmfibjaa", sum := "6a0997ceb91085453591b793c9070d508ae8257244d1f66fb371636b2e2ec9c7", func := "outstation/outstationlaw04.ReplyPuts", spec := "replyPuts", unfollowed := true, recurses := true, apart := false, narrowed := true }
def ReplyPutsUptoSaid : Prop := replyPutsUptoRow.holds Try.pinned (OpenSpec.upto replyPutsSpec)

/-- 'outstationlaw04.ReplyGets', WHERE WHAT IT READS IS OF BULK AT MOST 1048576: true; the input reads as it did. -/
def replyGetsUptoRow : OpenClaim := { program := "ytfdikjfbmfibjaa", sum := "6a0997ceb91085453591b793c9070d508ae8257244d1f66fb371636b2e2ec9c7", func := "outstation/outstationlaw04.ReplyGets", spec := "replyGets", unfollowed := true, recurses := true, apart := false, narrowed := true }
def ReplyGetsUptoSaid : Prop := replyGetsUptoRow.holds Try.pinned (OpenSpec.upto replyGetsSpec)

/-- 'outstationlaw04.ReplyBack', WHERE WHAT IT READS IS OF BULK AT MOST 1048576: true; the input reads as it did. -/
def replyBackUptoRow : OpenClaim := { program := "ytfdikjfbmfibjaa", sum := "6a0997ceb91085453591b793c9070d508ae8257244d1f66fb371636b2e2ec9c7", func := "outstation/outstationlaw04.ReplyBack", spec := "replyBack", unfollowed := true, recurses := true, apart := false, narrowed := true }
def ReplyBackUptoSaid : Prop := replyBackUptoRow.holds Try.pinned (OpenSpec.upto replyBackSpec)

/-- 'outstationlaw04.ReplyForms', WHERE WHAT IT READS IS OF BULK AT MOST 1048576: true; the input reads as it did. -/
def replyFormsUptoRow : OpenClaim := { program := "ytfdikjfbmfibjaa", sum := "6a0997ceb91085453591b793c9070d508ae8257244d1f66fb371636b2e2ec9c7", func := "outstation/outstationlaw04.ReplyForms", spec := "replyForms", unfollowed := true, recurses := true, apart := false, narrowed := true }
def ReplyFormsUptoSaid : Prop := replyFormsUptoRow.holds Try.pinned (OpenSpec.upto replyFormsSpec)

/-- 'outstationlaw04.ReplyExceptions', WHERE WHAT IT READS IS OF BULK AT MOST 1048576: true; the input reads as it did. -/
def replyExceptionsUptoRow : OpenClaim := { program := "ytfdikjfbmfibjaa", sum := "6a0997ceb91085453591b793c9070d508ae8257244d1f66fb371636b2e2ec9c7", func := "outstation/outstationlaw04.ReplyExceptions", spec := "replyExceptions", unfollowed := true, recurses := true, apart := false, narrowed := true }
def ReplyExceptionsUptoSaid : Prop := replyExceptionsUptoRow.holds Try.pinned (OpenSpec.upto replyExceptionsSpec)

/-- 'outstationlaw03.AskReads', WHERE WHAT IT READS IS OF BULK AT MOST 1048576: true; the input reads as it did. -/
def askReadsUptoRow : OpenClaim := { program := "ytfdikjfbmfibjaa", sum := "6a0997ceb91085453591b793c9070d508ae8257244d1f66fb371636b2e2ec9c7", func := "outstation/outstationlaw03.AskReads", spec := "askReads", apart := false, narrowed := true }
def AskReadsUptoSaid : Prop := askReadsUptoRow.holds Try.pinned (OpenSpec.upto askReadsSpec)

end Rows
end Go.Proofs.Ytfdikjfbmfibjaa
