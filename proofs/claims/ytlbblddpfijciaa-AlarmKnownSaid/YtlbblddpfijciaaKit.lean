/-
  Contracts of the functions of outstationkit that the statements lean on, at this seat's numbers.
-/
import Derived.Test.YtlbblddpfijciaaRows
import Derived.Test.YtlbblddpfijciaaPlain
namespace Go.Proofs.Ytlbblddpfijciaa
open Go.RowKit

theorem info_u8 : (Try.prog.info? 5).map (fun i => (i.zero, i.size, i.bytes)) = some (some (.int .u8 0), 1, 1) := by kernel_rfl

theorem made_zero (z : Int) (n : Nat) : madeCells (Value.int .u8 z).cells (n * 1) = blk .u8 (List.replicate n z) := by
  apply Array.toList_inj.1
  rw [show (Value.int .u8 z).cells = #[Value.int .u8 z] from rfl, toList_madeCells_one, Nat.mul_one]
  simp [blk]

def marks5 : List Int := [165, 165, 165, 165, 165]

end Go.Proofs.Ytlbblddpfijciaa
