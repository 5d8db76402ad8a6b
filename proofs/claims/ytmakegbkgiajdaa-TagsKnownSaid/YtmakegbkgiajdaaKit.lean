/-
  Contracts of the functions of outstationkit that the statements lean on, at this seat's numbers.
-/
import Derived.Test.YtmakegbkgiajdaaRows
import Derived.Test.YtmakegbkgiajdaaPlain
namespace Go.Proofs.Ytmakegbkgiajdaa
open Go.RowKit

theorem info_u8 : (Try.prog.info? 5).map (fun i => (i.zero, i.size, i.bytes)) = some (some (.int .u8 0), 1, 1) := by kernel_rfl

theorem made_zero (z : Int) (n : Nat) : madeCells (Value.int .u8 z).cells (n * 1) = blk .u8 (List.replicate n z) := by
  apply Array.toList_inj.1
  rw [show (Value.int .u8 z).cells = #[Value.int .u8 z] from rfl, toList_madeCells_one, Nat.mul_one]
  simp [blk]

theorem make_u8 (n : Nat) (hn : n ≤ 140737488355328) (W : World) :
    (Instr.makeSlice 48 (.int .i64 (n : Int)) (.int .i64 (n : Int))).run Try.prog W = .ok (.slice (some ⟨W.heap.size, 0, none⟩) n n) (W.alloc (.cells (blk .u8 (List.replicate n 0)) 5)) := by
  obtain ⟨i, hi, hz, hs, hb⟩ := info_parts info_u8
  have h := run_make (P := Try.prog) W 48 5 i (.int .u8 0) Try.underlying48 hi hz .i64 .i64 n n (by omega) (by omega) (by rw [hb]; omega) (by omega)
  rw [h, hs, Int.toNat_natCast, made_zero]

def marks5 : List Int := [165, 165, 165, 165, 165]

end Go.Proofs.Ytmakegbkgiajdaa
