/-
  The walk of SumsReckon.
-/
import Derived.Test.YtogjamcefiegaaaSums
namespace Go.Proofs.Ytogjamcefiegaaa
open Go.RowKit

theorem wf_u16 {n : Int} (h : (Lit.int .u16 n).wf = true) : 0 ≤ n ∧ n < 65536 := by
  simp [Lit.wf, IntKind.min, IntKind.max, IntKind.signed, IntKind.bits] at h; omega
theorem wf_u32 {n : Int} (h : (Lit.int .u32 n).wf = true) : 0 ≤ n ∧ n < 4294967296 := by
  simp [Lit.wf, IntKind.min, IntKind.max, IntKind.signed, IntKind.bits] at h; omega

set_option maxHeartbeats 400000 in
theorem walk_SumsReckon (a0 : Option Addr) (l0 c0 : Nat) (x0 : List Int) (a1 a2 : Int) (w : World) (w0 : Row .u8 w w.heap.size a0 x0) (n0 : x0.length = l0) (_s0 : l0 ≤ c0) (m0 : c0 ≤ 140737488351232)
    (w1 : (Lit.int .u16 a1).wf = true) (w2 : (Lit.int .u32 a2).wf = true) :
    Calls Try.prog 3 #[.slice a0 l0 c0, .int .u16 a1, .int .u32 a2] w fun e w' => e = .returned (.bool true) ∧ Below w.heap.size w w' := by
  have h1 := wf_u16 w1
  have h2 := wf_u32 w2
  obtain ⟨r1, rfl⟩ := Int.eq_ofNat_of_zero_le h1.1
  obtain ⟨r2, rfl⟩ := Int.eq_ofNat_of_zero_le h2.1
  have hr1 : r1 < 65536 := by omega
  have hr2 : r2 < 4294967296 := by omega
  have hm : l0 ≤ 140737488355328 := by omega
  clear h1 h2 w1 w2
  have hn := Lib.hid n0
  clear n0
  have rowOld := w0.alloc (Nat.le_refl _) (.cells (blk .u8 (x0 ++ marks5)) 5)
  have rowNew := Row.new .u8 w 5 (x0 ++ marks5) x0 w0.1 (List.prefix_append _ _)
  have hblk := heap_alloc_new w (.cells (blk .u8 (x0 ++ marks5)) 5)
  have hbel : Below w.heap.size w (w.alloc (.cells (blk .u8 (x0 ++ marks5)) 5)) := (Below.refl _ _).alloc (Nat.le_refl _) _
  have HB := Lib.hid hblk
  clear hblk
  go_enter Try.func3, Try.ntmps3
  go_wp2_with fail
  refine (lent_u8 _ _ _ x0 _ w0 hn.out (by omega)).mono ?_
  rintro e w' ⟨rfl, rfl⟩
  go_wp2_with (first
    | (go_at_call 10; refine (crc_16 _ _ _ x0 _ _ rowNew hn.out hm).mono ?_; rintro e w' ⟨rfl, rfl⟩)
    | (go_at_call 11; refine (refCrc_16 _ _ _ x0 _ _ rowOld hn.out hm).mono ?_; rintro e w' ⟨rfl, rfl⟩)
    | (go_at_call 12; refine (more_16 _ _ _ _ x0 hr1 _ _ rowNew hn.out hm).mono ?_; rintro e w' ⟨rfl, rfl⟩)
    | (go_at_call 13; refine (refMore_16 _ _ _ _ x0 hr1 _ _ rowOld hn.out hm).mono ?_; rintro e w' ⟨rfl, rfl⟩)
    | (go_at_call 14; refine (crc_32 _ _ _ x0 _ _ rowNew hn.out hm).mono ?_; rintro e w' ⟨rfl, rfl⟩)
    | (go_at_call 15; refine (refCrc_32 _ _ _ x0 _ _ rowOld hn.out hm).mono ?_; rintro e w' ⟨rfl, rfl⟩)
    | (go_at_call 16; refine (more_32 _ _ _ _ x0 hr2 _ _ rowNew hn.out hm).mono ?_; rintro e w' ⟨rfl, rfl⟩)
    | (go_at_call 17; refine (refMore_32 _ _ _ _ x0 hr2 _ _ rowOld hn.out hm).mono ?_; rintro e w' ⟨rfl, rfl⟩)
    | (go_at_call 18; refine (kept_u8 _ _ _ _ x0 _ _ rowOld hn.out (by omega) HB.out).mono ?_; rintro e w' ⟨rfl, mq, rfl⟩))
  go_ret
  exact ⟨rfl, hbel.trans ⟨rfl, rfl, rfl, Nat.le_refl _, fun _ _ => rfl⟩⟩
end Go.Proofs.Ytogjamcefiegaaa
