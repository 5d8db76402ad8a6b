/-
  Contracts of CopyBytes and of the sums of nine digits.
-/
import Derived.Test.YtogjamcefiegaaaOwn
import Derived.Test.YtogjamcefiegaaaSums
import Derived.Lib.SlBytesConst
namespace Go.Proofs.Ytogjamcefiegaaa
open Go.RowKit

/-- A call returns a new slice, its own, that holds xs; nothing that was there has turned. -/
def Makes (k : IntKind) (t : TypeId) (w : World) (xs : List Int) (e : Ending) (w' : World) : Prop := ∃ v, e = .returned v ∧ Own k t w' w.heap.size v xs ∧ Below w.heap.size w w'

set_option maxHeartbeats 400000 in
theorem copy_u8 (A : Option Addr) (n c : Nat) (xs : List Int) (w : World) (hr : Row .u8 w w.heap.size A xs) (hn : xs.length = n) (hb : n ≤ 140737488355328) : 
    Calls Try.prog 30 #[.slice A n c] w (Makes .u8 5 w xs) := by
  go_enter Try.func30, Try.ntmps30
  go_wp2
  go_loopw [3, 4] (fun v i wr => ∃ k : Nat, k ≤ n ∧ i = .int .i64 k ∧ Own .u8 5 wr w.heap.size v (xs.take k) ∧ Below w.heap.size w wr) (fun _ i _ => n - (intOf i).toNat)
  case atStart => exact ⟨0, by omega, rfl, Own.nil _ _ _ _, Below.refl _ _⟩
  case round =>
    obtain ⟨k, hk, rfl, hown, hbel⟩ := hrel
    by_cases hlt : k < n
    · obtain ⟨b, o, rfl, hb1, hc1⟩ := (hr.below hbel).at_ (i := k) (by omega)
      have hl : Hid ((xs.take k).length = k) := by show _ = _; simp; omega
      have hone := Row.one .u8 wr 5 (nth xs k) (hr.wf_at (by omega))
      have hsz := hbel.size
      have HT := Lib.hid (take_step xs k (by omega))
      go_wp2_with (at_builtin; refine wpList_append_row _ rfl _ _ 22 rfl w.heap.size .u8 5 1 Try.underlying22 info_u8 _ (xs.take k) rfl (hown.alloc _) _ _ 1 1 [nth xs k] rfl hone rfl (by rw [hl.out]; omega) (by rw [hl.out]; simp only [maxLen]; omega) (by simp; omega) ?_; intro v1 w1 hown1 hg1)
      have hbel1 := Below.own1 hbel hsz hown hg1
      rw [← HT.out] at hown1
      clear hone hc1 hg1 hown
      go_wp2
      go_roundw
      case rel => exact ⟨k + 1, by omega, by go_num, hown1, hbel1⟩
      case measure => simp [intOf]; omega
    · have hx : xs.take k = xs := List.take_of_length_le (by omega)
      rw [hx] at hown
      clear hx
      go_wp2
      go_ret
      exact ⟨_, rfl, hown, hbel⟩

def digits9 : List Int := [49, 50, 51, 52, 53, 54, 55, 56, 57]
theorem digits16 : tkAll 40961 65535 digits9 = 19255 := by decide +kernel
theorem digits32 : more32 0 digits9 = 3421780262 := by decide +kernel
theorem digits_wf : ∀ x ∈ digits9, (Lit.int .u8 x).wf = true := by decide
theorem digits_row (w : World) (fr : Nat × Nat) : Row .u8 (w.alloc (.cells #[.int .u8 49, .int .u8 50, .int .u8 51, .int .u8 52, .int .u8 53, .int .u8 54, .int .u8 55, .int .u8 56, .int .u8 57] 5 fr)) (w.heap.size + 1) (some ⟨w.heap.size, 0, none⟩) digits9 :=
  Row.of_block (l := digits9) (heap_alloc_new w _) digits9 digits_wf (List.prefix_refl _)

theorem digits_16 (w : World) (B : Nat) (A : Option Addr) (c : Nat) (h : Row .u8 w B A digits9) : Calls Try.prog 10 #[.slice A 9 c] w fun e w' => e = .returned (.int .u16 19255) ∧ w = w' :=
  (crc_16 A 9 c digits9 w B h rfl (by omega)).mono fun _ _ ⟨he, hw⟩ => ⟨by rw [he, digits16]; rfl, hw⟩
theorem digits_32 (w : World) (B : Nat) (A : Option Addr) (c : Nat) (h : Row .u8 w B A digits9) : Calls Try.prog 14 #[.slice A 9 c] w fun e w' => e = .returned (.int .u32 3421780262) ∧ w = w' :=
  (crc_32 A 9 c digits9 w B h rfl (by omega)).mono fun _ _ ⟨he, hw⟩ => ⟨by rw [he, digits32]; rfl, hw⟩

set_option maxHeartbeats 400000 in
theorem known_yes (w : World) : 
    Calls Try.prog 29 #[] w fun e w' => e = .returned (.bool true) ∧ Below w.heap.size w w' := by
  have kc := fun (w : World) (C : Array Value) (n c : Nat) => Lib.run_convert_bytes_const (P := Try.prog) w 22 5 C n c Try.underlying22 Try.underlying5
  go_enter Try.func29, Try.ntmps29
  go_wp2_with fail
  refine (digits_16 _ _ _ _ (digits_row _ _)).mono ?_
  rintro e w' ⟨rfl, rfl⟩
  have hb1 : Below w.heap.size w (w.alloc (.cells #[.int .u8 49, .int .u8 50, .int .u8 51, .int .u8 52, .int .u8 53, .int .u8 54, .int .u8 55, .int .u8 56, .int .u8 57] 5 (9, 10))) := (Below.refl _ _).alloc (Nat.le_refl _) _
  generalize w.alloc (.cells #[.int .u8 49, .int .u8 50, .int .u8 51, .int .u8 52, .int .u8 53, .int .u8 54, .int .u8 55, .int .u8 56, .int .u8 57] 5 (9, 10)) = w1 at *
  go_wp2_with fail
  refine (digits_32 _ _ _ _ (digits_row _ _)).mono ?_
  rintro e w' ⟨rfl, rfl⟩
  go_wp2
  go_ret
  exact ⟨rfl, hb1.alloc hb1.size _⟩
end Go.Proofs.Ytogjamcefiegaaa
