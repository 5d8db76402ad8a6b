/-
  Contracts of the functions of package sums, and of the document's answer to them, at this seat's numbers.
-/
import Derived.Test.YtmbjcmagadekpaaKit
import Derived.Test.YtmbjcmagadekpaaCrc
namespace Go.Proofs.Ytmbjcmagadekpaa
open Go.RowKit

theorem cast_inj {k : IntKind} {a b : Int} (h : a = b) : Ending.returned (.int k a) = .returned (.int k b) := by rw [h]
theorem toNat_u8 {xs : List Int} (h : ∀ x ∈ xs, (Lit.int .u8 x).wf = true) : ∀ x ∈ xs, x.toNat < 256 := fun x hx => by have := wf_u8 (h x hx); omega

theorem and1_16 (r : Nat) (hr : r < 65536) : bits .and .u16 (r : Int) 1 = ((r % 2 : Nat) : Int) := by
  have := u16_and_nat r 1 hr (by omega)
  rw [nat_mask1] at this
  exact this
theorem xor_16 (a b : Nat) (ha : a < 65536) (hb : b < 65536) : bits .xor .u16 (a : Int) (b : Int) = ((a ^^^ b : Nat) : Int) := u16_xor_nat a b ha hb

theorem down_16 (r o : Nat) (hr : r < 65536) (ho : o < 65536) (w : World) :
    Calls Try.prog 144 #[.int .u16 r, .int .u16 o] w fun e w' => e = .returned (.int .u16 (dn o r : Nat)) ∧ w = w' := by
  by_cases h : r % 2 = 1
  · have ht : (bits .and .u16 (r : Int) 1 == 1) = true := by rw [and1_16 r hr, h]; rfl
    have hx : Hid (bits .xor .u16 ((r : Int) / 2) o = ((dn o r : Nat) : Int)) := by
      have := xor_16 (r / 2) o (by omega) ho
      show _ = _
      rw [dn, if_pos h, ← this]; rfl
    clear h
    go_enter Try.func144, Try.ntmps144
    go_wp2
    go_ret
    exact ⟨cast_inj hx.out, rfl⟩
  · have ht : (bits .and .u16 (r : Int) 1 == 1) = false := by rw [and1_16 r hr, show r % 2 = 0 by omega]; rfl
    have hx : Hid ((r : Int) / 2 = ((dn o r : Nat) : Int)) := by
      show _ = _
      rw [dn, if_neg h]; rfl
    clear h
    go_enter Try.func144, Try.ntmps144
    go_wp2
    go_ret
    exact ⟨cast_inj hx.out, rfl⟩

theorem take_16 (r o : Nat) (v : Int) (hr : r < 65536) (ho : o < 65536) (hv : (Lit.int .u8 v).wf = true) (w : World) :
    Calls Try.prog 143 #[.int .u16 r, .int .u16 o, .int .u8 v] w fun e w' => e = .returned (.int .u16 (tk o r v.toNat : Nat)) ∧ w = w' := by
  have hv' := wf_u8 hv
  obtain ⟨v, rfl⟩ := Int.eq_ofNat_of_zero_le hv'.1
  have hv2 : v < 256 := by omega
  have hx := xor_16 r v hr (by omega)
  clear hv hv'
  go_enter Try.func143, Try.ntmps143
  go_wp2
  go_loop [0, 11] (fun t i => ∃ k : Nat, k ≤ 8 ∧ i = .int .i64 k ∧ t = .int .u16 (dnN o k (r ^^^ v) : Nat)) (fun _ i => 8 - (intOf i).toNat)
  case atStart => exact ⟨0, by omega, rfl, rfl⟩
  case round =>
    obtain ⟨k, hk, rfl, rfl⟩ := hrel
    by_cases hlt : k < 8
    · have hb : dnN o k (r ^^^ v) < 65536 := dnN_lt (b := 16) ho (Nat.xor_lt_two_pow hr (by omega)) k
      go_wp2_with (go_at_call 144; refine (down_16 _ _ hb ho _).mono ?_; rintro e w' ⟨rfl, rfl⟩)
      go_round
      case rel => exact ⟨k + 1, by omega, by go_num, rfl⟩
      case measure => simp [intOf]; omega
    · obtain rfl : k = 8 := by omega
      go_wp2
      go_ret
      exact ⟨rfl, rfl⟩

theorem takeAll_16 (r o : Nat) (A : Option Addr) (n c : Nat) (xs : List Int) (hr : r < 65536) (ho : o < 65536) (w : World) (B : Nat) (hx : Row .u8 w B A xs) (hn : xs.length = n) (hm : n ≤ 140737488355328) :
    Calls Try.prog 139 #[.int .u16 r, .int .u16 o, .slice A n c] w fun e w' => e = .returned (.int .u16 (tkAll o r xs : Nat)) ∧ w = w' := by
  go_enter Try.func139, Try.ntmps139
  go_wp2
  go_loop [0, 11] (fun t i => ∃ k : Nat, k ≤ n ∧ i = .int .i64 k ∧ t = .int .u16 (tkAll o r (xs.take k) : Nat)) (fun _ i => n - (intOf i).toNat)
  case atStart => exact ⟨0, by omega, rfl, rfl⟩
  case round =>
    obtain ⟨k, hk, rfl, rfl⟩ := hrel
    by_cases hlt : k < n
    · obtain ⟨b, of, rfl, hb1, hc1⟩ := hx.at_ (i := k) (by omega)
      have hwf := hx.wf_at (i := k) (by omega)
      have hb : tkAll o r (xs.take k) < 65536 := tkAll_lt (b := 16) ho hr (by decide) _ fun x hm => toNat_u8 hx.1 x (List.mem_of_mem_take hm)
      have HS := Lib.hid (tkAll_snoc o r (xs.take k) (nth xs k))
      rw [← take_step xs k (by omega)] at HS
      go_wp2_with (go_at_call 143; refine (take_16 _ _ _ hb ho hwf _).mono ?_; rintro e w' ⟨rfl, rfl⟩)
      go_round
      case rel => exact ⟨k + 1, by omega, by go_num, by rw [HS.out]⟩
      case measure => simp [intOf]; omega
    · have hl : Hid (xs.take k = xs) := List.take_of_length_le (by omega)
      go_wp2
      go_ret
      exact ⟨cast_inj (by rw [hl.out]), rfl⟩

theorem more_16 (r : Nat) (A : Option Addr) (n c : Nat) (xs : List Int) (hr : r < 65536) (w : World) (B : Nat) (hx : Row .u8 w B A xs) (hn : xs.length = n) (hm : n ≤ 140737488355328) :
    Calls Try.prog 132 #[.int .u16 r, .slice A n c] w fun e w' => e = .returned (.int .u16 (tkAll 40961 r xs : Nat)) ∧ w = w' := by
  go_enter Try.func132, Try.ntmps132
  go_wp2_with (go_at_call 139; refine (takeAll_16 r 40961 _ _ _ xs hr (by omega) _ B hx hn hm).mono ?_; rintro e w' ⟨rfl, rfl⟩)
  go_ret
  exact ⟨rfl, rfl⟩
theorem crc_16 (A : Option Addr) (n c : Nat) (xs : List Int) (w : World) (B : Nat) (hx : Row .u8 w B A xs) (hn : xs.length = n) (hm : n ≤ 140737488355328) :
    Calls Try.prog 115 #[.slice A n c] w fun e w' => e = .returned (.int .u16 (tkAll 40961 65535 xs : Nat)) ∧ w = w' := by
  go_enter Try.func115, Try.ntmps115
  go_wp2_with (go_at_call 132; refine (more_16 65535 _ _ _ xs (by omega) _ B hx hn hm).mono ?_; rintro e w' ⟨rfl, rfl⟩)
  go_ret
  exact ⟨rfl, rfl⟩
theorem refMore_16 (r : Nat) (A : Option Addr) (n c : Nat) (xs : List Int) (hr : r < 65536) (w : World) (B : Nat) (hx : Row .u8 w B A xs) (hn : xs.length = n) (hm : n ≤ 140737488355328) :
    Calls Try.prog 133 #[.int .u16 r, .slice A n c] w fun e w' => e = .returned (.int .u16 (tkAll 40961 r xs : Nat)) ∧ w = w' := by
  go_enter Try.func133, Try.ntmps133
  go_wp2
  go_loop [5, 6, 7, 8] (fun t i _ _ => ∃ k : Nat, k ≤ n ∧ i = .int .i64 k ∧ t = .int .u16 (tkAll 40961 r (xs.take k) : Nat)) (fun _ i _ _ => n - (intOf i).toNat)
  case atStart => exact ⟨0, by omega, rfl, rfl⟩
  case round =>
    obtain ⟨k, hk, rfl, rfl⟩ := hrel
    by_cases hlt : k < n
    · obtain ⟨b, of, rfl, hb1, hc1⟩ := hx.at_ (i := k) (by omega)
      have hwf := wf_u8 (hx.wf_at (i := k) (by omega))
      have hb : tkAll 40961 r (xs.take k) < 65536 := tkAll_lt (b := 16) (by decide) hr (by decide) _ fun x hm => toNat_u8 hx.1 x (List.mem_of_mem_take hm)
      have HS := Lib.hid (tkAll_snoc 40961 r (xs.take k) (nth xs k))
      rw [← take_step xs k (by omega)] at HS
      have hv : (nth xs k).toNat < 256 := by omega
      generalize tkAll 40961 r (xs.take k) = q at *
      have hxr := xor_16 q (nth xs k).toNat hb (by omega)
      rw [Int.toNat_of_nonneg hwf.1] at hxr
      go_wp2
      clear hxr
      go_loop [5, 7, 8] (fun t i _ => ∃ j : Nat, j ≤ 8 ∧ i = .int .i64 j ∧ t = .int .u16 (dnN 40961 j (q ^^^ (nth xs k).toNat) : Nat)) (fun _ i _ => 8 - (intOf i).toNat)
      case atStart => exact ⟨0, by omega, rfl, rfl⟩
      case round =>
        obtain ⟨j, hj, rfl, rfl⟩ := hrel
        by_cases hlj : j < 8
        · have hb2 : dnN 40961 j (q ^^^ (nth xs k).toNat) < 65536 := dnN_lt (b := 16) (by decide) (Nat.xor_lt_two_pow hb (by omega)) j
          have HD : Hid (dnN 40961 (j + 1) (q ^^^ (nth xs k).toNat) = dn 40961 (dnN 40961 j (q ^^^ (nth xs k).toNat))) := rfl
          generalize dnN 40961 j (q ^^^ (nth xs k).toNat) = y at *
          by_cases hy : y % 2 = 1
          · have ht : ((y : Int) % 2 == 1) = true := by simp; omega
            have hd : Hid (bits .xor .u16 ((y : Int) / 2) 40961 = ((dn 40961 y : Nat) : Int)) := by
              have := xor_16 (y / 2) 40961 (by omega) (by omega)
              show _ = _
              rw [dn, if_pos hy, ← this]; rfl
            clear hy
            go_wp2
            go_round
            case rel => exact ⟨j + 1, by omega, by go_num, by rw [hd.out, HD.out]⟩
            case measure => simp [intOf]; omega
          · have ht : ((y : Int) % 2 == 1) = false := by simp; omega
            have hd : Hid ((y : Int) / 2 = ((dn 40961 y : Nat) : Int)) := by
              show _ = _
              rw [dn, if_neg hy]; rfl
            clear hy
            go_wp2
            go_round
            case rel => exact ⟨j + 1, by omega, by go_num, by rw [hd.out, HD.out]⟩
            case measure => simp [intOf]; omega
        · obtain rfl : j = 8 := by omega
          go_wp2
          go_round
          case rel => exact ⟨k + 1, by omega, by go_num, by rw [HS.out]; rfl⟩
          case measure => simp [intOf]; omega
    · have hl : Hid (xs.take k = xs) := List.take_of_length_le (by omega)
      go_wp2
      go_ret
      exact ⟨cast_inj (by rw [hl.out]), rfl⟩
theorem refCrc_16 (A : Option Addr) (n c : Nat) (xs : List Int) (w : World) (B : Nat) (hx : Row .u8 w B A xs) (hn : xs.length = n) (hm : n ≤ 140737488355328) :
    Calls Try.prog 117 #[.slice A n c] w fun e w' => e = .returned (.int .u16 (tkAll 40961 65535 xs : Nat)) ∧ w = w' := by
  go_enter Try.func117, Try.ntmps117
  go_wp2_with (go_at_call 133; refine (refMore_16 65535 _ _ _ xs (by omega) _ B hx hn hm).mono ?_; rintro e w' ⟨rfl, rfl⟩)
  go_ret
  exact ⟨rfl, rfl⟩

end Go.Proofs.Ytmbjcmagadekpaa
