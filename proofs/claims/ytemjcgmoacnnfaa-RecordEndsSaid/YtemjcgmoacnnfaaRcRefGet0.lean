/-
  The document's reading of layer 11: a number at a place, how long a record is.
-/
import Derived.Test.YtemjcgmoacnnfaaRcRef
import Derived.Test.YtemjcgmoacnnfaaRcRead
namespace Go.Proofs.Ytemjcgmoacnnfaa
open Go.RowKit
set_option linter.unusedVariables false

theorem bval_step (zs : List Int) (k : Nat) (h : k < zs.length) : bval (zs.take (k + 1)) = bval (zs.take k) * 256 + (nth zs k).toNat := by
  rw [take_step zs k h, bval_snoc]
theorem at_any (A : Option Addr) (m c a : Nat) (ys : List Int) (w : World) (B : Nat) (hr : Row .u8 w B A ys) (hm : ys.length = m) (hb : m ≤ 140737488355328) (hc : m ≤ c) (ha : a + 8 ≤ m) :
    Calls Try.prog 39 #[.slice A m c, .int .i64 a] w fun e w' => e = .returned (.int .i64 (n8 ys a)) ∧ w = w' := by
  obtain ⟨b, o, rfl, hbB, _⟩ := hr.at_ (i := 0) (by omega)
  obtain ⟨zs, hz⟩ : ∃ zs, (ys.drop a).take 8 = zs := ⟨_, rfl⟩
  have hzl : zs.length = 8 := by rw [← hz, List.length_take, List.length_drop]; omega
  have hrz : Row .u8 w B (some ⟨b, o + a, none⟩) zs := hz ▸ (hr.drop a).front 8
  have HN : Hid (n8 ys a = wrap64 ((bval zs : Nat) : Int)) := Lib.hid (by unfold n8; rw [hz, IntKind.wrap_i64]; unfold wrap64; rfl)
  rw [HN.out]
  have HZ := Lib.hid hzl
  have HRZ := Lib.hid hrz
  clear hz hr hm HN hzl hrz
  go_enter Try.func39, Try.ntmps39
  go_wp2
  go_loop [5, 6] (fun u i => ∃ k : Nat, k ≤ 8 ∧ i = .int .i64 k ∧ u = .int .u64 (bval (zs.take k) : Nat)) (fun _ i => 8 - (intOf i).toNat)
  case atStart => exact ⟨0, by omega, rfl, rfl⟩
  case round =>
    obtain ⟨k, hk, rfl, rfl⟩ := hrel
    by_cases hlt : k < 8
    · have hs := bval_step zs k (by rw [HZ.out]; exact hlt)
      have hlb := bval_lt (zs.take k) (fun x hx => HRZ.out.1 x (List.mem_of_mem_take hx))
      rw [List.length_take, HZ.out, Nat.min_eq_left (by omega)] at hlb
      have hp : (256 : Nat) ^ k ≤ 256 ^ 7 := Nat.pow_le_pow_right (by omega) (by omega)
      have h7 : (256 : Nat) ^ 7 = 72057594037927936 := by decide
      have hx := wf_u8 (HRZ.out.wf_at (i := k) (by rw [HZ.out]; exact hlt))
      obtain ⟨b', o', hA, _, hcell⟩ := HRZ.out.at_ (i := k) (by rw [HZ.out]; exact hlt)
      injection hA with hA
      injection hA with hA1 hA2
      subst hA1 hA2
      rw [Nat.add_assoc] at hcell
      have HS : Hid (((bval (zs.take (k + 1)) : Nat) : Int) = ((bval (zs.take k) : Nat) : Int) * 256 + nth zs k) := Lib.hid (by rw [hs]; omega)
      generalize nth zs k = x at *
      have hu : bval (zs.take k) < 72057594037927936 := by omega
      generalize bval (zs.take k) = u at *
      have e1 : IntKind.u64.wrap ((u : Int) * 256) = (u : Int) * 256 := by rw [IntKind.wrap_u64]; omega
      have e2 : IntKind.u64.wrap ((u : Int) * 256 + x) = (u : Int) * 256 + x := by rw [IntKind.wrap_u64]; omega
      clear hs hlb hp h7
      go_wp2
      go_round
      case rel => exact ⟨k + 1, by omega, by go_num, by rw [HS.out]⟩
      case measure => simp [intOf]; omega
    · obtain rfl : k = 8 := by omega
      rw [List.take_of_length_le (by rw [HZ.out]; exact Nat.le_refl _)]
      go_wp2
      go_ret
      exact ⟨rfl, rfl⟩

def refLen (ys : List Int) : Int := bif tgK (nth ys 0) && decide (ys.length < 10) then -1 else (lenRc ys : Nat)
theorem length_1 (b o m c : Nat) (ys : List Int) (w : World) (B : Nat) (hr : Row .u8 w B (some ⟨b, o, none⟩) ys) (hm : ys.length = m) (h0 : 0 < m) (hb : m ≤ 140737488355328) (hc : m ≤ c) (hk : nth ys 0 = 1) :
    Calls Try.prog 38 #[.slice (some ⟨b, o, none⟩) m c] w fun e w' => e = .returned (.int .i64 (refLen ys)) ∧ w = w' := by
  obtain ⟨b', o', hA, hb1, hc1⟩ := hr.at_ (i := 0) (by omega)
  injection hA with hA
  injection hA with hA1 hA2
  subst hA1 hA2
  rw [hk, Nat.add_zero] at hc1
  by_cases h10 : m < 10
  · have HL : Hid (refLen ys = -1) := Lib.hid (by unfold refLen; rw [hk, hm, decide_eq_true h10]; rfl)
    rw [HL.out]
    have h11 : (m : Int) < 10 := by omega
    clear hk hm hr HL
    go_enter Try.func38, Try.ntmps38
    go_wp2_with fail
    refine (tagged_any 1 _).mono ?_
    rintro e w' ⟨rfl, rfl⟩
    rw [show tgK 1 = true from rfl]
    go_wp2
    go_ret
    exact ⟨rfl, rfl⟩
  · have hle := tgN_le ys hr.1
    have HL : Hid (refLen ys = ((18 + tgN ys : Nat) : Int)) := Lib.hid (by unfold refLen; rw [hk, hm, decide_eq_false h10, len_1 ys hk]; rfl)
    have h11 : ¬ (m : Int) < 10 := by omega
    have hN9 := wf_u8 (hr.wf_at (i := 9) (by omega))
    have HN : nth ys 9 = (tgN ys : Int) := by unfold tgN; omega
    obtain ⟨b', o', hA, _, hc9⟩ := hr.at_ (i := 9) (by omega)
    injection hA with hA
    injection hA with hA1 hA2
    subst hA1 hA2
    rw [HN] at hc9
    rw [HL.out]
    clear hN9 HN
    generalize tgN ys = N at *
    clear hk hm hr HL
    go_enter Try.func38, Try.ntmps38
    go_wp2_with fail
    refine (tagged_any 1 _).mono ?_
    rintro e w' ⟨rfl, rfl⟩
    rw [show tgK 1 = true from rfl]
    go_wp2_with fail
    refine (named_any 1 _).mono ?_
    rintro e w' ⟨rfl, rfl⟩
    rw [show idK 1 = false from rfl]
    go_wp2_with fail
    refine (valued_any 1 _).mono ?_
    rintro e w' ⟨rfl, rfl⟩
    rw [show vlK 1 = true from rfl]
    go_wp2
    go_ret
    exact ⟨by show Ending.returned (Value.int IntKind.i64 (10 + (N : Int) + 8)) = _; congr 2; omega, rfl⟩
theorem length_2 (b o m c : Nat) (ys : List Int) (w : World) (B : Nat) (hr : Row .u8 w B (some ⟨b, o, none⟩) ys) (hm : ys.length = m) (h0 : 0 < m) (hb : m ≤ 140737488355328) (hc : m ≤ c) (hk : nth ys 0 = 2) :
    Calls Try.prog 38 #[.slice (some ⟨b, o, none⟩) m c] w fun e w' => e = .returned (.int .i64 (refLen ys)) ∧ w = w' := by
  obtain ⟨b', o', hA, hb1, hc1⟩ := hr.at_ (i := 0) (by omega)
  injection hA with hA
  injection hA with hA1 hA2
  subst hA1 hA2
  rw [hk, Nat.add_zero] at hc1
  by_cases h10 : m < 10
  · have HL : Hid (refLen ys = -1) := Lib.hid (by unfold refLen; rw [hk, hm, decide_eq_true h10]; rfl)
    rw [HL.out]
    have h11 : (m : Int) < 10 := by omega
    clear hk hm hr HL
    go_enter Try.func38, Try.ntmps38
    go_wp2_with fail
    refine (tagged_any 2 _).mono ?_
    rintro e w' ⟨rfl, rfl⟩
    rw [show tgK 2 = true from rfl]
    go_wp2
    go_ret
    exact ⟨rfl, rfl⟩
  · have hle := tgN_le ys hr.1
    have HL : Hid (refLen ys = ((18 + tgN ys : Nat) : Int)) := Lib.hid (by unfold refLen; rw [hk, hm, decide_eq_false h10, len_2 ys hk]; rfl)
    have h11 : ¬ (m : Int) < 10 := by omega
    have hN9 := wf_u8 (hr.wf_at (i := 9) (by omega))
    have HN : nth ys 9 = (tgN ys : Int) := by unfold tgN; omega
    obtain ⟨b', o', hA, _, hc9⟩ := hr.at_ (i := 9) (by omega)
    injection hA with hA
    injection hA with hA1 hA2
    subst hA1 hA2
    rw [HN] at hc9
    rw [HL.out]
    clear hN9 HN
    generalize tgN ys = N at *
    clear hk hm hr HL
    go_enter Try.func38, Try.ntmps38
    go_wp2_with fail
    refine (tagged_any 2 _).mono ?_
    rintro e w' ⟨rfl, rfl⟩
    rw [show tgK 2 = true from rfl]
    go_wp2_with fail
    refine (named_any 2 _).mono ?_
    rintro e w' ⟨rfl, rfl⟩
    rw [show idK 2 = false from rfl]
    go_wp2_with fail
    refine (valued_any 2 _).mono ?_
    rintro e w' ⟨rfl, rfl⟩
    rw [show vlK 2 = true from rfl]
    go_wp2
    go_ret
    exact ⟨by show Ending.returned (Value.int IntKind.i64 (10 + (N : Int) + 8)) = _; congr 2; omega, rfl⟩
theorem length_3 (b o m c : Nat) (ys : List Int) (w : World) (B : Nat) (hr : Row .u8 w B (some ⟨b, o, none⟩) ys) (hm : ys.length = m) (h0 : 0 < m) (hb : m ≤ 140737488355328) (hc : m ≤ c) (hk : nth ys 0 = 3) :
    Calls Try.prog 38 #[.slice (some ⟨b, o, none⟩) m c] w fun e w' => e = .returned (.int .i64 (refLen ys)) ∧ w = w' := by
  obtain ⟨b', o', hA, hb1, hc1⟩ := hr.at_ (i := 0) (by omega)
  injection hA with hA
  injection hA with hA1 hA2
  subst hA1 hA2
  rw [hk, Nat.add_zero] at hc1
  have HL : Hid (refLen ys = 17) := Lib.hid (by unfold refLen; rw [hk, len_3 ys hk]; rfl)
  rw [HL.out]
  clear hk hm hr HL
  go_enter Try.func38, Try.ntmps38
  go_wp2_with fail
  refine (tagged_any 3 _).mono ?_
  rintro e w' ⟨rfl, rfl⟩
  rw [show tgK 3 = false from rfl]
  go_wp2_with fail
  refine (named_any 3 _).mono ?_
  rintro e w' ⟨rfl, rfl⟩
  rw [show idK 3 = false from rfl]
  go_wp2_with fail
  refine (valued_any 3 _).mono ?_
  rintro e w' ⟨rfl, rfl⟩
  rw [show vlK 3 = true from rfl]
  go_wp2
  go_ret
  exact ⟨rfl, rfl⟩
theorem length_4 (b o m c : Nat) (ys : List Int) (w : World) (B : Nat) (hr : Row .u8 w B (some ⟨b, o, none⟩) ys) (hm : ys.length = m) (h0 : 0 < m) (hb : m ≤ 140737488355328) (hc : m ≤ c) (hk : nth ys 0 = 4) :
    Calls Try.prog 38 #[.slice (some ⟨b, o, none⟩) m c] w fun e w' => e = .returned (.int .i64 (refLen ys)) ∧ w = w' := by
  obtain ⟨b', o', hA, hb1, hc1⟩ := hr.at_ (i := 0) (by omega)
  injection hA with hA
  injection hA with hA1 hA2
  subst hA1 hA2
  rw [hk, Nat.add_zero] at hc1
  have HL : Hid (refLen ys = 17) := Lib.hid (by unfold refLen; rw [hk, len_4 ys hk]; rfl)
  rw [HL.out]
  clear hk hm hr HL
  go_enter Try.func38, Try.ntmps38
  go_wp2_with fail
  refine (tagged_any 4 _).mono ?_
  rintro e w' ⟨rfl, rfl⟩
  rw [show tgK 4 = false from rfl]
  go_wp2_with fail
  refine (named_any 4 _).mono ?_
  rintro e w' ⟨rfl, rfl⟩
  rw [show idK 4 = false from rfl]
  go_wp2_with fail
  refine (valued_any 4 _).mono ?_
  rintro e w' ⟨rfl, rfl⟩
  rw [show vlK 4 = true from rfl]
  go_wp2
  go_ret
  exact ⟨rfl, rfl⟩
theorem length_5 (b o m c : Nat) (ys : List Int) (w : World) (B : Nat) (hr : Row .u8 w B (some ⟨b, o, none⟩) ys) (hm : ys.length = m) (h0 : 0 < m) (hb : m ≤ 140737488355328) (hc : m ≤ c) (hk : nth ys 0 = 5) :
    Calls Try.prog 38 #[.slice (some ⟨b, o, none⟩) m c] w fun e w' => e = .returned (.int .i64 (refLen ys)) ∧ w = w' := by
  obtain ⟨b', o', hA, hb1, hc1⟩ := hr.at_ (i := 0) (by omega)
  injection hA with hA
  injection hA with hA1 hA2
  subst hA1 hA2
  rw [hk, Nat.add_zero] at hc1
  have HL : Hid (refLen ys = 17) := Lib.hid (by unfold refLen; rw [hk, len_5 ys hk]; rfl)
  rw [HL.out]
  clear hk hm hr HL
  go_enter Try.func38, Try.ntmps38
  go_wp2_with fail
  refine (tagged_any 5 _).mono ?_
  rintro e w' ⟨rfl, rfl⟩
  rw [show tgK 5 = false from rfl]
  go_wp2_with fail
  refine (named_any 5 _).mono ?_
  rintro e w' ⟨rfl, rfl⟩
  rw [show idK 5 = true from rfl]
  go_wp2_with fail
  refine (valued_any 5 _).mono ?_
  rintro e w' ⟨rfl, rfl⟩
  rw [show vlK 5 = false from rfl]
  go_wp2
  go_ret
  exact ⟨rfl, rfl⟩
theorem length_6 (b o m c : Nat) (ys : List Int) (w : World) (B : Nat) (hr : Row .u8 w B (some ⟨b, o, none⟩) ys) (hm : ys.length = m) (h0 : 0 < m) (hb : m ≤ 140737488355328) (hc : m ≤ c) (hk : nth ys 0 = 6) :
    Calls Try.prog 38 #[.slice (some ⟨b, o, none⟩) m c] w fun e w' => e = .returned (.int .i64 (refLen ys)) ∧ w = w' := by
  obtain ⟨b', o', hA, hb1, hc1⟩ := hr.at_ (i := 0) (by omega)
  injection hA with hA
  injection hA with hA1 hA2
  subst hA1 hA2
  rw [hk, Nat.add_zero] at hc1
  have HL : Hid (refLen ys = 25) := Lib.hid (by unfold refLen; rw [hk, len_6 ys hk]; rfl)
  rw [HL.out]
  clear hk hm hr HL
  go_enter Try.func38, Try.ntmps38
  go_wp2_with fail
  refine (tagged_any 6 _).mono ?_
  rintro e w' ⟨rfl, rfl⟩
  rw [show tgK 6 = false from rfl]
  go_wp2_with fail
  refine (named_any 6 _).mono ?_
  rintro e w' ⟨rfl, rfl⟩
  rw [show idK 6 = true from rfl]
  go_wp2_with fail
  refine (valued_any 6 _).mono ?_
  rintro e w' ⟨rfl, rfl⟩
  rw [show vlK 6 = true from rfl]
  go_wp2
  go_ret
  exact ⟨rfl, rfl⟩
theorem length11_any (b o m c : Nat) (ys : List Int) (w : World) (B : Nat) (hr : Row .u8 w B (some ⟨b, o, none⟩) ys) (hm : ys.length = m) (h0 : 0 < m) (hb : m ≤ 140737488355328) (hc : m ≤ c) (hk : betw (nth ys 0) 1 6 = true) :
    Calls Try.prog 38 #[.slice (some ⟨b, o, none⟩) m c] w fun e w' => e = .returned (.int .i64 (refLen ys)) ∧ w = w' := by
  rcases kinds hk with e | e | e | e | e | e
  · exact length_1 b o m c ys w B hr hm h0 hb hc e
  · exact length_2 b o m c ys w B hr hm h0 hb hc e
  · exact length_3 b o m c ys w B hr hm h0 hb hc e
  · exact length_4 b o m c ys w B hr hm h0 hb hc e
  · exact length_5 b o m c ys w B hr hm h0 hb hc e
  · exact length_6 b o m c ys w B hr hm h0 hb hc e
end Go.Proofs.Ytemjcgmoacnnfaa
