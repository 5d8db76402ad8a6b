/-
  Contracts of Get of package pack, of the document's answers to Put and Get, and of what each statement of layer 2 asks.
-/
import Derived.Test.YtaeecoiodkbomaaPkPut
namespace Go.Proofs.Ytaeecoiodkbomaa
open Go.RowKit
set_option linter.unusedVariables false

theorem nth_drop (xs : List Int) (i j : Nat) : nth (xs.drop i) j = nth xs (i + j) := by simp [nth, List.getD_eq_getElem?_getD]
theorem Row.drop {k : IntKind} {w : World} {B b o : Nat} {xs : List Int} (h : Row k w B (some ⟨b, o, none⟩) xs) (i : Nat) : Row k w B (some ⟨b, o + i, none⟩) (xs.drop i) := by
  refine ⟨fun x hx => h.1 x (List.mem_of_mem_drop hx), fun hn => ?_⟩
  have hl : i < xs.length := by rw [List.length_drop] at hn; omega
  obtain ⟨b', o', e, hb, hc⟩ := h.2 (by omega)
  injection e with e
  injection e with e1 e2
  subst e1 e2
  refine ⟨b, o + i, rfl, hb, fun j hj => ?_⟩
  rw [List.length_drop] at hj
  rw [Nat.add_assoc, hc (i + j) (by omega), nth_drop]

/-- A call returns a pair of numbers, and nothing has turned. -/
def Tells (v e : Int) (w : World) (r : Ending) (w' : World) : Prop := r = .returned (.tuple #[.int .u64 v, .int .i64 e]) ∧ w = w'

theorem Get_width (A : Option Addr) (m c : Nat) (a n : Int) (w : World) (h : ¬ (1 ≤ n ∧ n ≤ 8)) :
    Calls Try.prog 19 #[.slice A m c, .int .i64 a, .int .i64 n] w (Tells 0 3 w) := by
  have HW := Lib.hid h
  clear h
  go_enter Try.func19, Try.ntmps19
  go_wp2_with (go_at_call 38; refine (isWidth_no _ HW.out _).mono ?_; rintro e w' ⟨rfl, rfl⟩)
  go_ret2
  exact ⟨rfl, rfl⟩
theorem Get_short (A : Option Addr) (m c : Nat) (a n : Int) (w : World) (hm : m ≤ 140737488355328) (h1 : 1 ≤ n) (h8 : n ≤ 8) (h : a < 0 ∨ (m : Int) - n < a) :
    Calls Try.prog 19 #[.slice A m c, .int .i64 a, .int .i64 n] w (Tells 0 1 w) := by
  by_cases h0 : a < 0
  · clear h
    go_enter Try.func19, Try.ntmps19
    go_wp2_with (go_at_call 38; refine (isWidth_yes _ (by omega) (by omega) _).mono ?_; rintro e w' ⟨rfl, rfl⟩)
    go_ret2
    exact ⟨rfl, rfl⟩
  · have h2 : (m : Int) - n < a := h.resolve_left h0
    clear h
    go_enter Try.func19, Try.ntmps19
    go_wp2_with (go_at_call 38; refine (isWidth_yes _ (by omega) (by omega) _).mono ?_; rintro e w' ⟨rfl, rfl⟩)
    go_ret2
    exact ⟨rfl, rfl⟩
theorem Get_ok (A : Option Addr) (m c a n : Nat) (xs : List Int) (w : World) (B : Nat) (hr : Row .u8 w B A xs) (hx : xs.length = m) (hc : m ≤ c) (hm : m ≤ 140737488355328) (h1 : 1 ≤ n) (h8 : n ≤ 8) (h : a + n ≤ m) :
    Calls Try.prog 19 #[.slice A m c, .int .i64 a, .int .i64 n] w (Tells (bval ((xs.drop a).take n) : Nat) 0 w) := by
  obtain ⟨b, o, rfl, hb1, _⟩ := hr.at_ (i := a) (by omega)
  have hrd := hr.drop a
  have hl : Hid ((xs.drop a).length = m - a) := Lib.hid (by rw [List.length_drop, hx])
  have h3 : ¬ ((m : Int) - n < a) := by omega
  clear hx hr
  go_enter Try.func19, Try.ntmps19
  go_wp2_with (first
    | (go_at_call 38; refine (isWidth_yes _ (by omega) (by omega) _).mono ?_; rintro e w' ⟨rfl, rfl⟩)
    | (go_at_call 44; refine (number_any _ _ _ n (xs.drop a) _ B hrd hl.out (by omega) h8 (by omega)).mono ?_; rintro e w' ⟨rfl, rfl⟩))
  go_ret2
  exact ⟨rfl, rfl⟩

theorem refFits_width (v n : Int) (w : World) (h : ¬ (1 ≤ n ∧ n ≤ 8)) :
    Calls Try.prog 41 #[.int .u64 v, .int .i64 n] w fun e w' => e = .returned (.bool false) ∧ w = w' := by
  by_cases h1 : n < 1
  · clear h
    go_enter Try.func41, Try.ntmps41
    go_wp2
    go_ret
    exact ⟨rfl, rfl⟩
  · have h2 : 8 < n := by omega
    clear h
    go_enter Try.func41, Try.ntmps41
    go_wp2
    go_ret
    exact ⟨rfl, rfl⟩
theorem refFits_any (v n : Nat) (w : World) (h1 : 1 ≤ n) (h8 : n ≤ 8) (hv : v < 18446744073709551616) :
    Calls Try.prog 41 #[.int .u64 v, .int .i64 n] w fun e w' => e = .returned (.bool (decide (v < 256 ^ n))) ∧ w = w' := by
  go_enter Try.func41, Try.ntmps41
  go_wp2
  go_loop [0, 5] (fun t i => ∃ k : Nat, k ≤ n ∧ i = .int .i64 k ∧ t = .int .u64 (v / 256 ^ k : Nat)) (fun _ i => n - (intOf i).toNat)
  case atStart => exact ⟨0, by omega, rfl, by simp⟩
  case round =>
    obtain ⟨k, hk, rfl, rfl⟩ := hrel
    by_cases hlt : k < n
    · have hq := Lib.hid (div_step v k)
      have hv2 : v / 256 ^ k < 18446744073709551616 := Nat.lt_of_le_of_lt (Nat.div_le_self _ _) hv
      generalize v / 256 ^ k = q at *
      go_wp2
      go_round
      case rel => exact ⟨k + 1, by omega, by go_num, by rw [← hq.out]; go_num⟩
      case measure => simp [intOf]; omega
    · obtain rfl : k = n := by omega
      have hd := Lib.hid (div_zero_iff v k)
      generalize v / 256 ^ k = q at *
      go_wp2
      go_ret
      refine ⟨?_, rfl⟩
      show Ending.returned (.bool ((q : Int) == 0)) = _
      congr 2
      rw [Bool.eq_iff_iff]
      simp [← hd.out]

theorem refPut_no (A : Option Addr) (m c : Nat) (v n : Int) (w : World) (h : Calls Try.prog 41 #[.int .u64 v, .int .i64 n] w fun e w' => e = .returned (.bool false) ∧ w = w') :
    Calls Try.prog 15 #[.slice A m c, .int .u64 v, .int .i64 n] w (Errs 3 w) := by
  have HW := Lib.hid h
  clear h
  go_enter Try.func15, Try.ntmps15
  go_wp2_with (go_at_call 41; refine HW.out.mono ?_; rintro e w' ⟨rfl, rfl⟩)
  go_ret2
  exact ⟨rfl, rfl⟩
theorem be_take_step (n v k : Nat) (h : k < n) : (be n v).take (k + 1) = (be n v).take k ++ [((v / 256 ^ (n - 1 - k) % 256 : Nat) : Int)] := by
  rw [take_step _ _ (by rw [be_length]; exact h), be_nth n v k h]
set_option maxHeartbeats 2000000 in
theorem refPut_ok (A : Option Addr) (m c v n : Nat) (xs : List Int) (w : World) (hr : Row .u8 w w.heap.size A xs) (hm : xs.length = m) (hb : m ≤ 140737488351232) (h1 : 1 ≤ n) (h8 : n ≤ 8) (hv : v < 18446744073709551616) (h : v < 256 ^ n) :
    Calls Try.prog 15 #[.slice A m c, .int .u64 v, .int .i64 n] w (Makes2 w (xs ++ be n v)) := by
  have HF := Lib.hid (decide_eq_true h)
  have hm' := Lib.hid hm
  clear h hm
  go_enter Try.func15, Try.ntmps15
  go_wp2_with (go_at_call 41; refine (refFits_any _ _ _ h1 h8 hv).mono ?_; rintro e w' ⟨rfl, rfl⟩; rw [HF.out])
  go_loopw [8, 9] (fun t i wr => ∃ k : Nat, k ≤ m ∧ i = .int .i64 k ∧ Own .u8 5 wr w.heap.size t (xs.take k) ∧ Below w.heap.size w wr) (fun _ i _ => m - (intOf i).toNat)
  case atStart => exact ⟨0, by omega, rfl, Own.nil _ _ _ _, Below.refl _ _⟩
  case round =>
    obtain ⟨k, hk, rfl, hown, hbel⟩ := hrel
    by_cases hlt : k < m
    · obtain ⟨b, o, rfl, hb1, hc1⟩ := (hr.below hbel).at_ (i := k) (by have := hm'.out; omega)
      have hl : Hid ((xs.take k).length = k) := by show _ = _; have := hm'.out; simp; omega
      have hone := Row.one .u8 wr 5 (nth xs k) (hr.wf_at (by have := hm'.out; omega))
      have hsz := hbel.size
      have HT := Lib.hid (take_step xs k (by have := hm'.out; omega))
      go_wp2_with (at_builtin; refine wpList_append_row _ rfl _ _ 22 rfl w.heap.size .u8 5 1 Try.underlying22 info_u8 _ (xs.take k) rfl (hown.alloc _) _ _ 1 1 [nth xs k] rfl hone rfl (by rw [hl.out]; omega) (by rw [hl.out]; simp only [maxLen]; omega) (by simp; omega) ?_; intro v1 w1 hown1 hg1)
      have hbel1 := Below.own1 hbel hsz hown hg1
      rw [← HT.out] at hown1
      clear hone hc1 hg1 hown
      go_wp2
      go_roundw
      case rel => exact ⟨k + 1, by omega, by go_num, hown1, hbel1⟩
      case measure => simp [intOf]; omega
    · have hx : xs.take k = xs := List.take_of_length_le (by have := hm'.out; omega)
      rw [hx] at hown
      clear hx
      go_wp2
      clear hlt hk
      obtain ⟨wo, hwo⟩ : ∃ wo : World, wo = wr := ⟨_, rfl⟩
      subst hwo
      go_loopw [8, 10, 11, 12] (fun t i _ _ wr => ∃ j : Nat, j ≤ n ∧ i = .int .i64 ((n : Int) - 1 - j) ∧ Own .u8 5 wr w.heap.size t (xs ++ (be n v).take j) ∧ Below w.heap.size w wr) (fun _ i _ _ _ => (intOf i + 1).toNat)
      case atStart => exact ⟨0, by omega, by simp, by rw [List.take_zero, List.append_nil]; exact hown, hbel⟩
      case round =>
        clear hown hbel
        obtain ⟨j, hj, rfl, hown, hbel⟩ := hrel
        by_cases hlj : j < n
        · obtain ⟨i, hi⟩ : ∃ i, Hid (n = j + 1 + i) := ⟨n - (j + 1), Lib.hid (by omega)⟩
          have hi8 : i ≤ 7 := by have := hi.out; omega
          have e : (n : Int) - 1 - (j : Int) = (i : Int) := by have := hi.out; omega
          rw [e]
          clear e
          have HB := Lib.hid (be_take_step n v j hlj)
          rw [show n - 1 - j = i by have := hi.out; omega] at HB
          go_wp2
          go_loop [11, 12] (fun t q => ∃ k : Nat, k ≤ i ∧ q = .int .i64 k ∧ t = .int .u64 (v / 256 ^ k : Nat)) (fun _ q => i - (intOf q).toNat)
          case atStart => exact ⟨0, by omega, rfl, by simp⟩
          case round =>
            obtain ⟨k, hk, rfl, rfl⟩ := hrel
            by_cases hlt : k < i
            · have hq := Lib.hid (div_step v k)
              have hv2 : v / 256 ^ k < 18446744073709551616 := Nat.lt_of_le_of_lt (Nat.div_le_self _ _) hv
              generalize v / 256 ^ k = q at *
              go_wp2
              go_round
              case rel => exact ⟨k + 1, by omega, by go_num, by rw [← hq.out]; go_num⟩
              case measure => simp [intOf]; omega
            · obtain rfl : k = i := by omega
              have hv2 : v / 256 ^ k < 18446744073709551616 := Nat.lt_of_le_of_lt (Nat.div_le_self _ _) hv
              generalize v / 256 ^ k = q at *
              have hwr : IntKind.u8.wrap ((q : Int) % 256) = (q : Int) % 256 := by rw [IntKind.wrap_u8]; omega
              have hone := Row.one .u8 wr 5 ((q : Int) % 256) (by have := wf_byte (q % 256) (Nat.mod_lt _ (by omega)); rwa [show ((q % 256 : Nat) : Int) = (q : Int) % 256 by omega] at this)
              rw [show ((q % 256 : Nat) : Int) = (q : Int) % 256 by omega] at HB
              have hl : Hid ((xs ++ (be n v).take j).length = m + j) := Lib.hid (by rw [List.length_append, hm'.out, List.length_take, be_length]; omega)
              have hsz := hbel.size
              go_wp2_with (at_builtin; refine wpList_append_row _ rfl _ _ 22 rfl w.heap.size .u8 5 1 Try.underlying22 info_u8 _ (xs ++ (be n v).take j) rfl (hown.alloc _) _ _ 1 1 [(q : Int) % 256] rfl hone rfl (by rw [hl.out]; omega) (by rw [hl.out]; simp only [maxLen]; omega) (by simp; omega) ?_; intro v1 w1 hown1 hg1)
              have hbel1 := Below.own1 hbel hsz hown hg1
              rw [List.append_assoc, ← HB.out] at hown1
              clear hone hg1 hown
              go_wp2
              go_roundw
              case rel => exact ⟨j + 1, by omega, by have := hi.out; go_num, hown1, hbel1⟩
              case measure => have := hi.out; simp [intOf] <;> omega
        · obtain rfl : j = n := by omega
          rw [List.take_of_length_le (by rw [be_length]; exact Nat.le_refl _)] at hown
          have e : (j : Int) - 1 - (j : Int) = -1 := by omega
          rw [e]
          go_wp2
          go_ret2
          exact ⟨_, rfl, hown, hbel⟩

theorem refGet_width (A : Option Addr) (m c : Nat) (a n : Int) (w : World) (h : ¬ (1 ≤ n ∧ n ≤ 8)) :
    Calls Try.prog 20 #[.slice A m c, .int .i64 a, .int .i64 n] w (Tells 0 3 w) := by
  by_cases h1 : n < 1
  · clear h
    go_enter Try.func20, Try.ntmps20
    go_wp2
    go_ret2
    exact ⟨rfl, rfl⟩
  · have h2 : 8 < n := by omega
    clear h
    go_enter Try.func20, Try.ntmps20
    go_wp2
    go_ret2
    exact ⟨rfl, rfl⟩
theorem refGet_short (A : Option Addr) (m c : Nat) (a n : Int) (w : World) (hm : m ≤ 140737488355328) (h1 : 1 ≤ n) (h8 : n ≤ 8) (h : a < 0 ∨ (m : Int) - n < a) :
    Calls Try.prog 20 #[.slice A m c, .int .i64 a, .int .i64 n] w (Tells 0 1 w) := by
  by_cases h0 : a < 0
  · clear h
    go_enter Try.func20, Try.ntmps20
    go_wp2
    go_ret2
    exact ⟨rfl, rfl⟩
  · by_cases h2 : (m : Int) < a
    · clear h
      go_enter Try.func20, Try.ntmps20
      go_wp2
      go_ret2
      exact ⟨rfl, rfl⟩
    · have h3 : (m : Int) - a < n := by omega
      clear h
      go_enter Try.func20, Try.ntmps20
      go_wp2
      go_ret2
      exact ⟨rfl, rfl⟩
theorem refGet_ok (A : Option Addr) (m c a n : Nat) (xs : List Int) (w : World) (B : Nat) (hr : Row .u8 w B A xs) (hx : xs.length = m) (hm : m ≤ 140737488355328) (h1 : 1 ≤ n) (h8 : n ≤ 8) (h : a + n ≤ m) :
    Calls Try.prog 20 #[.slice A m c, .int .i64 a, .int .i64 n] w (Tells (bval ((xs.drop a).take n) : Nat) 0 w) := by
  have hx' := Lib.hid hx
  clear hx
  have h3 : ¬ ((m : Int) - a < n) := by omega
  have h4 : ¬ ((m : Int) < a) := by omega
  go_enter Try.func20, Try.ntmps20
  go_wp2
  go_loop [8, 9] (fun t i => ∃ k : Nat, k ≤ n ∧ i = .int .i64 k ∧ t = .int .u64 (bval ((xs.drop a).take k) : Nat)) (fun _ i => n - (intOf i).toNat)
  case atStart => exact ⟨0, by omega, rfl, rfl⟩
  case round =>
    obtain ⟨k, hk, rfl, rfl⟩ := hrel
    by_cases hlt : k < n
    · obtain ⟨b, o, rfl, hb1, hc1⟩ := hr.at_ (i := a + k) (by have := hx'.out; omega)
      have hwf := wf_u8 (hr.wf_at (i := a + k) (by have := hx'.out; omega))
      have hl := bval_lt ((xs.drop a).take k) (fun x hx => hr.1 x (List.mem_of_mem_drop (List.mem_of_mem_take hx)))
      rw [show ((xs.drop a).take k).length = k by have := hx'.out; simp; omega] at hl
      have HT := take_step (xs.drop a) k (by have := hx'.out; rw [List.length_drop]; omega)
      rw [nth_drop] at HT
      have HS := Lib.hid (bval_snoc ((xs.drop a).take k) (nth xs (a + k)))
      rw [← HT] at HS
      clear HT
      have hb2 := bval_pow_le (show k ≤ 7 by omega) hl
      generalize bval ((xs.drop a).take k) = q at *
      clear hl
      go_wp2
      go_round
      case rel => exact ⟨k + 1, by omega, by go_num, by rw [HS.out]; congr 1; omega⟩
      case measure => simp [intOf]; omega
    · obtain rfl : k = n := by omega
      go_wp2
      go_ret2
      exact ⟨rfl, rfl⟩

set_option maxHeartbeats 1000000 in
theorem works_yes (w : World) : Calls Try.prog 12 #[] w fun e w' => e = .returned (.bool true) ∧ Below w.heap.size w w' := by
  have hone := Row.one .u8 w 5 9 (by decide)
  have bel0 : Below w.heap.size w (w.alloc (.cells #[.int .u8 9] 5)) := (Below.refl _ _).alloc (Nat.le_refl _) _
  have hsz : (w.alloc (.cells #[.int .u8 9] 5)).heap.size = w.heap.size + 1 := by simp
  rw [← hsz] at hone
  have HS := Lib.hid hsz
  clear hsz
  go_enter Try.func12, Try.ntmps12
  go_wp2_with fail
  refine (Put_ok _ 1 _ 258 2 [9] _ hone rfl (by omega) (by omega) (by omega) (by omega) (by omega)).mono ?_
  rintro e w1 ⟨rfl, hg, bel1⟩
  have bel2 := bel0.trans (bel1.mono bel0.size)
  generalize (w.alloc (.cells #[.int .u8 9] 5)).heap.size = g at *
  have hrow : Row .u8 w1 (g + 1) (some ⟨g, 0, none⟩) [9, 1, 2] := Row.of_block hg _ (by decide) (by decide)
  obtain ⟨b, o, e, _, hc⟩ := hrow.2 (by decide)
  injection e with e
  injection e with e1 e2
  subst e1 e2
  have c0 : w1.cell? ⟨g, 0, none⟩ = some (.int .u8 9) := hc 0 (by decide)
  have c1 : w1.cell? ⟨g, 1, none⟩ = some (.int .u8 1) := hc 1 (by decide)
  have c2 : w1.cell? ⟨g, 2, none⟩ = some (.int .u8 2) := hc 2 (by decide)
  clear hc hg hone
  go_wp2_with fail
  refine (Get_ok _ 3 3 1 2 [9, 1, 2] _ _ hrow rfl (by omega) (by omega) (by omega) (by omega) (by omega)).mono ?_
  rintro e w2 ⟨rfl, rfl⟩
  rw [show bval (([9, 1, 2] : List Int).drop 1 |>.take 2) = 258 by decide]
  go_wp2
  go_ret
  exact ⟨rfl, bel2⟩
end Go.Proofs.Ytaeecoiodkbomaa
