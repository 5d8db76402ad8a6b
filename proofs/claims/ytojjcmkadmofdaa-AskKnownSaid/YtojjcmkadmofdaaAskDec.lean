/-
  What bytes say as a request, and contracts of what Get of package ask calls.
-/
import Derived.Test.YtojjcmkadmofdaaAskPuts
import Derived.Test.YtojjcmkadmofdaaPkTake
import Derived.WalkMore
import Derived.Deep.LoopGhost
namespace Go.Proofs.Ytojjcmkadmofdaa
open Go.RowKit
set_option linter.unusedVariables false

/-- The word that stands at a place. -/
def at2 (ys : List Int) (i : Nat) : Int := nth ys i * 256 + nth ys (i + 1)
theorem at2_range (ys : List Int) (hw : ∀ x ∈ ys, (Lit.int .u8 x).wf = true) (i : Nat) (h : i + 2 ≤ ys.length) : 0 ≤ at2 ys i ∧ at2 ys i < 65536 := by
  have h1 := wf_u8 (hw _ (nth_mem ys i (by omega)))
  have h2 := wf_u8 (hw _ (nth_mem ys (i + 1) (by omega)))
  unfold at2; omega
theorem bval_at2 (ys : List Int) (hw : ∀ x ∈ ys, (Lit.int .u8 x).wf = true) (i : Nat) (h : i + 2 ≤ ys.length) : ((bval ((ys.drop i).take 2) : Nat) : Int) = at2 ys i := by
  have h1 := wf_u8 (hw _ (nth_mem ys i (by omega)))
  have h2 := wf_u8 (hw _ (nth_mem ys (i + 1) (by omega)))
  rw [bval_two ys i h, at2]; omega
/-- How many bytes a PDU must have. -/
def szOf (ys : List Int) : Int :=
  if nth ys 0 = 15 ∨ nth ys 0 = 16 then (if ys.length < 6 then 6 else 6 + nth ys 5)
  else if nth ys 0 = 20 then (if ys.length < 2 then 2 else 2 + nth ys 1) else 5
/-- The numbers of the first k parts. -/
def flOf (ys : List Int) : Nat → List Int
  | 0 => []
  | k + 1 => flOf ys k ++ [at2 ys (7 * k + 1), at2 ys (7 * k + 3), at2 ys (7 * k + 5)]
theorem flOf_length (ys : List Int) (k : Nat) : (flOf ys k).length = 3 * k := by
  induction k with
  | zero => rfl
  | succ k ih => rw [flOf, List.length_append, ih]; simp; omega
/-- Do the first k parts begin with their mark? -/
def mkOk (ys : List Int) : Nat → Bool
  | 0 => true
  | k + 1 => mkOk ys k && decide (nth ys (7 * k) = 6)
theorem mkOk_le {ys : List Int} {n : Nat} (h : mkOk ys n = true) : ∀ k, k < n → nth ys (7 * k) = 6 := by
  induction n with
  | zero => intro k hk; omega
  | succ n ih =>
    rw [mkOk, Bool.and_eq_true, decide_eq_true_eq] at h
    intro k hk
    rcases Nat.lt_or_ge k n with h1 | h1
    · exact ih h.1 k h1
    · obtain rfl : k = n := by omega
      exact h.2
theorem mkOk_no {ys : List Int} {n k : Nat} (hk : k < n) (h : nth ys (7 * k) ≠ 6) : mkOk ys n = false := by
  cases hn : mkOk ys n with
  | false => rfl
  | true => exact absurd (mkOk_le hn k hk) h
theorem flOf_wf (ys : List Int) (hw : ∀ x ∈ ys, (Lit.int .u8 x).wf = true) (k : Nat) (h : 7 * k ≤ ys.length) : ∀ x ∈ flOf ys k, 0 ≤ x ∧ x < 65536 := by
  induction k with
  | zero => simp [flOf]
  | succ k ih =>
    intro x hx
    rw [flOf] at hx
    rcases List.mem_append.1 hx with hx | hx
    · exact ih (by omega) x hx
    · simp only [List.mem_cons, List.not_mem_nil, or_false] at hx
      rcases hx with rfl | rfl | rfl <;> exact at2_range ys hw _ (by omega)

theorem wordAt_any (b o n c i : Nat) (ys : List Int) (w : World) (B : Nat) (hr : Row .u8 w B (some ⟨b, o, none⟩) ys) (hn : ys.length = n) (hc : n ≤ c) (hb : n ≤ 100000) (hi : i + 2 ≤ n) :
    Calls Try.prog 73 #[.slice (some ⟨b, o, none⟩) n c, .int .i64 i] w fun e w' => e = .returned (.int .i64 (at2 ys i)) ∧ w = w' := by
  have HB := Lib.hid (bval_at2 ys hr.1 i (by omega))
  have hrg := at2_range ys hr.1 i (by omega)
  have HC := Lib.hid (Get_ok (some ⟨b, o, none⟩) n c i 2 ys w B hr hn hc (by omega) (by omega) (by omega) (by omega))
  rw [show ((2 : Nat) : Int) = 2 from rfl, HB.out] at HC
  generalize at2 ys i = v at *
  have hw1 : IntKind.i64.wrap v = v := IntWalk.i64_in _ (by omega)
  clear hr hn
  go_enter Try.func73, Try.ntmps73
  go_wp2_with fail
  refine HC.out.mono ?_
  rintro e w' ⟨rfl, rfl⟩
  go_wp2
  go_ret
  exact ⟨rfl, rfl⟩

theorem wordAt_at (b o n c i : Nat) (z : Int) (hz : z = i) (ys : List Int) (w : World) (B : Nat) (hr : Row .u8 w B (some ⟨b, o, none⟩) ys) (hn : ys.length = n) (hc : n ≤ c) (hb : n ≤ 100000) (hi : i + 2 ≤ n) :
    Calls Try.prog 73 #[.slice (some ⟨b, o, none⟩) n c, .int .i64 z] w fun e w' => e = .returned (.int .i64 (at2 ys i)) ∧ w = w' := by
  subst hz; exact wordAt_any b o n c i ys w B hr hn hc hb hi

theorem countedSize_short (A : Option Addr) (n c h : Nat) (w : World) (hlt : n < h) (hb : n ≤ 140737488355328) :
    Calls Try.prog 71 #[.slice A n c, .int .i64 h] w fun e w' => e = .returned (.int .i64 h) ∧ w = w' := by
  go_enter Try.func71, Try.ntmps71
  go_wp2
  go_ret
  exact ⟨rfl, rfl⟩
theorem countedSize_long (A : Option Addr) (n c h : Nat) (ys : List Int) (w : World) (B : Nat) (hr : Row .u8 w B A ys) (hn : ys.length = n) (hlt : h + 1 ≤ n) (hb : n ≤ 140737488355328) :
    Calls Try.prog 71 #[.slice A n c, .int .i64 ((h + 1 : Nat) : Int)] w fun e w' => e = .returned (.int .i64 ((h + 1 : Nat) + nth ys h)) ∧ w = w' := by
  obtain ⟨b, o, rfl, _, hc⟩ := hr.at_ (i := h) (by omega)
  have hv := wf_u8 (hr.wf_at (i := h) (by omega))
  have e0 : IntKind.i64.wrap (nth ys h) = nth ys h := IntWalk.i64_in _ (by omega)
  have e1 : ((h + 1 : Nat) : Int) - 1 = (h : Int) := by omega
  have e3 : IntKind.i64.wrap ((h : Int) + 1 - 1) = (h : Int) := by rw [show (h : Int) + 1 - 1 = h by omega]; exact IntWalk.i64_in _ (by omega)
  have e2 : IntKind.i64.wrap ((h : Int) + 1 + nth ys h) = (h : Int) + 1 + nth ys h := IntWalk.i64_in _ (by omega)
  generalize nth ys h = v at *
  clear hr hn e1
  rw [show ((h + 1 : Nat) : Int) = (h : Int) + 1 by omega]
  go_enter Try.func71, Try.ntmps71
  go_wp2
  go_ret
  exact ⟨rfl, rfl⟩

theorem size_any (b o n c : Nat) (ys : List Int) (w : World) (B : Nat) (hr : Row .u8 w B (some ⟨b, o, none⟩) ys) (hn : ys.length = n) (h1 : 1 ≤ n) (hb : n ≤ 140737488355328) :
    Calls Try.prog 50 #[.slice (some ⟨b, o, none⟩) n c] w fun e w' => e = .returned (.int .i64 (szOf ys)) ∧ w = w' := by
  obtain ⟨b', o', hA, _, hc⟩ := hr.at_ (i := 0) (by omega)
  injection hA with hA
  injection hA with hA1 hA2
  subst hA1 hA2
  rw [Nat.add_zero] at hc
  have hv := wf_u8 (hr.wf_at (i := 0) (by omega))
  have HR := Lib.hid hr
  have HN := Lib.hid hn
  obtain ⟨s, hs⟩ : ∃ s, Hid (szOf ys = s) := ⟨_, Lib.hid rfl⟩
  rw [hs.out]
  have hs2 : Hid ((if nth ys 0 = 15 ∨ nth ys 0 = 16 then (if n < 6 then 6 else 6 + nth ys 5) else if nth ys 0 = 20 then (if n < 2 then 2 else 2 + nth ys 1) else 5) = s) := Lib.hid (by rw [← hs.out, ← hn]; rfl)
  have e0 : IntKind.i64.wrap (nth ys 0) = nth ys 0 := IntWalk.i64_in _ (by omega)
  generalize nth ys 0 = v at *
  clear hr hn hs
  by_cases hq : v = 15 ∨ v = 16
  · by_cases h6 : n < 6
    · have hs3 : Hid (s = 6) := Lib.hid (by rw [← hs2.out, if_pos hq, if_pos h6])
      rcases hq with rfl | rfl
      all_goals
        go_enter Try.func50, Try.ntmps50
        go_wp2_with fail
        refine (countedSize_short _ n c 6 _ h6 hb).mono ?_
        rintro e w' ⟨rfl, rfl⟩
        go_wp2
        go_ret
        exact ⟨by rw [hs3.out]; rfl, rfl⟩
    · have hs3 : Hid (s = 6 + nth ys 5) := Lib.hid (by rw [← hs2.out, if_pos hq, if_neg h6])
      rcases hq with rfl | rfl
      all_goals
        go_enter Try.func50, Try.ntmps50
        go_wp2_with fail
        refine (countedSize_long _ n c 5 ys _ B HR.out HN.out (by omega) hb).mono ?_
        rintro e w' ⟨rfl, rfl⟩
        go_wp2
        go_ret
        exact ⟨by rw [hs3.out]; rfl, rfl⟩
  · have t15 : (v == 15) = false := beq_false_of_ne (by omega)
    have t16 : (v == 16) = false := beq_false_of_ne (by omega)
    by_cases h20 : v = 20
    · by_cases h2 : n < 2
      · have hs3 : Hid (s = 2) := Lib.hid (by rw [← hs2.out, if_neg hq, if_pos h20, if_pos h2])
        subst h20
        clear hq
        go_enter Try.func50, Try.ntmps50
        go_wp2_with fail
        refine (countedSize_short _ n c 2 _ h2 hb).mono ?_
        rintro e w' ⟨rfl, rfl⟩
        go_wp2
        go_ret
        exact ⟨by rw [hs3.out]; rfl, rfl⟩
      · have hs3 : Hid (s = 2 + nth ys 1) := Lib.hid (by rw [← hs2.out, if_neg hq, if_pos h20, if_neg h2])
        subst h20
        clear hq
        go_enter Try.func50, Try.ntmps50
        go_wp2_with fail
        refine (countedSize_long _ n c 1 ys _ B HR.out HN.out (by omega) hb).mono ?_
        rintro e w' ⟨rfl, rfl⟩
        go_wp2
        go_ret
        exact ⟨by rw [hs3.out]; rfl, rfl⟩
    · have t20 : (v == 20) = false := beq_false_of_ne h20
      have hs3 : Hid (s = 5) := Lib.hid (by rw [← hs2.out, if_neg hq, if_neg h20])
      clear hq
      go_enter Try.func50, Try.ntmps50
      go_wp2
      go_ret
      exact ⟨by rw [hs3.out]; rfl, rfl⟩

/-- The bit that a word says of a coil. -/
def coilL (m : Int) : List Bool := if m = 65280 then [true] else if m = 0 then [false] else []
theorem readCoil_yes (m : Int) (w : World) (h : m = 65280 ∨ m = 0) :
    Calls Try.prog 74 #[.int .i64 m] w fun e w' => e = .returned (.tuple #[.slice (some ⟨w.heap.size, 0, none⟩) 1 1, .int .i64 0]) ∧ w' = w.alloc (.cells (L.blk () (coilL m)) 4) := by
  rcases h with rfl | rfl
  · have e : L.blk () (coilL 65280) = #[.bool true] := rfl
    rw [e]
    go_enter Try.func74, Try.ntmps74
    go_wp2
    go_ret2
    exact ⟨rfl, rfl⟩
  · have e : L.blk () (coilL 0) = #[.bool false] := rfl
    rw [e]
    go_enter Try.func74, Try.ntmps74
    go_wp2
    go_ret2
    exact ⟨rfl, rfl⟩
theorem readCoil_no (m : Int) (w : World) (h : m ≠ 65280 ∧ m ≠ 0) :
    Calls Try.prog 74 #[.int .i64 m] w (Errs 4 w) := by
  have b1 : (m == 65280) = false := beq_false_of_ne h.1
  have b2 : (m == 0) = false := beq_false_of_ne h.2
  clear h
  go_enter Try.func74, Try.ntmps74
  go_wp2
  go_ret2
  exact ⟨rfl, rfl⟩

/-- Are bytes just n bits? -/
def bitsOk (ys : List Int) (n : Nat) : Bool := decide (ys.length = need n) && !spareB ys n
theorem readBits_yes (A : Option Addr) (m c n : Nat) (ys : List Int) (w : World) (hr : Row .u8 w w.heap.size A ys) (hy : ys.length = m) (hm : m ≤ 1000000) (h : bitsOk ys n = true) :
    Calls Try.prog 75 #[.slice A m c, .int .i64 n] w fun e w' => ∃ g, Hid (w.heap.size = g) ∧ e = .returned (.tuple #[.slice (some ⟨g, 0, none⟩) n n, .int .i64 0]) ∧ L.Bk w' g (unpk ys n) ∧ Below w.heap.size w w' := by
  simp only [bitsOk, Bool.and_eq_true, decide_eq_true_eq, Bool.not_eq_true'] at h
  have HC := Lib.hid (Unbits_ok A m c n ys w hr hy hm (by rw [← hy]; exact h.1) h.2)
  clear hr hy h
  go_enter Try.func75, Try.ntmps75
  go_wp2_with fail
  refine HC.out.mono ?_
  rintro e w' ⟨g, hg, rfl, hb, bel⟩
  go_wp2
  go_ret2
  exact ⟨g, hg, rfl, hb, bel⟩
theorem readBits_no (A : Option Addr) (m c n : Nat) (ys : List Int) (w : World) (hr : Row .u8 w w.heap.size A ys) (hy : ys.length = m) (hm : m ≤ 1000000) (hn : n < 65536) (h : bitsOk ys n = false) :
    Calls Try.prog 75 #[.slice A m c, .int .i64 n] w fun e w' => e = .returned (.tuple #[.slice none 0 0, .int .i64 4]) ∧ Below w.heap.size w w' := by
  have HC : Hid (∃ E : Int, (1 ≤ E ∧ E ≤ 100) ∧ Calls Try.prog 82 #[.slice A m c, .int .i64 n] w fun e w' => e = .returned (.tuple #[.slice none 0 0, .int .i64 E]) ∧ Below w.heap.size w w') := Lib.hid (by
    by_cases h2 : ys.length = need n
    · rw [bitsOk, decide_eq_true h2, Bool.true_and] at h
      exact ⟨4, by omega, (Unbits_spare A m c n ys w _ hr hy hm (by rw [← hy]; exact h2) (by simpa using h)).mono fun e w' ⟨he, q, hw⟩ => by subst hw; exact ⟨he, bel_drewN _ _⟩⟩
    · exact ⟨22, by omega, (Unbits_count A m c n w (by omega) hm (by rw [← hy]; exact h2)).mono fun e w' ⟨he, hw⟩ => by subst hw; exact ⟨he, Below.refl _ _⟩⟩)
  obtain ⟨E, hE, HC⟩ := HC.out
  have HC := Lib.hid HC
  have b1 : (E != 0) = true := by simp; omega
  have b2 : (E == 0) = false := beq_false_of_ne (by omega)
  clear hr hy h hE
  go_enter Try.func75, Try.ntmps75
  go_wp2_with fail
  refine HC.out.mono ?_
  rintro e w' ⟨rfl, bel⟩
  go_wp2
  go_ret2
  exact ⟨rfl, bel⟩

theorem readWords_yes (A : Option Addr) (m c n : Nat) (ys : List Int) (w : World) (hr : Row .u8 w w.heap.size A ys) (hy : ys.length = m) (hc : m ≤ c) (hm : m ≤ 1000000) (h : m = 2 * n) :
    Calls Try.prog 76 #[.slice A m c, .int .i64 n] w fun e w' => e = .returned (.tuple #[.slice (some ⟨w.heap.size, 0, none⟩) n n, .int .i64 0]) ∧ w' = w.alloc (.cells (blk .u16 (wwords ys)) 45) := by
  have HC := Lib.hid (Words_ok A m c n ys w hr hy hc hm h)
  have t0 : ((n : Int) != (n : Int)) = false := by simp
  clear hr hy h
  go_enter Try.func76, Try.ntmps76
  go_wp2_with fail
  refine HC.out.mono ?_
  rintro e w' ⟨rfl, rfl⟩
  go_wp2
  go_ret2
  exact ⟨rfl, rfl⟩
theorem readWords_no (A : Option Addr) (m c n : Nat) (ys : List Int) (w : World) (hr : Row .u8 w w.heap.size A ys) (hy : ys.length = m) (hc : m ≤ c) (hm : m ≤ 1000000) (h : m ≠ 2 * n) :
    Calls Try.prog 76 #[.slice A m c, .int .i64 n] w fun e w' => e = .returned (.tuple #[.slice none 0 0, .int .i64 4]) ∧ Below w.heap.size w w' := by
  by_cases h2 : m % 2 = 1
  · have HC := Lib.hid (Words_odd A m c w hm h2)
    clear hr hy h h2
    go_enter Try.func76, Try.ntmps76
    go_wp2_with fail
    refine HC.out.mono ?_
    rintro e w' ⟨rfl, rfl⟩
    go_wp2
    go_ret2
    exact ⟨rfl, Below.refl _ _⟩
  · obtain ⟨k, hk⟩ : ∃ k, m = 2 * k := ⟨m / 2, by omega⟩
    have HC := Lib.hid (Words_ok A m c k ys w hr hy hc hm hk)
    have t0 : ((k : Int) != (n : Int)) = true := by simp; omega
    have t1 : ((k : Int) == (n : Int)) = false := beq_false_of_ne (by omega)
    clear hr hy h h2 hk
    go_enter Try.func76, Try.ntmps76
    go_wp2_with fail
    refine HC.out.mono ?_
    rintro e w' ⟨rfl, rfl⟩
    go_wp2
    go_ret2
    exact ⟨rfl, bel_alloc _ _⟩

/-- Are bytes just parts? -/
def partsOk (ys : List Int) : Bool := decide (ys.length % 7 = 0) && mkOk ys (ys.length / 7)
theorem readParts_mod (A : Option Addr) (m c : Nat) (w : World) (hm : m ≤ 1000000) (h : m % 7 ≠ 0) :
    Calls Try.prog 72 #[.slice A m c] w (Errs 4 w) := by
  have t0 : ((m : Int) % 7 != 0) = true := by simp; omega
  have t1 : ((m : Int) % 7 == 0) = false := beq_false_of_ne (by omega)
  clear h
  go_enter Try.func72, Try.ntmps72
  go_wp2
  go_step3
  go_wp2
  (try rw [Exit.noGoto_ret])
  go_ret2
  exact ⟨rfl, rfl⟩
/-- Parts are told, or it is said that there are none. -/
def PartsPost (w : World) (ys : List Int) (m : Nat) (e : Ending) (w' : World) : Prop :=
  (mkOk ys m = true ∧ ∃ v, e = .returned (.tuple #[v, .int .i64 0]) ∧ POwn 47 w' w.heap.size v (flOf ys m) ∧ Below w.heap.size w w') ∨
  (mkOk ys m = false ∧ e = .returned (.tuple #[.slice none 0 0, .int .i64 4]) ∧ Below w.heap.size w w')
set_option maxHeartbeats 1000000 in
theorem readParts_loop (A : Option Addr) (m c : Nat) (ys : List Int) (w : World) (hr : Row .u8 w w.heap.size A ys) (hy : ys.length = 7 * m) (hc : 7 * m ≤ c) (hm : m ≤ 1000) :
    Calls Try.prog 72 #[.slice A (7 * m) c] w (PartsPost w ys m) := by
  have hy' := Lib.hid hy
  have t0 : ((7 * (m : Int)) % 7 != 0) = false := by simp
  have t1 : ((7 * (m : Int)) % 7 == 0) = true := by simp
  have hcast : ((7 * m : Nat) : Int) = 7 * (m : Int) := by omega
  clear hy
  go_enter Try.func72, Try.ntmps72
  go_wp2
  go_step3
  go_wp2
  go_step3
  go_wp2
  go_loopw [4, 5] (fun v i wr => ∃ k : Nat, k ≤ m ∧ i = .int .i64 (7 * (k : Int)) ∧ POwn 47 wr w.heap.size v (flOf ys k) ∧ Hid (mkOk ys k = true) ∧ Below w.heap.size w wr) (fun _ i _ => 7 * m - (intOf i).toNat)
  case atStart => exact ⟨0, by omega, rfl, POwn.nil _ _ _, Lib.hid rfl, Below.refl _ _⟩
  case round =>
    obtain ⟨k, hk, rfl, hown, hok, hbel⟩ := hrel
    by_cases hlt : k < m
    · have hlt' : 7 * (k : Int) < 7 * (m : Int) := by omega
      have hrw := (hr.below hbel).more hbel.size
      obtain ⟨b, o, hA, hb1, hc1⟩ := hrw.at_ (i := 7 * k) (by have := hy'.out; omega)
      subst hA
      have hsz := hbel.size
      by_cases h6 : nth ys (7 * k) = 6
      · rw [h6] at hc1
        have HM : Hid (mkOk ys (k + 1) = true) := Lib.hid (by rw [mkOk, hok.out, decide_eq_true h6]; rfl)
        have HF : Hid (flOf ys (k + 1) = flOf ys k ++ [at2 ys (7 * k + 1), at2 ys (7 * k + 3), at2 ys (7 * k + 5)]) := Lib.hid rfl
        have HL : Hid ((flOf ys k).length ≤ 3000000) := Lib.hid (by rw [flOf_length]; omega)
        clear h6
        go_wp2_with fail
        refine (wordAt_at b o (7 * m) c (7 * k + 1) _ (by omega) ys _ _ hrw hy'.out hc (by omega) (by omega)).mono ?_
        rintro e w' ⟨rfl, rfl⟩
        go_wp2_with fail
        refine (wordAt_at b o (7 * m) c (7 * k + 3) _ (by omega) ys _ _ hrw hy'.out hc (by omega) (by omega)).mono ?_
        rintro e w' ⟨rfl, rfl⟩
        go_wp2_with fail
        refine (wordAt_at b o (7 * m) c (7 * k + 5) _ (by omega) ys _ _ hrw hy'.out hc (by omega) (by omega)).mono ?_
        rintro e w' ⟨rfl, rfl⟩
        generalize at2 ys (7 * k + 1) = x at *
        generalize at2 ys (7 * k + 3) = y at *
        generalize at2 ys (7 * k + 5) = z at *
        have hbox := box_three wr 47 x y z
        go_wp2_with (at_builtin; refine wpList_append_part _ rfl _ _ 24 rfl w.heap.size 47 Try.underlying24 info_part _ (flOf ys k) rfl (hown.alloc _) _ 1 _ _ _ rfl hbox HL.out (by simp; omega) ?_; intro v1 w1 hown1 hg1)
        have hbel1 := Below.pown1 hbel hsz hown hg1
        rw [← HF.out] at hown1
        clear hbox hc1 hg1 hown
        go_wp2
        go_roundw
        case rel => exact ⟨k + 1, by omega, by go_num, hown1, HM, hbel1⟩
        case measure => simp [intOf]; omega
      · have HN : Hid (mkOk ys m = false) := Lib.hid (mkOk_no hlt h6)
        have b1 : (nth ys (7 * k) == 6) = false := beq_false_of_ne h6
        clear h6
        generalize nth ys (7 * k) = q at *
        go_wp2
        (try rw [Exit.noGoto_ret])
        go_ret2
        exact .inr ⟨HN.out, rfl, hbel⟩
    · obtain rfl : k = m := by omega
      go_wp2
      (try rw [Exit.noGoto_ret])
      go_ret2
      exact .inl ⟨hok.out, _, rfl, hown, hbel⟩
end Go.Proofs.Ytojjcmkadmofdaa
