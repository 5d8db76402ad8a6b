/-
  Names: the mathematics, and the document's contracts of letter and Name.
-/
import Derived.Test.YtemjcgmoacnnfaaBoxes2
import Derived.IntWalk
namespace Go.Proofs.Ytemjcgmoacnnfaa
open Go.RowKit
set_option linter.unusedVariables false

/-- A letter; a byte that a name may have. -/
def letB (c : Int) : Bool := (decide (97 ≤ c) && decide (c ≤ 122)) || (decide (65 ≤ c) && decide (c ≤ 90))
def chB (c : Int) : Bool := letB c || (decide (48 ≤ c) && decide (c ≤ 57)) || decide (c = 95) || decide (c = 46) || decide (c = 45)
/-- The bytes of a text, as numbers. -/
def bys (s : ByteArray) : List Int := s.data.toList.map fun c => (c.toNat : Int)
theorem bys_len (s : ByteArray) : (bys s).length = s.size := by simp [bys]
theorem bys_get (s : ByteArray) (k : Nat) (h : k < s.size) : nth (bys s) k = (s[k].toNat : Int) := by
  rw [nth_eq _ _ (by rw [bys_len]; exact h)]
  simp only [bys, List.getElem_map, Array.getElem_toList]
  rfl
theorem bys_bound (s : ByteArray) (k : Nat) (h : k < s.size) : 0 ≤ nth (bys s) k ∧ nth (bys s) k ≤ 255 := by
  rw [bys_get s k h]
  have := s[k].toNat_lt
  omega
def nameB (l : List Int) : Bool := decide (1 ≤ l.length) && decide (l.length ≤ 16) && letB (nth l 0) && l.all chB
theorem letter_cases (c : Int) (P : Prop) (a : 97 ≤ c → c ≤ 122 → letB c = true → P) (b : 97 ≤ c → ¬ c ≤ 122 → letB c = false → P) (d : ¬ 97 ≤ c → 65 ≤ c → c ≤ 90 → letB c = true → P)
    (e : ¬ 97 ≤ c → 65 ≤ c → ¬ c ≤ 90 → letB c = false → P) (f : ¬ 97 ≤ c → ¬ 65 ≤ c → letB c = false → P) : P := by
  by_cases h1 : 97 ≤ c
  · by_cases h2 : c ≤ 122
    · exact a h1 h2 (by simp [letB, h1, h2])
    · exact b h1 h2 (by
        have : ¬ c ≤ 90 := by omega
        simp [letB, h1, h2, this])
  · by_cases h3 : 65 ≤ c
    · by_cases h4 : c ≤ 90
      · exact d h1 h3 h4 (by simp [letB, h3, h4])
      · exact e h1 h3 h4 (by simp [letB, h1, h4])
    · exact f h1 h3 (by simp [letB, h1, h3])
theorem refLetter_any (c : Int) (w : World) : Calls Try.prog 44 #[.int .u8 c] w fun e w' => e = .returned (.bool (letB c)) ∧ w' = w := by
  refine letter_cases c _ ?_ ?_ ?_ ?_ ?_
  · intro h1 h2 h
    rw [h]
    go_enter Try.func44, Try.ntmps44
    go_wp2
    go_ret
    exact ⟨rfl, rfl⟩
  · intro h1 h2 h
    have h3 : ¬ c ≤ 90 := by omega
    have h4 : 65 ≤ c := by omega
    rw [h]
    go_enter Try.func44, Try.ntmps44
    go_wp2
    go_ret
    exact ⟨rfl, rfl⟩
  · intro h1 h2 h3 h
    rw [h]
    go_enter Try.func44, Try.ntmps44
    go_wp2
    go_ret
    exact ⟨rfl, rfl⟩
  · intro h1 h2 h3 h
    rw [h]
    go_enter Try.func44, Try.ntmps44
    go_wp2
    go_ret
    exact ⟨rfl, rfl⟩
  · intro h1 h2 h
    rw [h]
    go_enter Try.func44, Try.ntmps44
    go_wp2
    go_ret
    exact ⟨rfl, rfl⟩

theorem chB_letter {c : Int} (h : letB c = true) : chB c = true := by unfold chB; rw [h]; rfl
/-- The ways through the document's test of one byte. -/
theorem ch_cases (c : Int) (P : Prop) (a : letB c = true → chB c = true → P) (b : letB c = false → ¬ c < 48 → ¬ c > 57 → chB c = true → P)
    (x : letB c = false → c = 95 → chB c = true → P) (y : letB c = false → c = 46 → chB c = true → P) (z : letB c = false → c = 45 → chB c = true → P)
    (d : letB c = false → c < 48 → c ≠ 95 → c ≠ 46 → c ≠ 45 → chB c = false → P) (e : letB c = false → ¬ c < 48 → c > 57 → c ≠ 95 → c ≠ 46 → c ≠ 45 → chB c = false → P) : P := by
  cases h : letB c
  case true => exact a h (chB_letter h)
  by_cases h1 : c = 95
  · exact x h h1 (by subst h1; rfl)
  by_cases h2 : c = 46
  · exact y h h2 (by subst h2; rfl)
  by_cases h3 : c = 45
  · exact z h h3 (by subst h3; rfl)
  by_cases h4 : c < 48
  · exact d h h4 h1 h2 h3 (by
      have : ¬ 48 ≤ c := by omega
      simp [chB, h, h1, h2, h3, this])
  · by_cases h5 : c > 57
    · exact e h h4 h5 h1 h2 h3 (by
        have : ¬ c ≤ 57 := by omega
        simp [chB, h, h1, h2, h3, this])
    · exact b h h4 h5 (by
        have : 48 ≤ c := by omega
        have : c ≤ 57 := by omega
        simp [chB, *])
theorem nameB_bad {l : List Int} (k : Nat) (hk : k < l.length) (h : chB (nth l k) = false) : nameB l = false := by
  unfold nameB
  have : l.all chB = false := by
    rw [List.all_eq_false]
    exact ⟨nth l k, nth_mem l k hk, by simp [h]⟩
  rw [this, Bool.and_false]
theorem nameB_good {l : List Int} (h1 : 1 ≤ l.length) (h2 : l.length ≤ 16) (h3 : letB (nth l 0) = true) (h : ∀ i, i < l.length → chB (nth l i) = true) : nameB l = true := by
  unfold nameB
  have : l.all chB = true := by
    rw [List.all_eq_true]
    intro x hx
    obtain ⟨i, hi, rfl⟩ := List.mem_iff_getElem.1 hx
    rw [← nth_eq l i hi]
    exact h i hi
  rw [this, h3, decide_eq_true h1, decide_eq_true h2]; rfl
theorem nameB_len {l : List Int} (h : l.length < 1 ∨ 16 < l.length) : nameB l = false := by
  unfold nameB
  rcases h with h | h
  · rw [decide_eq_false (show ¬ 1 ≤ l.length by omega)]; rfl
  · rw [decide_eq_false (show ¬ l.length ≤ 16 by omega), Bool.and_false]; rfl
theorem nameB_first {l : List Int} (h : letB (nth l 0) = false) : nameB l = false := by
  unfold nameB; rw [h, Bool.and_false]; rfl

set_option maxHeartbeats 1000000 in
theorem refName_any (s : ByteArray) (w : World) (hs : s.size ≤ maxLen) : Calls Try.prog 34 #[.string s] w fun e w' => e = .returned (.bool (nameB (bys s))) ∧ w' = w := by
  unfold maxLen at hs
  have hl := bys_len s
  by_cases h1 : s.size < 1
  · have HN := Lib.hid (nameB_len (l := bys s) (.inl (by omega)))
    rw [HN.out]
    have h1' : (s.size : Int) < 1 := by omega
    clear hl
    go_enter Try.func34, Try.ntmps34
    go_wp2
    go_ret
    exact ⟨rfl, rfl⟩
  by_cases h2 : 16 < s.size
  · have HN := Lib.hid (nameB_len (l := bys s) (.inr (by omega)))
    rw [HN.out]
    have h1' : ¬ (s.size : Int) < 1 := by omega
    have h2' : (s.size : Int) > 16 := by omega
    clear hl
    go_enter Try.func34, Try.ntmps34
    go_wp2
    go_ret
    exact ⟨rfl, rfl⟩
  have h1' : ¬ (s.size : Int) < 1 := by omega
  have h2' : ¬ (s.size : Int) > 16 := by omega
  have h0 : 0 < s.size := by omega
  have hb0 := bys_get s 0 h0
  cases h3 : letB (nth (bys s) 0) with
  | false =>
    have HN := Lib.hid (nameB_first h3)
    rw [HN.out]
    rw [hb0] at h3
    clear hl hb0
    go_enter Try.func34, Try.ntmps34
    go_wp2_with fail
    refine (refLetter_any _ _).mono ?_
    rintro e w' ⟨rfl, rfl⟩
    rw [h3]
    go_wp2
    go_ret
    exact ⟨rfl, rfl⟩
  | true =>
    have H3 := Lib.hid h3
    rw [hb0] at h3
    clear hb0
    go_enter Try.func34, Try.ntmps34
    go_wp2_with fail
    refine (refLetter_any _ _).mono ?_
    rintro e w' ⟨rfl, rfl⟩
    rw [h3]
    clear h3
    go_wp2
    go_loop [3] (fun i => ∃ k : Nat, k ≤ s.size ∧ i = .int .i64 k ∧ Hid (∀ j, j < k → chB (nth (bys s) j) = true)) (fun i => s.size - (intOf i).toNat)
    case atStart => exact ⟨0, by omega, rfl, Lib.hid (fun j hj => absurd hj (by omega))⟩
    case round =>
      obtain ⟨k, hk, rfl, hall⟩ := hrel
      by_cases hlt : k < s.size
      · have hb := bys_get s k hlt
        obtain ⟨x, hx⟩ : ∃ x : Int, (s[k].toNat : Int) = x := ⟨_, rfl⟩
        rw [hx] at hb
        refine ch_cases x _ ?_ ?_ ?_ ?_ ?_ ?_ ?_
        · intro C1 C9
          have hall2 : Hid (∀ j, j < k + 1 → chB (nth (bys s) j) = true) := Lib.hid (fun j hj => by
            rcases Nat.lt_or_ge j k with h | h
            · exact hall.out j h
            · obtain rfl : j = k := by omega
              rw [hb]; exact C9)
          clear C9 hb hall
          go_wp2_with fail
          refine (refLetter_any _ _).mono ?_
          rintro e w' ⟨rfl, rfl⟩
          rw [C1]
          go_wp2
          go_round
          case rel => exact ⟨k + 1, by omega, by go_num, hall2⟩
          case measure => simp [intOf]; omega
        · intro C1 C2 C3 C9
          have hall2 : Hid (∀ j, j < k + 1 → chB (nth (bys s) j) = true) := Lib.hid (fun j hj => by
            rcases Nat.lt_or_ge j k with h | h
            · exact hall.out j h
            · obtain rfl : j = k := by omega
              rw [hb]; exact C9)
          clear C9 hb hall
          go_wp2_with fail
          refine (refLetter_any _ _).mono ?_
          rintro e w' ⟨rfl, rfl⟩
          rw [C1]
          go_wp2
          go_round
          case rel => exact ⟨k + 1, by omega, by go_num, hall2⟩
          case measure => simp [intOf]; omega
        · intro C1 C2 C9
          have hall2 : Hid (∀ j, j < k + 1 → chB (nth (bys s) j) = true) := Lib.hid (fun j hj => by
            rcases Nat.lt_or_ge j k with h | h
            · exact hall.out j h
            · obtain rfl : j = k := by omega
              rw [hb]; exact C9)
          clear C9 hb hall
          subst C2
          go_wp2_with fail
          refine (refLetter_any _ _).mono ?_
          rintro e w' ⟨rfl, rfl⟩
          rw [C1]
          go_wp2
          go_round
          case rel => exact ⟨k + 1, by omega, by go_num, hall2⟩
          case measure => simp [intOf]; omega
        · intro C1 C2 C9
          have hall2 : Hid (∀ j, j < k + 1 → chB (nth (bys s) j) = true) := Lib.hid (fun j hj => by
            rcases Nat.lt_or_ge j k with h | h
            · exact hall.out j h
            · obtain rfl : j = k := by omega
              rw [hb]; exact C9)
          clear C9 hb hall
          subst C2
          go_wp2_with fail
          refine (refLetter_any _ _).mono ?_
          rintro e w' ⟨rfl, rfl⟩
          rw [C1]
          go_wp2
          go_round
          case rel => exact ⟨k + 1, by omega, by go_num, hall2⟩
          case measure => simp [intOf]; omega
        · intro C1 C2 C9
          have hall2 : Hid (∀ j, j < k + 1 → chB (nth (bys s) j) = true) := Lib.hid (fun j hj => by
            rcases Nat.lt_or_ge j k with h | h
            · exact hall.out j h
            · obtain rfl : j = k := by omega
              rw [hb]; exact C9)
          clear C9 hb hall
          subst C2
          go_wp2_with fail
          refine (refLetter_any _ _).mono ?_
          rintro e w' ⟨rfl, rfl⟩
          rw [C1]
          go_wp2
          go_round
          case rel => exact ⟨k + 1, by omega, by go_num, hall2⟩
          case measure => simp [intOf]; omega
        · intro C1 C2 C5 C6 C7 C9
          have HN : Hid (nameB (bys s) = false) := Lib.hid (nameB_bad k (by omega) (by rw [hb]; exact C9))
          have e1 : (x == 95) = false := beq_false_of_ne C5
          have e2 : (x == 46) = false := beq_false_of_ne C6
          have e3 : (x == 45) = false := beq_false_of_ne C7
          have e4 : (x != 95) = true := by simp [C5]
          have e5 : (x != 46) = true := by simp [C6]
          have e6 : (x != 45) = true := by simp [C7]
          clear C9 hb
          go_wp2_with fail
          refine (refLetter_any _ _).mono ?_
          rintro e w' ⟨rfl, rfl⟩
          rw [C1]
          go_wp2
          go_ret
          exact ⟨by rw [HN.out]; rfl, rfl⟩
        · intro C1 C2 C3 C5 C6 C7 C9
          have HN : Hid (nameB (bys s) = false) := Lib.hid (nameB_bad k (by omega) (by rw [hb]; exact C9))
          have e1 : (x == 95) = false := beq_false_of_ne C5
          have e2 : (x == 46) = false := beq_false_of_ne C6
          have e3 : (x == 45) = false := beq_false_of_ne C7
          have e4 : (x != 95) = true := by simp [C5]
          have e5 : (x != 46) = true := by simp [C6]
          have e6 : (x != 45) = true := by simp [C7]
          clear C9 hb
          go_wp2_with fail
          refine (refLetter_any _ _).mono ?_
          rintro e w' ⟨rfl, rfl⟩
          rw [C1]
          go_wp2
          go_ret
          exact ⟨by rw [HN.out]; rfl, rfl⟩
      · obtain rfl : k = s.size := by omega
        have HN : Hid (nameB (bys s) = true) := Lib.hid (nameB_good (by omega) (by omega) H3.out (fun i hi => hall.out i (by omega)))
        clear hall
        go_wp2
        go_ret
        exact ⟨by rw [HN.out]; rfl, rfl⟩
end Go.Proofs.Ytemjcgmoacnnfaa
