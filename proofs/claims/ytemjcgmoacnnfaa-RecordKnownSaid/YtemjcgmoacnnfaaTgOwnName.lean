/-
  The program's Name of layer 9: its letters are gone through by a range over the string.
-/
import Derived.Test.YtemjcgmoacnnfaaTgName
import Derived.Laws.RangeAny
import Derived.LoopTactic
namespace Go.Proofs.Ytemjcgmoacnnfaa
open Go.RowKit
set_option linter.unusedVariables false

theorem pLetter_any (c : Int) (w : World) : Calls Try.prog 41 #[.int .i32 c] w fun e w' => e = .returned (.bool (letB c)) ∧ w' = w := by
  refine letter_cases c _ ?_ ?_ ?_ ?_ ?_
  · intro h1 h2 h
    rw [h]
    go_enter Try.func41, Try.ntmps41
    go_wp2
    go_ret
    exact ⟨rfl, rfl⟩
  · intro h1 h2 h
    have h3 : ¬ c ≤ 90 := by omega
    have h4 : 65 ≤ c := by omega
    rw [h]
    go_enter Try.func41, Try.ntmps41
    go_wp2
    go_ret
    exact ⟨rfl, rfl⟩
  · intro h1 h2 h3 h
    rw [h]
    go_enter Try.func41, Try.ntmps41
    go_wp2
    go_ret
    exact ⟨rfl, rfl⟩
  · intro h1 h2 h3 h
    rw [h]
    go_enter Try.func41, Try.ntmps41
    go_wp2
    go_ret
    exact ⟨rfl, rfl⟩
  · intro h1 h2 h
    rw [h]
    go_enter Try.func41, Try.ntmps41
    go_wp2
    go_ret
    exact ⟨rfl, rfl⟩

/-- What may stand behind a first letter, beside a letter. -/
def ltrB (c : Int) : Bool := (decide (48 ≤ c) && decide (c ≤ 57)) || (decide (c = 95) || (decide (c = 46) || decide (c = 45)))
theorem chB_ltr (c : Int) : chB c = (letB c || ltrB c) := by
  unfold chB ltrB
  cases letB c <;> cases (decide (48 ≤ c) && decide (c ≤ 57)) <;> cases decide (c = 95) <;> cases decide (c = 46) <;> cases decide (c = 45) <;> rfl
theorem pLater_any (c : Int) (w : World) : Calls Try.prog 42 #[.int .i32 c] w fun e w' => e = .returned (.bool (ltrB c)) ∧ w' = w := by
  by_cases h1 : c = 95
  · subst h1
    rw [show ltrB 95 = true from rfl]
    go_enter Try.func42, Try.ntmps42
    go_wp2
    go_ret
    exact ⟨rfl, rfl⟩
  by_cases h2 : c = 46
  · subst h2
    rw [show ltrB 46 = true from rfl]
    go_enter Try.func42, Try.ntmps42
    go_wp2
    go_ret
    exact ⟨rfl, rfl⟩
  by_cases h3 : c = 45
  · subst h3
    rw [show ltrB 45 = true from rfl]
    go_enter Try.func42, Try.ntmps42
    go_wp2
    go_ret
    exact ⟨rfl, rfl⟩
  have e1 : (c == 95) = false := by simp [h1]
  have e2 : (c == 46) = false := by simp [h2]
  have e3 : (c == 45) = false := by simp [h3]
  by_cases h4 : 48 ≤ c
  · by_cases h5 : c ≤ 57
    · have HB : Hid (ltrB c = true) := Lib.hid (by unfold ltrB; simp [h4, h5])
      rw [HB.out]
      go_enter Try.func42, Try.ntmps42
      go_wp2
      go_ret
      exact ⟨rfl, rfl⟩
    · have HB : Hid (ltrB c = false) := Lib.hid (by unfold ltrB; simp [h1, h2, h3, h5])
      rw [HB.out]
      go_enter Try.func42, Try.ntmps42
      go_wp2
      go_ret
      exact ⟨rfl, rfl⟩
  · have HB : Hid (ltrB c = false) := Lib.hid (by unfold ltrB; simp [h1, h2, h3, h4])
    rw [HB.out]
    go_enter Try.func42, Try.ntmps42
    go_wp2
    go_ret
    exact ⟨rfl, rfl⟩
theorem let_high {c : Int} (h : 128 ≤ c) : letB c = false ∧ ltrB c = false ∧ chB c = false := by
  have h1 : letB c = false := by
    simp only [letB, Bool.or_eq_false_iff, Bool.and_eq_false_iff, decide_eq_false_iff_not]
    omega
  have h2 : ltrB c = false := by
    simp only [ltrB, Bool.or_eq_false_iff, Bool.and_eq_false_iff, decide_eq_false_iff_not]
    omega
  exact ⟨h1, h2, by rw [chB_ltr, h1, h2]; rfl⟩
/-- What a range over a text gives at a place: that byte, or a number that is none of a name's. -/
theorem rune_at (s : ByteArray) (p : Nat) (h : p < s.size) :
    (nth (bys s) p < 128 ∧ (Utf8.decode s p).1 = (nth (bys s) p).toNat ∧ (Utf8.decode s p).2 = 1) ∨ (128 ≤ nth (bys s) p ∧ 128 ≤ (Utf8.decode s p).1) := by
  rw [bys_get s p h]
  by_cases ha : (s[p]'h).toNat < 128
  · left
    rw [decode_ascii s p h ha]
    exact ⟨by omega, by simp, rfl⟩
  · right
    exact ⟨by omega, (decode_high s p h (by omega)).1⟩
theorem iter_bel (w : World) (s : ByteArray) (p : Nat) : Below w.heap.size w (w.iter s p) := bel_alloc w _
set_option maxHeartbeats 1000000 in
theorem Name9_any (s : ByteArray) (w : World) (hs : s.size ≤ maxLen) : Calls Try.prog 32 #[.string s] w fun e w' => e = .returned (.bool (nameB (bys s))) ∧ Below w.heap.size w w' := by
  unfold maxLen at hs
  have hl := bys_len s
  by_cases h1 : s.size < 1
  · have HB : Hid (nameB (bys s) = false) := Lib.hid (nameB_len (.inl (by omega)))
    rw [HB.out]
    have h1' : (s.size : Int) < 1 := by omega
    clear hl
    go_enter Try.func32, Try.ntmps32
    go_wp2
    go_ret
    exact ⟨rfl, Below.refl _ _⟩
  by_cases h2 : 16 < s.size
  · have HB : Hid (nameB (bys s) = false) := Lib.hid (nameB_len (.inr (by omega)))
    rw [HB.out]
    have h1' : ¬ (s.size : Int) < 1 := by omega
    have h2' : (s.size : Int) > 16 := by omega
    clear hl
    go_enter Try.func32, Try.ntmps32
    go_wp2
    go_ret
    exact ⟨rfl, Below.refl _ _⟩
  have h1' : ¬ (s.size : Int) < 1 := by omega
  have h2' : ¬ (s.size : Int) > 16 := by omega
  have HL := Lib.hid hl
  clear hl
  go_enter Try.func32, Try.ntmps32
  go_wp2
  go_loopw [] (fun wr => ∃ p : Nat, p ≤ s.size ∧ wr = w.iter s p ∧ Hid (∀ i, i < p → chB (nth (bys s) i) = true) ∧ Hid (0 < p → letB (nth (bys s) 0) = true)) (fun wr => s.size - wr.iterPos w.heap.size)
  case atStart => exact ⟨0, by omega, rfl, Lib.hid (fun i hi => absurd hi (by omega)), Lib.hid (fun h => absurd h (by omega))⟩
  case round =>
    obtain ⟨p, hp, rfl, hall, hfst⟩ := hrel
    by_cases hlt : p < s.size
    · have hnx : ∀ ty, (Instr.next (.pointer (some ⟨w.heap.size, 0, none⟩)) true ty).run Try.prog (w.iter s p) = _ := fun ty => run_next_any w s p ty hlt
      have hpl : p < (bys s).length := by rw [HL.out]; exact hlt
      rcases rune_at s p hlt with ⟨a1, a2, a3⟩ | ⟨a1, a2⟩
      · have hb0 := (bys_bound s p hlt).1
        obtain ⟨c, hc⟩ : ∃ c, nth (bys s) p = c := ⟨_, rfl⟩
        have HC := Lib.hid hc
        rw [hc] at a1 a2 hb0
        have e1 : ((Utf8.decode s p).1 : Int) = c := by rw [a2]; omega
        rw [e1, a3] at hnx
        clear hc e1 a2 a3 hpl
        cases hl1 : letB c
        case true =>
          have hall2 : Hid (∀ i, i < p + 1 → chB (nth (bys s) i) = true) := Lib.hid (fun i hi => by
            rcases Nat.lt_or_ge i p with h | h
            · exact hall.out i h
            · obtain rfl : i = p := by omega
              rw [HC.out]; exact chB_letter hl1)
          have hfst2 : Hid (0 < p + 1 → letB (nth (bys s) 0) = true) := Lib.hid (fun _ => by
            rcases Nat.eq_zero_or_pos p with h | h
            · subst h; rw [HC.out]; exact hl1
            · exact hfst.out h)
          have HL1 := Lib.hid hl1
          go_wp2_with (go_at_call 41; refine (pLetter_any _ _).mono ?_; rintro e w' ⟨rfl, rfl⟩; rw [HL1.out])
          go_roundw
          case rel => exact ⟨p + 1, by omega, rfl, hall2, hfst2⟩
          case measure => simp; omega
        case false =>
          have HL1 := Lib.hid hl1
          rcases Nat.eq_zero_or_pos p with h0 | h0
          · subst h0
            have HB : Hid (nameB (bys s) = false) := Lib.hid (nameB_first (by rw [HC.out]; exact hl1))
            clear hl1
            go_wp2_with (go_at_call 41; refine (pLetter_any _ _).mono ?_; rintro e w' ⟨rfl, rfl⟩; rw [HL1.out])
            go_ret
            exact ⟨by rw [HB.out]; rfl, iter_bel w s _⟩
          · have hp0 : (p == 0) = false := by simp; omega
            have hp1 : ¬ (p : Int) = 0 := by omega
            cases hl2 : ltrB c
            case true =>
              have hall2 : Hid (∀ i, i < p + 1 → chB (nth (bys s) i) = true) := Lib.hid (fun i hi => by
                rcases Nat.lt_or_ge i p with h | h
                · exact hall.out i h
                · obtain rfl : i = p := by omega
                  rw [HC.out, chB_ltr, hl2, Bool.or_true])
              have hfst2 : Hid (0 < p + 1 → letB (nth (bys s) 0) = true) := Lib.hid (fun _ => hfst.out h0)
              have HL2 := Lib.hid hl2
              clear hl1 hl2
              go_wp2_with (first | (go_at_call 41; refine (pLetter_any _ _).mono ?_; rintro e w' ⟨rfl, rfl⟩; rw [HL1.out]) | (go_at_call 42; refine (pLater_any _ _).mono ?_; rintro e w' ⟨rfl, rfl⟩; rw [HL2.out]) | fail)
              go_roundw
              case rel => exact ⟨p + 1, by omega, rfl, hall2, hfst2⟩
              case measure => simp; omega
            case false =>
              have HB : Hid (nameB (bys s) = false) := Lib.hid (nameB_bad p (by rw [HL.out]; exact hlt) (by rw [HC.out, chB_ltr, hl1, hl2]; rfl))
              have HL2 := Lib.hid hl2
              clear hl1 hl2
              go_wp2_with (first | (go_at_call 41; refine (pLetter_any _ _).mono ?_; rintro e w' ⟨rfl, rfl⟩; rw [HL1.out]) | (go_at_call 42; refine (pLater_any _ _).mono ?_; rintro e w' ⟨rfl, rfl⟩; rw [HL2.out]) | fail)
              go_ret
              exact ⟨by rw [HB.out]; rfl, iter_bel w s _⟩
      · have HB : Hid (nameB (bys s) = false) := Lib.hid (nameB_bad p (by rw [HL.out]; exact hlt) (let_high a1).2.2)
        obtain ⟨c, hc⟩ : ∃ c : Nat, (Utf8.decode s p).1 = c := ⟨_, rfl⟩
        obtain ⟨d, hd⟩ : ∃ d : Nat, (Utf8.decode s p).2 = d := ⟨_, rfl⟩
        rw [hc, hd] at hnx
        rw [hc] at a2
        have HL1 : Hid (letB (c : Int) = false) := Lib.hid (let_high (by omega)).1
        have HL2 : Hid (ltrB (c : Int) = false) := Lib.hid (let_high (by omega)).2.1
        clear hc hd a1 a2 hpl
        rcases Nat.eq_zero_or_pos p with h0 | h0
        · subst h0
          go_wp2_with (first | (go_at_call 41; refine (pLetter_any _ _).mono ?_; rintro e w' ⟨rfl, rfl⟩; rw [HL1.out]) | (go_at_call 42; refine (pLater_any _ _).mono ?_; rintro e w' ⟨rfl, rfl⟩; rw [HL2.out]) | fail)
          go_ret
          exact ⟨by rw [HB.out]; rfl, iter_bel w s _⟩
        · have hp0 : (p == 0) = false := by simp; omega
          have hp1 : ¬ (p : Int) = 0 := by omega
          go_wp2_with (first | (go_at_call 41; refine (pLetter_any _ _).mono ?_; rintro e w' ⟨rfl, rfl⟩; rw [HL1.out]) | (go_at_call 42; refine (pLater_any _ _).mono ?_; rintro e w' ⟨rfl, rfl⟩; rw [HL2.out]) | fail)
          go_ret
          exact ⟨by rw [HB.out]; rfl, iter_bel w s _⟩
    · obtain rfl : p = s.size := by omega
      have HB : Hid (nameB (bys s) = true) := Lib.hid (nameB_good (by rw [HL.out]; omega) (by rw [HL.out]; omega) (hfst.out (by omega)) (fun i hi => hall.out i (by rw [HL.out] at hi; exact hi)))
      have hnx : ∀ ty, (Instr.next (.pointer (some ⟨w.heap.size, 0, none⟩)) true ty).run Try.prog (w.iter s s.size) = _ := fun ty => run_next_end w s s.size ty hlt
      go_wp2
      go_ret
      exact ⟨by rw [HB.out]; rfl, iter_bel w s _⟩
end Go.Proofs.Ytemjcgmoacnnfaa
