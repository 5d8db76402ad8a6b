/-
  Contracts of OpenRtu, and of the document's answer to it.
-/
import Derived.Test.YtmbjcmagadekpaaFrLine
import Derived.Test.YtmbjcmagadekpaaStep
import Derived.Deep.RegionHeld3
import Derived.Test.YtmbjcmagadekpaaBox
namespace Go.Proofs.Ytmbjcmagadekpaa
open Go.RowKit
set_option linter.unusedVariables false

/-- A call returns a unit's address, a PDU in a new block (or nil), and a number. -/
def OrtAt (w : World) (b : List Int) (e : Ending) (w' : World) : Prop :=
  ∃ A m g, e = .returned (.tuple #[.int .u8 (ortU b), .slice A m m, .int .i64 (ortE b)]) ∧ (ortL b).length = m ∧ w.heap.size ≤ g ∧ LiO w' A m g [nth b 0] (ortL b) (b.drop (b.length - 2)) ∧ Below w.heap.size w w'
def OrtOwn (w : World) (b : List Int) (e : Ending) (w' : World) : Prop :=
  ∃ v, e = .returned (.tuple #[.int .u8 (ortU b), v, .int .i64 (ortE b)]) ∧ Own .u8 5 w' w.heap.size v (ortL b) ∧ Below w.heap.size w w'
theorem OrtAt.err {w w' : World} {b : List Int} {E : Int} {e : Ending} (hE : ortE b = E) (h0 : E ≠ 0) (he : e = .returned (.tuple #[.int .u8 0, .slice none 0 0, .int .i64 E])) (hb : Below w.heap.size w w') : OrtAt w b e w' := by
  have h1 : ortE b ≠ 0 := by rw [hE]; exact h0
  refine ⟨none, 0, w.heap.size, ?_, ?_, Nat.le_refl _, .inl ⟨rfl, rfl⟩, hb⟩
  · rw [he, ortU, if_neg h1, hE]
  · rw [ortL, if_neg h1]; rfl
theorem OrtOwn.err {w w' : World} {b : List Int} {E : Int} {e : Ending} (hE : ortE b = E) (h0 : E ≠ 0) (he : e = .returned (.tuple #[.int .u8 0, .slice none 0 0, .int .i64 E])) (hb : Below w.heap.size w w') : OrtOwn w b e w' := by
  have h1 : ortE b ≠ 0 := by rw [hE]; exact h0
  refine ⟨.slice none 0 0, ?_, ?_, hb⟩
  · rw [he, ortU, if_neg h1, hE]
  · rw [ortL, if_neg h1]; exact Own.nil _ _ _ _
theorem err16_right {b : List Int} (h : 2 ≤ b.length) (hr : right16 b) : err16 b = 0 := by
  have hr : b = sealed16 (b.take (b.length - 2)) := hr
  rw [err16, if_neg (by omega), if_pos hr]
theorem err16_wrong {b : List Int} (h : 2 ≤ b.length) (hr : ¬ right16 b) : err16 b = 5 := by
  have hr : ¬ b = sealed16 (b.take (b.length - 2)) := hr
  rw [err16, if_neg (by omega), if_neg hr]
theorem ort_short {b : List Int} (h : b.length < 4) : ortE b = 1 := by rw [ortE, if_pos h]
theorem ort_long {b : List Int} (h : 256 < b.length) : ortE b = 2 := by rw [ortE, if_neg (by omega), if_pos h]
theorem ort_wrong {b : List Int} (h : 4 ≤ b.length) (h2 : b.length ≤ 256) (hr : ¬ right16 b) : ortE b = 5 := by
  have := err16_wrong (by omega) hr
  rw [ortE, if_neg (by omega), if_neg (by omega), if_pos (by rw [this]; decide), this]
theorem ort_unit {b : List Int} (h : 4 ≤ b.length) (h2 : b.length ≤ 256) (hr : right16 b) (hu : ¬ (1 ≤ nth b 0 ∧ nth b 0 ≤ 247)) : ortE b = 24 := by
  have := err16_right (by omega) hr
  rw [ortE, if_neg (by omega), if_neg (by omega), if_neg (by rw [this]; decide), if_neg hu]
theorem ort_zero {b : List Int} (h : 4 ≤ b.length) (h2 : b.length ≤ 256) (hr : right16 b) (hu : 1 ≤ nth b 0 ∧ nth b 0 ≤ 247) : ortE b = 0 := by
  have := err16_right (by omega) hr
  rw [ortE, if_neg (by omega), if_neg (by omega), if_neg (by rw [this]; decide), if_pos hu]
theorem ort_parts (b : List Int) (h : 4 ≤ b.length) : [nth b 0] ++ (b.take (b.length - 2)).drop 1 ++ b.drop (b.length - 2) = b := by
  match b, h with
  | x :: t, h =>
    have e : (x :: t).take ((x :: t).length - 2) = x :: t.take ((x :: t).length - 3) := by
      rw [show (x :: t).length - 2 = ((x :: t).length - 3) + 1 by omega, List.take_succ_cons]
    have h1 : [nth (x :: t) 0] ++ ((x :: t).take ((x :: t).length - 2)).drop 1 = (x :: t).take ((x :: t).length - 2) := by rw [e]; rfl
    rw [h1, List.take_append_drop]
theorem ort_len (b : List Int) (h : 4 ≤ b.length) : ((b.take (b.length - 2)).drop 1).length = b.length - 3 := by rw [List.length_drop, List.length_take]; omega

theorem ort_small (A : Option Addr) (n c : Nat) (b : List Int) (w : World) (hn : b.length = n) (h : n < 4) :
    Calls Try.prog 33 #[.slice A n c] w (OrtAt w b) := by
  have HE := Lib.hid (ort_short (b := b) (by omega))
  clear hn
  go_enter Try.func33, Try.ntmps33
  go_wp2
  go_ret3
  exact OrtAt.err HE.out (by decide) rfl (Below.refl _ _)
theorem ort_big (A : Option Addr) (n c : Nat) (b : List Int) (w : World) (hn : b.length = n) (h : 256 < n) :
    Calls Try.prog 33 #[.slice A n c] w (OrtAt w b) := by
  have HE := Lib.hid (ort_long (b := b) (by omega))
  have h4 : ¬ n < 4 := by omega
  clear hn
  go_enter Try.func33, Try.ntmps33
  go_wp2
  go_ret3
  exact OrtAt.err HE.out (by decide) rfl (Below.refl _ _)
theorem ort_sum (A : Option Addr) (n c : Nat) (b : List Int) (w : World) (hr : Row .u8 w w.heap.size A b) (hn : b.length = n) (hc : n ≤ c) (h4 : 4 ≤ n) (h : n ≤ 256) (hs : ¬ right16 b) :
    Calls Try.prog 33 #[.slice A n c] w (OrtAt w b) := by
  have HE := Lib.hid (ort_wrong (b := b) (by omega) (by omega) hs)
  have HO := Lib.hid (Open_wrong_16 A n c b w hr hn hc (by omega) (by omega) hs)
  clear hn hr hs
  go_enter Try.func33, Try.ntmps33
  go_wp2_with fail
  refine HO.out.mono ?_
  rintro e w1 ⟨rfl, b1⟩
  go_wp2
  go_ret3
  exact OrtAt.err HE.out (by decide) rfl b1
theorem ort_addr (A : Option Addr) (n c : Nat) (b : List Int) (w : World) (hr : Row .u8 w w.heap.size A b) (hn : b.length = n) (hc : n ≤ c) (h4 : 4 ≤ n) (h : n ≤ 256) (hs : right16 b) (hu : ¬ (1 ≤ nth b 0 ∧ nth b 0 ≤ 247)) :
    Calls Try.prog 33 #[.slice A n c] w (OrtAt w b) := by
  have HE := Lib.hid (ort_unit (b := b) (by omega) (by omega) hs hu)
  have HO := Lib.hid (Open_right_16 A n c b w hr hn hc (by omega) (by omega) hs)
  have hd := decide_eq_false hu
  have HN := Lib.hid hn
  clear hn hr hs hu
  go_enter Try.func33, Try.ntmps33
  go_wp2_with fail
  refine HO.out.mono ?_
  rintro e w1 ⟨rfl, hb, b1⟩
  have c0 : w1.cell? ⟨w.heap.size, 0, none⟩ = some (.int .u8 (nth b 0)) := by rw [cell_of_row w1 _ 0 _ _ _ hb, blk_get _ _ _ (by have := HN.out; omega)]
  have hlt : (0 : Int) < ((n - 2 : Nat) : Int) := by omega
  go_wp2_with (go_at_call 78; refine (isUnit_any _ _).mono ?_; rw [hd]; rintro e w2 ⟨rfl, rfl⟩)
  go_ret3
  exact OrtAt.err HE.out (by decide) rfl b1
theorem ort_yes (A : Option Addr) (n c : Nat) (b : List Int) (w : World) (hr : Row .u8 w w.heap.size A b) (hn : b.length = n) (hc : n ≤ c) (h4 : 4 ≤ n) (h : n ≤ 256) (hs : right16 b) (hu : 1 ≤ nth b 0 ∧ nth b 0 ≤ 247) :
    Calls Try.prog 33 #[.slice A n c] w (OrtAt w b) := by
  have HE := Lib.hid (ort_zero (b := b) (by omega) (by omega) hs hu)
  have HO := Lib.hid (Open_right_16 A n c b w hr hn hc (by omega) (by omega) hs)
  have hd := decide_eq_true hu
  have HN := Lib.hid hn
  have HU : Hid (ortU b = nth b 0) := Lib.hid (by rw [ortU, HE.out]; rfl)
  have HL : Hid ((ortL b).length = n - 2 - 1) := Lib.hid (by rw [ortL, HE.out, if_pos rfl, ort_len b (by omega)]; omega)
  have HP : Hid ([nth b 0] ++ ortL b ++ b.drop (b.length - 2) = b) := Lib.hid (by rw [ortL, HE.out, if_pos rfl]; exact ort_parts b (by omega))
  clear hn hr hs hu
  go_enter Try.func33, Try.ntmps33
  go_wp2_with fail
  refine HO.out.mono ?_
  rintro e w1 ⟨rfl, hb, b1⟩
  have c0 : w1.cell? ⟨w.heap.size, 0, none⟩ = some (.int .u8 (nth b 0)) := by rw [cell_of_row w1 _ 0 _ _ _ hb, blk_get _ _ _ (by have := HN.out; omega)]
  have hlt : (0 : Int) < ((n - 2 : Nat) : Int) := by omega
  have hn2 : 1 ≤ n - 2 := by omega
  have HB := Lib.hid hb
  clear hb
  go_wp2_with (go_at_call 78; refine (isUnit_any _ _).mono ?_; rw [hd]; rintro e w2 ⟨rfl, rfl⟩)
  go_quiet (fail)
  go_wp2
  go_ret3
  refine ⟨_, n - 2 - 1, w.heap.size, ?_, HL.out, Nat.le_refl _, .inr ⟨rfl, ?_⟩, below_drewN b1 _⟩
  · rw [HU.out, HE.out]
    rfl
  · rw [HP.out]; exact HB.out
theorem ort_any (A : Option Addr) (n c : Nat) (b : List Int) (w : World) (hr : Row .u8 w w.heap.size A b) (hn : b.length = n) (hc : n ≤ c) :
    Calls Try.prog 33 #[.slice A n c] w (OrtAt w b) := by
  by_cases h4 : n < 4
  · exact ort_small A n c b w hn h4
  · by_cases h : 256 < n
    · exact ort_big A n c b w hn h
    · by_cases hs : right16 b
      · by_cases hu : 1 ≤ nth b 0 ∧ nth b 0 ≤ 247
        · exact ort_yes A n c b w hr hn hc (by omega) (by omega) hs hu
        · exact ort_addr A n c b w hr hn hc (by omega) (by omega) hs hu
      · exact ort_sum A n c b w hr hn hc (by omega) (by omega) hs
theorem refOrt_small (A : Option Addr) (n c : Nat) (b : List Int) (w : World) (hn : b.length = n) (h : n < 4) :
    Calls Try.prog 34 #[.slice A n c] w (OrtOwn w b) := by
  have HE := Lib.hid (ort_short (b := b) (by omega))
  clear hn
  go_enter Try.func34, Try.ntmps34
  go_wp2
  go_ret3
  exact OrtOwn.err HE.out (by decide) rfl (Below.refl _ _)
theorem refOrt_big (A : Option Addr) (n c : Nat) (b : List Int) (w : World) (hn : b.length = n) (h : 256 < n) :
    Calls Try.prog 34 #[.slice A n c] w (OrtOwn w b) := by
  have HE := Lib.hid (ort_long (b := b) (by omega))
  have h4 : ¬ n < 4 := by omega
  clear hn
  go_enter Try.func34, Try.ntmps34
  go_wp2
  go_ret3
  exact OrtOwn.err HE.out (by decide) rfl (Below.refl _ _)
theorem refOrt_sum (A : Option Addr) (n c : Nat) (b : List Int) (w : World) (hr : Row .u8 w w.heap.size A b) (hn : b.length = n) (hc : n ≤ c) (h4 : 4 ≤ n) (h : n ≤ 256) (hs : ¬ right16 b) :
    Calls Try.prog 34 #[.slice A n c] w (OrtOwn w b) := by
  have HE := Lib.hid (ort_wrong (b := b) (by omega) (by omega) hs)
  have HO := Lib.hid (refOpen_wrong_16 A n c b w hr hn hc (by omega) (by omega) hs)
  clear hn hr hs
  go_enter Try.func34, Try.ntmps34
  go_wp2_with fail
  refine HO.out.mono ?_
  rintro e w1 ⟨rfl, b1⟩
  go_wp2
  go_ret3
  exact OrtOwn.err HE.out (by decide) rfl b1
theorem refOrt_addr (A : Option Addr) (n c : Nat) (b : List Int) (w : World) (hr : Row .u8 w w.heap.size A b) (hn : b.length = n) (hc : n ≤ c) (h4 : 4 ≤ n) (h : n ≤ 256) (hs : right16 b) (hu : ¬ (1 ≤ nth b 0 ∧ nth b 0 ≤ 247)) :
    Calls Try.prog 34 #[.slice A n c] w (OrtOwn w b) := by
  have HE := Lib.hid (ort_unit (b := b) (by omega) (by omega) hs hu)
  have HO := Lib.hid (refOpen_right_16 A n c b w hr hn hc (by omega) (by omega) hs)
  have HW := Lib.hid (hr.front (n - 2)).1
  have HL : Hid ((b.take (n - 2)).length = n - 2) := Lib.hid (by rw [List.length_take]; omega)
  have H0 : Hid (nth (b.take (n - 2)) 0 = nth b 0) := Lib.hid (nthTake b _ _ (by omega))
  have hlt : (0 : Int) < ((n - 2 : Nat) : Int) := by omega
  have hlt0 : 0 < n - 2 := by omega
  have hu2 : nth b 0 < 1 ∨ ¬ nth b 0 < 1 ∧ 247 < nth b 0 := by omega
  clear hn hr hs hu
  rcases hu2 with hu | ⟨hu, hu'⟩
  all_goals
    go_enter Try.func34, Try.ntmps34
    go_wp2_with fail
    refine HO.out.mono ?_
    rintro e w1 ⟨v, rfl, own, b1⟩
    obtain ⟨A1, c1, rfl, row1, hle, _⟩ := own.row HW.out
    obtain ⟨b0, o0, rfl, hb0, hc0⟩ := row1.at_ (i := 0) (by rw [HL.out]; omega)
    rw [H0.out, Nat.add_zero] at hc0
    rw [HL.out]
    clear own row1
    go_wp2
    go_ret3
    exact OrtOwn.err HE.out (by decide) rfl b1
end Go.Proofs.Ytmbjcmagadekpaa
