/-
  Contracts of Open16, Open32 and of the document's answer to them: short, wrong, right.
-/
import Derived.Test.YtmbjcmagadekpaaOpenB
namespace Go.Proofs.Ytmbjcmagadekpaa
open Go.RowKit
set_option linter.unusedVariables false

theorem Row.take {k : IntKind} {w : World} {B : Nat} {A : Option Addr} {xs : List Int} (h : Row k w B A xs) (m : Nat) : Row k w B A (xs.take m) := by
  refine ⟨fun x hx => h.1 x (List.mem_of_mem_take hx), fun hn => ?_⟩
  have hl : 0 < xs.length := by simp at hn; omega
  obtain ⟨b, o, e, hb, hc⟩ := h.2 hl
  refine ⟨b, o, e, hb, fun i hi => ?_⟩
  have hi' : i < m ∧ i < xs.length := by simp at hi; omega
  rw [hc i hi'.2, nth, nth, List.getD_eq_getElem?_getD, List.getD_eq_getElem?_getD, List.getElem?_take_of_lt hi'.1]
/-- A call returns a pair: no list, and an error. -/
def SErrs (n : Int) (w : World) (e : Ending) (w' : World) : Prop := e = .returned (.tuple #[.slice none 0 0, .int .i64 n]) ∧ Below w.heap.size w w'
/-- A call returns a pair: a list that is a beginning of a new block, and no error. -/
def SOpens (w : World) (l : List Int) (m : Nat) (e : Ending) (w' : World) : Prop :=
  e = .returned (.tuple #[.slice (some ⟨w.heap.size, 0, none⟩) m m, .int .i64 0]) ∧ w'.heap[w.heap.size]? = some (.cells (blk .u8 l) 5 (0, 0)) ∧ Below w.heap.size w w'
/-- A call returns a pair: a list of its own, and no error. -/
def SMakes2 (w : World) (xs : List Int) (e : Ending) (w' : World) : Prop := ∃ v, e = .returned (.tuple #[v, .int .i64 0]) ∧ Own .u8 5 w' w.heap.size v xs ∧ Below w.heap.size w w'
theorem take_lenS (xs : List Int) (n m : Nat) (hn : xs.length = n) : (xs.take (n - m)).length = n - m := by simp; omega

/-- The row is what was sealed: of what is ahead of its last bytes. -/
def right16 (xs : List Int) : Prop := xs = sealed16 (xs.take (xs.length - 2))
theorem Open_short_16 (A : Option Addr) (n c : Nat) (w : World) (h2 : n < 2) :
    Calls Try.prog 83 #[.slice A n c] w (SErrs 1 w) := by
  go_enter Try.func83, Try.ntmps83
  go_wp2
  go_ret2
  exact ⟨rfl, Below.refl _ _⟩
set_option maxHeartbeats 1000000 in
theorem Open_wrong_16 (A : Option Addr) (n c : Nat) (xs : List Int) (w : World) (hr : Row .u8 w w.heap.size A xs) (hn : xs.length = n) (hc : n ≤ c) (hm : n ≤ 140737488351232) (h2 : 2 ≤ n) (hne : ¬ right16 xs) :
    Calls Try.prog 83 #[.slice A n c] w (SErrs 5 w) := by
  have hn' := Lib.hid hn
  have hne' : Hid (sealed16 (xs.take (n - 2)) ≠ xs) := Lib.hid fun h => hne (by rw [right16, hn, h])
  have hl : Hid ((sealed16 (xs.take (n - 2))).length = n - 2 + 2) := by show _ = _; rw [sealed16_length, take_lenS xs n 2 hn]
  have hwf := sealed16_wf (hr.take (n - 2)).1
  clear hn hne
  go_enter Try.func83, Try.ntmps83
  go_wp2_with (first
    | (go_at_call 80; refine (Seal_16 _ _ _ (xs.take (n - 2)) _ (hr.take _) (take_lenS xs n 2 hn'.out) (by omega)).mono ?_; rintro e w1 ⟨rfl, hf, bel⟩)
    | (go_at_call 127; refine (equal_no _ _ _ _ _ _ (sealed16 (xs.take (n - 2))) xs _ _ _ (Row.of_block hf _ hwf (List.prefix_refl _)) (hr.below bel) (by have := hl.out; omega) hn'.out hne'.out).mono ?_; rintro e w' ⟨rfl, rfl⟩)
    | (go_at_call 118; go_in))
  go_ret2
  exact ⟨rfl, bel⟩
set_option maxHeartbeats 1000000 in
theorem Open_right_16 (A : Option Addr) (n c : Nat) (xs : List Int) (w : World) (hr : Row .u8 w w.heap.size A xs) (hn : xs.length = n) (hc : n ≤ c) (hm : n ≤ 140737488351232) (h2 : 2 ≤ n) (he : right16 xs) :
    Calls Try.prog 83 #[.slice A n c] w (SOpens w xs (n - 2)) := by
  have hn' := Lib.hid hn
  have he' : Hid (sealed16 (xs.take (n - 2)) = xs) := by rw [right16, hn] at he; exact Lib.hid he.symm
  clear hn he
  go_enter Try.func83, Try.ntmps83
  go_wp2_with (first
    | (go_at_call 80; refine (Seal_16 _ _ _ (xs.take (n - 2)) _ (hr.take _) (take_lenS xs n 2 hn'.out) (by omega)).mono ?_; rintro e w1 ⟨rfl, hf, bel⟩; rw [he'.out] at hf)
    | (go_at_call 127; refine (equal_yes _ _ _ _ _ _ xs _ _ _ (Row.of_block hf _ hr.1 (List.prefix_refl _)) (hr.below bel) (by have := hn'.out; omega) hn'.out).mono ?_; rintro e w' ⟨rfl, rfl⟩)
    | (go_at_call 118; go_in))
  go_ret2
  exact ⟨rfl, hf, bel⟩
theorem refOpen_short_16 (A : Option Addr) (n c : Nat) (w : World) (h2 : n < 2) :
    Calls Try.prog 84 #[.slice A n c] w (SErrs 1 w) := by
  go_enter Try.func84, Try.ntmps84
  go_wp2
  go_ret2
  exact ⟨rfl, Below.refl _ _⟩
set_option maxHeartbeats 1000000 in
theorem refOpen_wrong_16 (A : Option Addr) (n c : Nat) (xs : List Int) (w : World) (hr : Row .u8 w w.heap.size A xs) (hn : xs.length = n) (hc : n ≤ c) (hm : n ≤ 140737488351232) (h2 : 2 ≤ n) (hne : ¬ right16 xs) :
    Calls Try.prog 84 #[.slice A n c] w (SErrs 5 w) := by
  have hn' := Lib.hid hn
  have hne' : Hid (sealed16 (xs.take (n - 2)) ≠ xs) := Lib.hid fun h => hne (by rw [right16, hn, h])
  have hl : Hid ((sealed16 (xs.take (n - 2))).length = n) := by show _ = _; rw [sealed16_length, take_lenS xs n 2 hn]; omega
  have hwf := sealed16_wf (hr.take (n - 2)).1
  clear hn hne
  go_enter Try.func84, Try.ntmps84
  go_wp2_with fail
  refine (refSeal_16 _ _ _ (xs.take (n - 2)) _ (hr.take _) (take_lenS xs n 2 hn'.out) (by omega)).mono ?_
  rintro e w1 ⟨v, rfl, own, bel⟩
  obtain ⟨A1, c1, rfl, row1, _, _⟩ := own.row hwf
  rw [hl.out]
  go_wp2_with fail
  refine (refSame_no _ _ _ _ _ (sealed16 (xs.take (n - 2))) xs _ _ _ row1 (hr.below bel) hl.out hn'.out (by omega) hne'.out).mono ?_
  rintro e w2 ⟨rfl, m, rfl⟩
  go_wp2
  go_ret2
  exact ⟨rfl, bel.trans ⟨rfl, rfl, rfl, Nat.le_refl _, fun _ _ => rfl⟩⟩
set_option maxHeartbeats 1000000 in
theorem refOpen_right_16 (A : Option Addr) (n c : Nat) (xs : List Int) (w : World) (hr : Row .u8 w w.heap.size A xs) (hn : xs.length = n) (hc : n ≤ c) (hm : n ≤ 140737488351232) (h2 : 2 ≤ n) (he : right16 xs) :
    Calls Try.prog 84 #[.slice A n c] w (SMakes2 w (xs.take (n - 2))) := by
  have hn' := Lib.hid hn
  have he' : Hid (sealed16 (xs.take (n - 2)) = xs) := by rw [right16, hn] at he; exact Lib.hid he.symm
  clear hn he
  go_enter Try.func84, Try.ntmps84
  go_wp2_with fail
  refine (refSeal_16 _ _ _ (xs.take (n - 2)) _ (hr.take _) (take_lenS xs n 2 hn'.out) (by omega)).mono ?_
  rintro e w1 ⟨v, rfl, own, bel⟩
  rw [he'.out] at own
  obtain ⟨A1, c1, rfl, row1, _, _⟩ := own.row hr.1
  rw [hn'.out]
  go_wp2_with fail
  refine (refSame_yes _ _ _ _ _ xs _ _ _ row1 (hr.below bel) hn'.out (by omega)).mono ?_
  rintro e w2 ⟨rfl, m, rfl⟩
  have bel1 : Below w.heap.size w (w1.drewN m) := bel.trans ⟨rfl, rfl, rfl, Nat.le_refl _, fun _ _ => rfl⟩
  have hsz := bel1.size
  have hr1 := ((hr.take (n - 2)).below bel1).more hsz
  generalize w1.drewN m = w3 at *
  go_wp2_with fail
  refine (refBehind _ _ _ 0 0 (xs.take (n - 2)) _ hr1 (take_lenS xs n 2 hn'.out) (by omega) (by omega) (by omega)).mono ?_
  rintro e w4 ⟨v4, rfl, own4, bel4⟩
  go_wp2
  go_ret2
  exact ⟨_, rfl, by simpa [le, Own] using own4.mono hsz, bel1.trans (bel4.mono hsz)⟩

/-- The error of opening, and what is opened. -/
def err16 (xs : List Int) : Int := if xs.length < 2 then 1 else if xs = sealed16 (xs.take (xs.length - 2)) then 0 else 5
def opened16 (xs : List Int) : List Int := if xs.length < 2 then [] else if xs = sealed16 (xs.take (xs.length - 2)) then xs.take (xs.length - 2) else []
theorem opened16_wf {xs : List Int} (h : ∀ x ∈ xs, (Lit.int .u8 x).wf = true) : ∀ x ∈ opened16 xs, (Lit.int .u8 x).wf = true := by
  unfold opened16
  split
  · simp
  · split
    · exact fun x hx => h x (List.mem_of_mem_take hx)
    · simp
def OpensAny16 (w : World) (xs : List Int) (e : Ending) (w' : World) : Prop :=
  ∃ A m r, e = .returned (.tuple #[.slice A m m, .int .i64 (err16 xs)]) ∧ (opened16 xs).length = m ∧ (A = none ∧ m = 0 ∨ A = some ⟨w.heap.size, 0, none⟩ ∧ w'.heap[w.heap.size]? = some (.cells (blk .u8 (opened16 xs ++ r)) 5 (0, 0))) ∧ Below w.heap.size w w'
theorem Open_any_16 (A : Option Addr) (n c : Nat) (xs : List Int) (w : World) (hr : Row .u8 w w.heap.size A xs) (hn : xs.length = n) (hc : n ≤ c) (hm : n ≤ 140737488351232) :
    Calls Try.prog 83 #[.slice A n c] w (OpensAny16 w xs) := by
  by_cases h2 : n < 2
  · refine (Open_short_16 A n c w h2).mono fun e w' ⟨he, bel⟩ => ⟨none, 0, [], ?_, ?_, .inl ⟨rfl, rfl⟩, bel⟩
    · rw [he, err16, if_pos (by omega)]
    · rw [opened16, if_pos (by omega)]; rfl
  · by_cases hrt : right16 xs
    · refine (Open_right_16 A n c xs w hr hn hc hm (by omega) hrt).mono fun e w' ⟨he, hf, bel⟩ => ⟨_, n - 2, xs.drop (n - 2), ?_, ?_, .inr ⟨rfl, ?_⟩, bel⟩
      all_goals have hrt : xs = sealed16 (xs.take (xs.length - 2)) := hrt
      · rw [he, err16, if_neg (by omega), if_pos hrt]
      · rw [opened16, if_neg (by omega), if_pos hrt, hn, take_lenS xs n 2 hn]
      · rw [opened16, if_neg (by omega), if_pos hrt, hn, List.take_append_drop]; exact hf
    · refine (Open_wrong_16 A n c xs w hr hn hc hm (by omega) hrt).mono fun e w' ⟨he, bel⟩ => ⟨none, 0, [], ?_, ?_, .inl ⟨rfl, rfl⟩, bel⟩
      all_goals have hrt : ¬ xs = sealed16 (xs.take (xs.length - 2)) := hrt
      · rw [he, err16, if_neg (by omega), if_neg hrt]
      · rw [opened16, if_neg (by omega), if_neg hrt]; rfl
def MakesAny16 (w : World) (xs : List Int) (e : Ending) (w' : World) : Prop := ∃ v, e = .returned (.tuple #[v, .int .i64 (err16 xs)]) ∧ Own .u8 5 w' w.heap.size v (opened16 xs) ∧ Below w.heap.size w w'
theorem refOpen_any_16 (A : Option Addr) (n c : Nat) (xs : List Int) (w : World) (hr : Row .u8 w w.heap.size A xs) (hn : xs.length = n) (hc : n ≤ c) (hm : n ≤ 140737488351232) :
    Calls Try.prog 84 #[.slice A n c] w (MakesAny16 w xs) := by
  by_cases h2 : n < 2
  · refine (refOpen_short_16 A n c w h2).mono fun e w' ⟨he, bel⟩ => ⟨.slice none 0 0, ?_, ?_, bel⟩
    · rw [he, err16, if_pos (by omega)]
    · rw [opened16, if_pos (by omega)]; exact Own.nil _ _ _ _
  · by_cases hrt : right16 xs
    · refine (refOpen_right_16 A n c xs w hr hn hc hm (by omega) hrt).mono fun e w' ⟨v, he, own, bel⟩ => ⟨v, ?_, ?_, bel⟩
      all_goals have hrt : xs = sealed16 (xs.take (xs.length - 2)) := hrt
      · rw [he, err16, if_neg (by omega), if_pos hrt]
      · rw [opened16, if_neg (by omega), if_pos hrt, hn]; exact own
    · refine (refOpen_wrong_16 A n c xs w hr hn hc hm (by omega) hrt).mono fun e w' ⟨he, bel⟩ => ⟨.slice none 0 0, ?_, ?_, bel⟩
      all_goals have hrt : ¬ xs = sealed16 (xs.take (xs.length - 2)) := hrt
      · rw [he, err16, if_neg (by omega), if_neg hrt]
      · rw [opened16, if_neg (by omega), if_neg hrt]; exact Own.nil _ _ _ _

end Go.Proofs.Ytmbjcmagadekpaa
