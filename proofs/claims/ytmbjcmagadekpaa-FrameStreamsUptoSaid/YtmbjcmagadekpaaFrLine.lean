/-
  Contracts of Rtu and OpenRtu, and of the document's answer to them.
-/
import Derived.Test.YtmbjcmagadekpaaOpen2B
import Derived.Test.YtmbjcmagadekpaaFrMath
import Derived.Test.YtmbjcmagadekpaaApartO
import Derived.Test.YtmbjcmagadekpaaHold
import Derived.Test.YtmbjcmagadekpaaMore
namespace Go.Proofs.Ytmbjcmagadekpaa
open Go.RowKit
set_option linter.unusedVariables false

/-- A call returns a pair: a list that is nil or fills a new block, and a number. -/
def GivesAt (w : World) (l : List Int) (err : Int) (e : Ending) (w' : World) : Prop :=
  ∃ A m g, e = .returned (.tuple #[.slice A m m, .int .i64 err]) ∧ l.length = m ∧ w.heap.size ≤ g ∧ Li w' A m g l [] ∧ Below w.heap.size w w'
/-- A slice that is nil, or lies in block g behind the row p. -/
def LiO (w : World) (A : Option Addr) (m g : Nat) (p l r : List Int) : Prop := A = none ∧ m = 0 ∨ A = some ⟨g, p.length, none⟩ ∧ Bk w g (p ++ l ++ r)
theorem LiO.below {w w' : World} {A : Option Addr} {m g : Nat} {p l r : List Int} (h : LiO w A m g p l r) (hb : Below w.heap.size w w') : LiO w' A m g p l r := by
  rcases h with h | ⟨h1, h2⟩
  · exact .inl h
  · exact .inr ⟨h1, h2.below hb⟩
theorem LiO.row {w : World} {A : Option Addr} {m g : Nat} {p l r : List Int} (h : LiO w A m g p l r) (hm : l.length = m) (hw : ∀ x ∈ l, (Lit.int .u8 x).wf = true) : Row .u8 w w.heap.size A l := by
  rcases h with ⟨h1, h2⟩ | ⟨h1, h2⟩
  · have : l = [] := List.eq_nil_of_length_eq_zero (by omega)
    subst this
    exact Row.nil _ _ _ _
  · subst h1
    exact (Row.inside h2 l hw (List.prefix_refl _)).more h2.lt
theorem LiO.lt {w : World} {A : Option Addr} {m g : Nat} {p l r : List Int} (h : LiO w A m g p l r) : A = none ∨ g < w.heap.size := by
  rcases h with ⟨h1, _⟩ | ⟨_, h2⟩
  · exact .inl h1
  · exact .inr h2.lt

/-- What is wrong with a unit's address and a PDU, and the frame on a line. -/
def rtuE (u : Int) (l : List Int) : Int := if 1 ≤ u ∧ u ≤ 247 then frChk l else 24
def rtuL (u : Int) (l : List Int) : List Int := if rtuE u l = 0 then sealed16 (u :: l) else []
/-- What is wrong with a frame on a line, the unit's address and the PDU. -/
def ortE (b : List Int) : Int := if b.length < 4 then 1 else if 256 < b.length then 2 else if err16 b ≠ 0 then err16 b else if 1 ≤ nth b 0 ∧ nth b 0 ≤ 247 then 0 else 24
def ortU (b : List Int) : Int := if ortE b = 0 then nth b 0 else 0
def ortL (b : List Int) : List Int := if ortE b = 0 then (b.take (b.length - 2)).drop 1 else []

theorem isUnit_any (u : Int) (w : World) : Calls Try.prog 78 #[.int .u8 u] w fun e w' => e = .returned (.bool (decide (1 ≤ u ∧ u ≤ 247))) ∧ w' = w := by
  go_enter Try.func78, Try.ntmps78
  go_wp2
  all_goals (go_ret; refine ⟨?_, rfl⟩; first | rfl | (simp [*]; done) | (simp [*]; omega))
theorem checkPdu_any (A : Option Addr) (n c : Nat) (l : List Int) (hn : l.length = n) (w : World) : Calls Try.prog 79 #[.slice A n c] w fun e w' => e = .returned (.int .i64 (frChk l)) ∧ w' = w := by
  unfold frChk
  rw [hn]
  clear hn
  by_cases h0 : n = 0
  · subst h0
    rw [if_pos rfl]
    go_enter Try.func79, Try.ntmps79
    go_wp2
    go_ret
    exact ⟨rfl, rfl⟩
  · rw [if_neg h0]
    have t0 : ((n : Int) == 0) = false := by simp; omega
    by_cases h1 : 253 < n
    · rw [if_pos h1]
      have h2 : (253 : Int) < (n : Int) := by omega
      clear h0
      go_enter Try.func79, Try.ntmps79
      go_wp2
      go_ret
      exact ⟨rfl, rfl⟩
    · rw [if_neg h1]
      have h2 : ¬ (253 : Int) < (n : Int) := by omega
      clear h0
      go_enter Try.func79, Try.ntmps79
      go_wp2
      go_ret
      exact ⟨rfl, rfl⟩
theorem refPdu_any (A : Option Addr) (n c : Nat) (l : List Int) (hn : l.length = n) (w : World) : Calls Try.prog 81 #[.slice A n c] w fun e w' => e = .returned (.int .i64 (frChk l)) ∧ w' = w := by
  unfold frChk
  rw [hn]
  clear hn
  by_cases h0 : n = 0
  · subst h0
    rw [if_pos rfl]
    go_enter Try.func81, Try.ntmps81
    go_wp2
    go_ret
    exact ⟨rfl, rfl⟩
  · rw [if_neg h0]
    have t0 : ((n : Int) == 0) = false := by simp; omega
    by_cases h1 : 253 < n
    · rw [if_pos h1]
      have h2 : (253 : Int) < (n : Int) := by omega
      clear h0
      go_enter Try.func81, Try.ntmps81
      go_wp2
      go_ret
      exact ⟨rfl, rfl⟩
    · rw [if_neg h1]
      have h2 : ¬ (253 : Int) < (n : Int) := by omega
      clear h0
      go_enter Try.func81, Try.ntmps81
      go_wp2
      go_ret
      exact ⟨rfl, rfl⟩

theorem rtu_unit (A : Option Addr) (n c : Nat) (u : Int) (l : List Int) (w : World) (h : ¬ (1 ≤ u ∧ u ≤ 247)) :
    Calls Try.prog 31 #[.int .u8 u, .slice A n c] w (GivesAt w (rtuL u l) (rtuE u l)) := by
  have HE : Hid (rtuE u l = 24) := Lib.hid (by rw [rtuE, if_neg h])
  have HL : Hid (rtuL u l = []) := Lib.hid (by rw [rtuL, HE.out]; rfl)
  rw [HE.out, HL.out]
  have hd := decide_eq_false h
  clear h
  go_enter Try.func31, Try.ntmps31
  go_wp2_with fail
  refine (isUnit_any u _).mono ?_
  rw [hd]
  rintro e w1 ⟨rfl, rfl⟩
  go_wp2
  go_ret2
  exact ⟨none, 0, w1.heap.size, rfl, rfl, Nat.le_refl _, .inl ⟨rfl, rfl⟩, Below.refl _ _⟩
theorem rtu_bad (A : Option Addr) (n c : Nat) (u : Int) (l : List Int) (w : World) (hn : l.length = n) (h : 1 ≤ u ∧ u ≤ 247) (h0 : frChk l ≠ 0) :
    Calls Try.prog 31 #[.int .u8 u, .slice A n c] w (GivesAt w (rtuL u l) (rtuE u l)) := by
  have HE : Hid (rtuE u l = frChk l) := Lib.hid (by rw [rtuE, if_pos h])
  have HL : Hid (rtuL u l = []) := Lib.hid (by rw [rtuL, HE.out, if_neg h0])
  rw [HE.out, HL.out]
  have hd := decide_eq_true h
  have HC := Lib.hid (checkPdu_any A n c l hn w)
  obtain ⟨E, hE⟩ : ∃ E, Hid (frChk l = E) := ⟨_, Lib.hid rfl⟩
  rw [hE.out] at HC h0 ⊢
  have u1 : (E != 0) = true := by simpa using h0
  have u2 : (E == 0) = false := beq_false_of_ne h0
  clear h h0 hn
  go_enter Try.func31, Try.ntmps31
  go_wp2_with fail
  refine (isUnit_any u _).mono ?_
  rw [hd]
  rintro e w1 ⟨rfl, rfl⟩
  go_wp2_with fail
  refine HC.out.mono ?_
  rintro e w' ⟨rfl, rfl⟩
  go_wp2
  go_ret2
  exact ⟨none, 0, w'.heap.size, rfl, rfl, Nat.le_refl _, .inl ⟨rfl, rfl⟩, Below.refl _ _⟩
set_option maxHeartbeats 1000000 in
theorem rtu_yes (A : Option Addr) (n c : Nat) (u : Int) (l : List Int) (w : World) (hr : Row .u8 w w.heap.size A l) (hn : l.length = n) (h : 1 ≤ u ∧ u ≤ 247) (h0 : frChk l = 0) :
    Calls Try.prog 31 #[.int .u8 u, .slice A n c] w (GivesAt w (rtuL u l) (rtuE u l)) := by
  have HE : Hid (rtuE u l = 0) := Lib.hid (by rw [rtuE, if_pos h, h0])
  have HL : Hid (rtuL u l = sealed16 (u :: l)) := Lib.hid (by rw [rtuL, HE.out]; rfl)
  rw [HE.out, HL.out]
  have hd := decide_eq_true h
  have HC := Lib.hid (checkPdu_any A n c l hn w)
  rw [h0] at HC
  have hle := frChk_le h0
  rw [hn] at hle
  have hu : (Lit.int .u8 u).wf = true := by have := wf_byte u.toNat (by omega); rwa [show ((u.toNat : Nat) : Int) = u by omega] at this
  have HR := Lib.hid (hr.alloc (Nat.le_refl _) (.cells (blk .u8 [u]) 5))
  have HN := Lib.hid hn
  have hown := Own.laid (k := .u8) (base := w.heap.size) (n := 1) (heap_alloc_new w (.cells (blk .u8 [u]) 5)) (Nat.le_refl _) (show [u].length = 1 from rfl) (by simp [maxLen])
  have bel := bel_alloc w (.cells (blk .u8 [u]) 5)
  have hwf : ∀ x ∈ u :: l, (Lit.int .u8 x).wf = true := fun x hx => by
    rcases List.mem_cons.1 hx with rfl | hx
    · exact hu
    · exact hr.1 x hx
  have HW := Lib.hid hwf
  have HM : Hid ((u :: l).length = n + 1) := Lib.hid (by rw [List.length_cons, hn])
  have HS : Hid ((sealed16 (u :: l)).length = n + 1 + 2) := Lib.hid (by rw [sealed16_length, HM.out])
  have hun : 1 ≤ u ∧ u ≤ 247 := h
  clear h h0 hn hr hwf hu
  go_enter Try.func31, Try.ntmps31
  go_wp2_with fail
  refine (isUnit_any u _).mono ?_
  rw [hd]
  rintro e w1 ⟨rfl, rfl⟩
  clear hd
  go_wp2_with fail
  refine HC.out.mono ?_
  rintro e w' ⟨rfl, rfl⟩
  go_wp2_with (at_builtin; refine wpList_append_row _ rfl _ _ 34 rfl w'.heap.size .u8 5 1 Try.underlying34 info_u8 (.slice (some ⟨w'.heap.size, 0, none⟩) 1 1) [u] rfl hown _ _ n c l rfl HR.out HN.out (by simp; omega) (by simp [maxLen]; omega) (by simp) ?_; intro v1 w1 hown1 hg1)
  have bel1 := Below.own bel (by simp) hown hg1
  rw [List.singleton_append] at hown1
  obtain ⟨A1, c1, rfl, row1, _, _⟩ := hown1.row HW.out
  rw [HM.out]
  clear HC HR hown bel hg1
  go_wp2_with fail
  refine (Seal_16 _ _ _ (u :: l) _ row1 HM.out (by omega)).mono ?_
  rintro e w2 ⟨rfl, hb2, bel2⟩
  go_wp2
  go_ret2
  exact ⟨_, _, w1.heap.size, rfl, HS.out, bel1.size, .inr ⟨rfl, by rw [List.append_nil]; exact hb2⟩, bel1.trans (bel2.mono bel1.size)⟩
theorem rtu_any (A : Option Addr) (n c : Nat) (u : Int) (l : List Int) (w : World) (hr : Row .u8 w w.heap.size A l) (hn : l.length = n) :
    Calls Try.prog 31 #[.int .u8 u, .slice A n c] w (GivesAt w (rtuL u l) (rtuE u l)) := by
  by_cases h : 1 ≤ u ∧ u ≤ 247
  · by_cases h0 : frChk l = 0
    · exact rtu_yes A n c u l w hr hn h h0
    · exact rtu_bad A n c u l w hn h h0
  · exact rtu_unit A n c u l w h
theorem refRtu_unit (A : Option Addr) (n c : Nat) (u : Int) (l : List Int) (w : World) (h : ¬ (1 ≤ u ∧ u ≤ 247)) :
    Calls Try.prog 32 #[.int .u8 u, .slice A n c] w (GivesOwn w (rtuL u l) (rtuE u l)) := by
  have HE : Hid (rtuE u l = 24) := Lib.hid (by rw [rtuE, if_neg h])
  have HL : Hid (rtuL u l = []) := Lib.hid (by rw [rtuL, HE.out]; rfl)
  rw [HE.out, HL.out]
  have hs : u < 1 ∨ ¬ u < 1 ∧ 247 < u := by omega
  clear h
  rcases hs with hs | ⟨hs, hs2⟩
  all_goals
    go_enter Try.func32, Try.ntmps32
    go_wp2
    go_ret2
    exact ⟨_, rfl, Own.nil _ _ _ _, Below.refl _ _⟩
theorem refRtu_bad (A : Option Addr) (n c : Nat) (u : Int) (l : List Int) (w : World) (hn : l.length = n) (h : 1 ≤ u ∧ u ≤ 247) (h0 : frChk l ≠ 0) :
    Calls Try.prog 32 #[.int .u8 u, .slice A n c] w (GivesOwn w (rtuL u l) (rtuE u l)) := by
  have HE : Hid (rtuE u l = frChk l) := Lib.hid (by rw [rtuE, if_pos h])
  have HL : Hid (rtuL u l = []) := Lib.hid (by rw [rtuL, HE.out, if_neg h0])
  rw [HE.out, HL.out]
  have HC := Lib.hid (refPdu_any A n c l hn w)
  obtain ⟨E, hE⟩ : ∃ E, Hid (frChk l = E) := ⟨_, Lib.hid rfl⟩
  rw [hE.out] at HC h0 ⊢
  have u1 : (E != 0) = true := by simpa using h0
  have u2 : (E == 0) = false := beq_false_of_ne h0
  have hs1 : ¬ u < 1 := by omega
  have hs2 : ¬ 247 < u := by omega
  clear h h0 hn
  go_enter Try.func32, Try.ntmps32
  go_wp2_with fail
  refine HC.out.mono ?_
  rintro e w' ⟨rfl, rfl⟩
  go_wp2
  go_ret2
  exact ⟨_, rfl, Own.nil _ _ _ _, Below.refl _ _⟩
set_option maxHeartbeats 1000000 in
theorem refRtu_yes (A : Option Addr) (n c : Nat) (u : Int) (l : List Int) (w : World) (hr : Row .u8 w w.heap.size A l) (hn : l.length = n) (h : 1 ≤ u ∧ u ≤ 247) (h0 : frChk l = 0) :
    Calls Try.prog 32 #[.int .u8 u, .slice A n c] w (GivesOwn w (rtuL u l) (rtuE u l)) := by
  have HE : Hid (rtuE u l = 0) := Lib.hid (by rw [rtuE, if_pos h, h0])
  have HL : Hid (rtuL u l = sealed16 (u :: l)) := Lib.hid (by rw [rtuL, HE.out]; rfl)
  rw [HE.out, HL.out]
  have HC := Lib.hid (refPdu_any A n c l hn w)
  rw [h0] at HC
  have hle := frChk_le h0
  rw [hn] at hle
  have hu : (Lit.int .u8 u).wf = true := by have := wf_byte u.toNat (by omega); rwa [show ((u.toNat : Nat) : Int) = u by omega] at this
  have HR := Lib.hid (hr.alloc (Nat.le_refl _) (.cells (blk .u8 [u]) 5))
  have HN := Lib.hid hn
  have hown := Own.laid (k := .u8) (base := w.heap.size) (n := 1) (heap_alloc_new w (.cells (blk .u8 [u]) 5)) (Nat.le_refl _) (show [u].length = 1 from rfl) (by simp [maxLen])
  have bel := bel_alloc w (.cells (blk .u8 [u]) 5)
  have hwf : ∀ x ∈ u :: l, (Lit.int .u8 x).wf = true := fun x hx => by
    rcases List.mem_cons.1 hx with rfl | hx
    · exact hu
    · exact hr.1 x hx
  have HW := Lib.hid hwf
  have HM : Hid ((u :: l).length = n + 1) := Lib.hid (by rw [List.length_cons, hn])
  have HS : Hid ((sealed16 (u :: l)).length = n + 1 + 2) := Lib.hid (by rw [sealed16_length, HM.out])
  have hs1 : ¬ u < 1 := by omega
  have hs2 : ¬ 247 < u := by omega
  clear h h0 hn hr hwf hu
  go_enter Try.func32, Try.ntmps32
  go_wp2_with fail
  refine HC.out.mono ?_
  rintro e w' ⟨rfl, rfl⟩
  go_wp2_with (at_builtin; refine wpList_append_row _ rfl _ _ 34 rfl w'.heap.size .u8 5 1 Try.underlying34 info_u8 (.slice (some ⟨w'.heap.size, 0, none⟩) 1 1) [u] rfl hown _ _ n c l rfl HR.out HN.out (by simp; omega) (by simp [maxLen]; omega) (by simp) ?_; intro v1 w1 hown1 hg1)
  have bel1 := Below.own bel (by simp) hown hg1
  rw [List.singleton_append] at hown1
  obtain ⟨A1, c1, rfl, row1, _, _⟩ := hown1.row HW.out
  rw [HM.out]
  clear HC HR hown bel hg1
  go_wp2_with fail
  refine (refSeal_16 _ _ _ (u :: l) _ row1 HM.out (by omega)).mono ?_
  rintro e w2 ⟨v2, rfl, own2, bel2⟩
  go_wp2
  go_ret2
  exact ⟨_, rfl, own2.mono bel1.size, bel1.trans (bel2.mono bel1.size)⟩
theorem refRtu_any (A : Option Addr) (n c : Nat) (u : Int) (l : List Int) (w : World) (hr : Row .u8 w w.heap.size A l) (hn : l.length = n) :
    Calls Try.prog 32 #[.int .u8 u, .slice A n c] w (GivesOwn w (rtuL u l) (rtuE u l)) := by
  by_cases h : 1 ≤ u ∧ u ≤ 247
  · by_cases h0 : frChk l = 0
    · exact refRtu_yes A n c u l w hr hn h h0
    · exact refRtu_bad A n c u l w hn h h0
  · exact refRtu_unit A n c u l w h
end Go.Proofs.Ytmbjcmagadekpaa
