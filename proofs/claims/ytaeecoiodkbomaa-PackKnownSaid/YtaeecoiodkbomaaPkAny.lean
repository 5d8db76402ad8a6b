/-
  Put and Get of package pack, and the document's, at all arguments.
-/
import Derived.Test.YtaeecoiodkbomaaPkGet
import Derived.Test.YtaeecoiodkbomaaHold
namespace Go.Proofs.Ytaeecoiodkbomaa
open Go.RowKit
set_option linter.unusedVariables false

/-- May a number be put in n bytes? -/
def okPut (v n : Int) : Prop := (1 ≤ n ∧ n ≤ 8) ∧ v.toNat < 256 ^ n.toNat
instance (v n : Int) : Decidable (okPut v n) := inferInstanceAs (Decidable ((1 ≤ n ∧ n ≤ 8) ∧ v.toNat < 256 ^ n.toNat))
def putL (xs : List Int) (v n : Int) : List Int := if okPut v n then xs ++ be n.toNat v.toNat else []
def putE (v n : Int) : Int := if okPut v n then 0 else 3
theorem putL_wf {xs : List Int} (h : ∀ x ∈ xs, (Lit.int .u8 x).wf = true) (v n : Int) : ∀ x ∈ putL xs v n, (Lit.int .u8 x).wf = true := by
  unfold putL
  split
  · exact wf_append h (be_wf _ _)
  · simp
theorem putL_le (xs : List Int) (v n : Int) : (putL xs v n).length ≤ xs.length + 8 := by
  unfold putL
  split
  · rename_i h
    have := h.1.2
    rw [List.length_append, be_length]; omega
  · simp
theorem Put_any (A : Option Addr) (m c : Nat) (v n : Int) (xs : List Int) (w : World) (hr : Row .u8 w w.heap.size A xs) (hm : xs.length = m) (hb : m ≤ 140737488351232) (hv : (Lit.int .u64 v).wf = true) :
    Calls Try.prog 14 #[.slice A m c, .int .u64 v, .int .i64 n] w (Gives w (putL xs v n) (putE v n)) := by
  have hv2 := wf_u64 hv
  obtain ⟨v, rfl⟩ := Int.eq_ofNat_of_zero_le hv2.1
  have hv3 : v < 18446744073709551616 := Int.ofNat_lt.1 hv2.2
  by_cases h1 : 1 ≤ n ∧ n ≤ 8
  · obtain ⟨n, rfl⟩ := Int.eq_ofNat_of_zero_le (show 0 ≤ n by omega)
    by_cases h2 : v < 256 ^ n
    · have ok : okPut v n := ⟨h1, h2⟩
      refine (Put_ok A m c v n xs w hr hm hb (by omega) (by omega) hv3 h2).mono fun e w' ⟨he, hg, hbl⟩ => ?_
      rw [putL, putE, if_pos ok, if_pos ok]
      exact ⟨_, _, he, by rw [List.length_append, hm, Int.toNat_natCast, be_length], .inr ⟨rfl, by rw [List.append_nil]; exact hg⟩, hbl⟩
    · have ok : ¬ okPut v n := fun h => h2 h.2
      refine (Put_great A m c v n w (by omega) (by omega) hv3 h2).mono fun e w' ⟨he, hw⟩ => ?_
      subst hw
      rw [putL, putE, if_neg ok, if_neg ok]
      exact ⟨_, _, he, rfl, .inl ⟨rfl, rfl⟩, Below.refl _ _⟩
  · have ok : ¬ okPut v n := fun h => h1 h.1
    refine (Put_width A m c v n w h1).mono fun e w' ⟨he, hw⟩ => ?_
    subst hw
    rw [putL, putE, if_neg ok, if_neg ok]
    exact ⟨_, _, he, rfl, .inl ⟨rfl, rfl⟩, Below.refl _ _⟩
theorem refPut_any (A : Option Addr) (m c : Nat) (v n : Int) (xs : List Int) (w : World) (hr : Row .u8 w w.heap.size A xs) (hm : xs.length = m) (hb : m ≤ 140737488351232) (hv : (Lit.int .u64 v).wf = true) :
    Calls Try.prog 15 #[.slice A m c, .int .u64 v, .int .i64 n] w (GivesOwn w (putL xs v n) (putE v n)) := by
  have hv2 := wf_u64 hv
  obtain ⟨v, rfl⟩ := Int.eq_ofNat_of_zero_le hv2.1
  have hv3 : v < 18446744073709551616 := Int.ofNat_lt.1 hv2.2
  by_cases h1 : 1 ≤ n ∧ n ≤ 8
  · obtain ⟨n, rfl⟩ := Int.eq_ofNat_of_zero_le (show 0 ≤ n by omega)
    by_cases h2 : v < 256 ^ n
    · have ok : okPut v n := ⟨h1, h2⟩
      refine (refPut_ok A m c v n xs w hr hm hb (by omega) (by omega) hv3 h2).mono fun e w' ⟨u, he, ho, hbl⟩ => ?_
      rw [putL, putE, if_pos ok, if_pos ok]
      exact ⟨_, he, ho, hbl⟩
    · have ok : ¬ okPut v n := fun h => h2 h.2
      refine (refPut_no A m c v n w ((refFits_any v n w (by omega) (by omega) hv3).mono fun e w' ⟨he, hw⟩ => ⟨by rw [he, decide_eq_false h2], hw⟩)).mono fun e w' ⟨he, hw⟩ => ?_
      subst hw
      rw [putL, putE, if_neg ok, if_neg ok]
      exact ⟨_, he, Own.nil _ _ _ _, Below.refl _ _⟩
  · have ok : ¬ okPut v n := fun h => h1 h.1
    refine (refPut_no A m c v n w (refFits_width v n w h1)).mono fun e w' ⟨he, hw⟩ => ?_
    subst hw
    rw [putL, putE, if_neg ok, if_neg ok]
    exact ⟨_, he, Own.nil _ _ _ _, Below.refl _ _⟩

/-- What Get tells: the number, and the error. -/
def okAt (m : Nat) (a n : Int) : Prop := ¬ (a < 0 ∨ (m : Int) - n < a)
instance (m : Nat) (a n : Int) : Decidable (okAt m a n) := inferInstanceAs (Decidable (¬ (a < 0 ∨ (m : Int) - n < a)))
def getV (xs : List Int) (a n : Int) : Int := if (1 ≤ n ∧ n ≤ 8) ∧ okAt xs.length a n then ((bval ((xs.drop a.toNat).take n.toNat) : Nat) : Int) else 0
def getE (xs : List Int) (a n : Int) : Int := if 1 ≤ n ∧ n ≤ 8 then if okAt xs.length a n then 0 else 1 else 3
theorem Get_any (A : Option Addr) (m c : Nat) (a n : Int) (xs : List Int) (w : World) (B : Nat) (hr : Row .u8 w B A xs) (hm : xs.length = m) (hc : m ≤ c) (hb : m ≤ 140737488351232) :
    Calls Try.prog 19 #[.slice A m c, .int .i64 a, .int .i64 n] w (Tells (getV xs a n) (getE xs a n) w) := by
  subst hm
  by_cases h1 : 1 ≤ n ∧ n ≤ 8
  · by_cases h2 : a < 0 ∨ (xs.length : Int) - n < a
    · rw [show getV xs a n = 0 from if_neg (fun h => h.2 h2), show getE xs a n = 1 by rw [getE, if_pos h1]; exact if_neg (fun h => h h2)]
      exact Get_short _ _ _ _ _ _ (by omega) h1.1 h1.2 h2
    · rw [show getV xs a n = _ from if_pos ⟨h1, h2⟩, show getE xs a n = 0 by rw [getE, if_pos h1]; exact if_pos h2]
      obtain ⟨n, rfl⟩ := Int.eq_ofNat_of_zero_le (show 0 ≤ n by omega)
      obtain ⟨a, rfl⟩ := Int.eq_ofNat_of_zero_le (show 0 ≤ a by omega)
      exact Get_ok _ _ _ a n xs _ B hr rfl hc (by omega) (by omega) (by omega) (by omega)
  · rw [show getV xs a n = 0 from if_neg (fun h => h1 h.1), show getE xs a n = 3 from if_neg h1]
    exact Get_width _ _ _ _ _ _ h1
theorem refGet_any (A : Option Addr) (m c : Nat) (a n : Int) (xs : List Int) (w : World) (B : Nat) (hr : Row .u8 w B A xs) (hm : xs.length = m) (hb : m ≤ 140737488351232) :
    Calls Try.prog 20 #[.slice A m c, .int .i64 a, .int .i64 n] w (Tells (getV xs a n) (getE xs a n) w) := by
  subst hm
  by_cases h1 : 1 ≤ n ∧ n ≤ 8
  · by_cases h2 : a < 0 ∨ (xs.length : Int) - n < a
    · rw [show getV xs a n = 0 from if_neg (fun h => h.2 h2), show getE xs a n = 1 by rw [getE, if_pos h1]; exact if_neg (fun h => h h2)]
      exact refGet_short _ _ _ _ _ _ (by omega) h1.1 h1.2 h2
    · rw [show getV xs a n = _ from if_pos ⟨h1, h2⟩, show getE xs a n = 0 by rw [getE, if_pos h1]; exact if_pos h2]
      obtain ⟨n, rfl⟩ := Int.eq_ofNat_of_zero_le (show 0 ≤ n by omega)
      obtain ⟨a, rfl⟩ := Int.eq_ofNat_of_zero_le (show 0 ≤ a by omega)
      exact refGet_ok _ _ _ a n xs _ B hr rfl (by omega) (by omega) (by omega) (by omega)
  · rw [show getV xs a n = 0 from if_neg (fun h => h1 h.1), show getE xs a n = 3 from if_neg h1]
    exact refGet_width _ _ _ _ _ _ h1
end Go.Proofs.Ytaeecoiodkbomaa
