/-
  Words of package pack, and the document's, at all lists of at most 2^16 bytes.
-/
import Derived.Test.YtojjcmkadmofdaaPkWds
namespace Go.Proofs.Ytojjcmkadmofdaa
open Go.RowKit
set_option linter.unusedVariables false

def wordsL (ys : List Int) : List Int := if ys.length % 2 = 1 then [] else wwords ys
def wordsE (ys : List Int) : Int := if ys.length % 2 = 1 then 22 else 0
theorem wordsL_wf {ys : List Int} (h : ∀ x ∈ ys, (Lit.int .u8 x).wf = true) : ∀ x ∈ wordsL ys, (Lit.int .u16 x).wf = true := by
  unfold wordsL
  split
  · simp
  · exact wwords_wf ys h
theorem wordsL_le (ys : List Int) : (wordsL ys).length ≤ ys.length := by
  unfold wordsL
  split
  · simp
  · rw [wwords_length]; omega
theorem Words_any (A : Option Addr) (n c : Nat) (ys : List Int) (w : World) (hr : Row .u8 w w.heap.size A ys) (hn : ys.length = n) (hc : n ≤ c) (hb : n ≤ 1000000) :
    Calls Try.prog 83 #[.slice A n c] w (W.Gives w (wordsL ys) (wordsE ys)) := by
  by_cases h : n % 2 = 1
  · refine (Words_odd A n c w hb h).mono fun e w' ⟨he, hw⟩ => ?_
    subst hw
    rw [wordsL, wordsE, if_pos (by rw [hn]; exact h), if_pos (by rw [hn]; exact h)]
    exact ⟨_, _, he, rfl, .inl ⟨rfl, rfl⟩, Below.refl _ _⟩
  · obtain ⟨m, hm⟩ : ∃ m, n = 2 * m := ⟨n / 2, by omega⟩
    refine (Words_ok A n c m ys w hr hn hc hb hm).mono fun e w' ⟨he, hw⟩ => ?_
    subst hw
    rw [wordsL, wordsE, if_neg (by rw [hn]; exact h), if_neg (by rw [hn]; exact h)]
    exact ⟨_, _, he, by rw [wwords_length]; omega, .inr ⟨rfl, by rw [List.append_nil]; exact heap_alloc_new w _⟩, (Below.refl _ _).alloc (Nat.le_refl _) _⟩
theorem Lays.li {w w' : World} {l : List Int} {m : Nat} {e : Ending} (h : Lays .u8 5 w l m e w') : e = .returned (.slice (some ⟨w.heap.size, 0, none⟩) m m) ∧ Li w' (some ⟨w.heap.size, 0, none⟩) m w.heap.size l [] ∧ Below w.heap.size w w' :=
  ⟨h.1, .inr ⟨rfl, by rw [List.append_nil]; exact h.2.1⟩, h.2.2⟩
end Go.Proofs.Ytojjcmkadmofdaa
