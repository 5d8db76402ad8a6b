/-
  Contract of bytes.Equal: two rows are the same, or are not.
-/
import Derived.Test.YtmbjcmagadekpaaPlain
import Derived.Test.YtmbjcmagadekpaaProg
import Derived.Lib.Bytes
namespace Go.Proofs.Ytmbjcmagadekpaa
open Go.RowKit
set_option linter.unusedVariables false


/-- What 'string(b)' of a row of bytes is. -/
theorem conv_row (w : World) (B : Nat) (A : Option Addr) (n c : Nat) (xs : List Int) (h : Row .u8 w B A xs) (hn : xs.length = n) : (convert 34 9 (.slice A n c)).run Try.prog w = .ok (.string (strOfNums xs)) w := by
  rcases Nat.eq_zero_or_pos n with h0 | h0
  · subst h0
    have hx : xs = [] := List.eq_nil_of_length_eq_zero hn
    subst hx
    rw [run_convert_bytes_string w _ _ _ _ 0 c Try.underlying34 Try.underlying5 Try.underlying9]
    cases A <;> simp [Conv.bytesToString, loadCells]
    all_goals rfl
  · obtain ⟨b, o, rfl, _, hc⟩ := h.2 (by omega)
    exact run_convert_bytes_arg (P := Try.prog) w _ _ Try.underlying34 Try.underlying5 b o n c xs hn (fun i hi => hc i (by omega)) _ Try.underlying9

theorem strs_eq (xs ys : List Int) (hx : ∀ x ∈ xs, (Lit.int .u8 x).wf = true) (hy : ∀ x ∈ ys, (Lit.int .u8 x).wf = true) (h : (strOfNums xs).toList = (strOfNums ys).toList) : xs = ys := by
  have inj : ∀ a b : Int, (Lit.int .u8 a).wf = true → (Lit.int .u8 b).wf = true → UInt8.ofNat a.toNat = UInt8.ofNat b.toNat → a = b := by
    intro a b ha hb e
    have ha := wf_u8 ha
    have hb := wf_u8 hb
    have := congrArg UInt8.toNat e
    simp at this
    omega
  rw [Lib.strOfNums_toList, Lib.strOfNums_toList] at h
  unfold Lib.bytesOf at h
  revert ys
  induction xs with
  | nil => intro ys _ h; cases ys with | nil => rfl | cons _ _ => simp at h
  | cons a xs ih =>
    intro ys hy h
    cases ys with
    | nil => simp at h
    | cons b ys =>
      simp only [List.map_cons, List.cons.injEq] at h
      rw [inj a b (hx a (by simp)) (hy b (by simp)) h.1, ih (fun x hm => hx x (by simp [hm])) ys (fun x hm => hy x (by simp [hm])) h.2]

theorem equal_yes (A A' : Option Addr) (n n' c c' : Nat) (xs : List Int) (w : World) (B B' : Nat) (hr : Row .u8 w B A xs) (hr' : Row .u8 w B' A' xs) (hn : xs.length = n) (hn' : xs.length = n') :
    Calls Try.prog 127 #[.slice A n c, .slice A' n' c'] w fun e w' => e = .returned (.bool true) ∧ w = w' := by
  have h1 := conv_row w B A n c xs hr hn
  have h2 := conv_row w B' A' n' c' xs hr' hn'
  clear hr hr' hn hn'
  generalize strOfNums xs = s at *
  have h3 : (s.toList == s.toList) = true := by simp
  go_enter Try.func127, Try.ntmps127
  go_wp2
  go_ret
  exact ⟨rfl, rfl⟩
theorem equal_no (A A' : Option Addr) (n n' c c' : Nat) (xs ys : List Int) (w : World) (B B' : Nat) (hr : Row .u8 w B A xs) (hr' : Row .u8 w B' A' ys) (hn : xs.length = n) (hn' : ys.length = n') (hne : xs ≠ ys) :
    Calls Try.prog 127 #[.slice A n c, .slice A' n' c'] w fun e w' => e = .returned (.bool false) ∧ w = w' := by
  have h1 := conv_row w B A n c xs hr hn
  have h2 := conv_row w B' A' n' c' ys hr' hn'
  have h3 : ((strOfNums xs).toList == (strOfNums ys).toList) = false := by
    rw [beq_eq_false_iff_ne]
    exact fun h => hne (strs_eq xs ys hr.1 hr'.1 h)
  clear hr hr' hn hn' hne
  generalize strOfNums xs = s at *
  generalize strOfNums ys = t at *
  go_enter Try.func127, Try.ntmps127
  go_wp2
  go_ret
  exact ⟨rfl, rfl⟩

end Go.Proofs.Ytmbjcmagadekpaa
