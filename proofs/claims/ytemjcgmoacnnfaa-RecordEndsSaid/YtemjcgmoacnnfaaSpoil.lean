/-
  Contracts of SpoilBytes and ApartBytes: rows in blocks of their own are written over one by one.
-/
import Derived.Test.YtemjcgmoacnnfaaProg
import Derived.Test.YtemjcgmoacnnfaaOwn
import Derived.Test.YtemjcgmoacnnfaaBlock
namespace Go.Proofs.Ytemjcgmoacnnfaa
open Go.RowKit
set_option linter.unusedVariables false
/-- A list with each byte written over, up to a place. -/
def spoil8 (k : Nat) (l : List Int) : List Int := (l.take k).map (bits .xor .u8 · 90) ++ l.drop k
theorem spoil8_length (k : Nat) (l : List Int) : (spoil8 k l).length = l.length := by simp [spoil8]; omega
theorem xor90_wf (x : Int) (h : (Lit.int .u8 x).wf = true) : (Lit.int .u8 (bits .xor .u8 x 90)).wf = true := by
  have hx := wf_u8 h
  obtain ⟨n, rfl⟩ := Int.eq_ofNat_of_zero_le hx.1
  have hn : n < 256 := by omega
  have := u8_xor_nat n 90 hn (by omega)
  show (Lit.int .u8 (bits .xor .u8 (n : Int) ((90 : Nat) : Int))).wf = true
  rw [this]
  have hlt : n ^^^ 90 < 256 := Nat.xor_lt_two_pow (n := 8) hn (by omega)
  simp [Lit.wf, IntKind.min, IntKind.max, IntKind.signed, IntKind.bits]; omega
theorem spoil8_wf (k : Nat) (l : List Int) (h : ∀ x ∈ l, (Lit.int .u8 x).wf = true) : ∀ x ∈ spoil8 k l, (Lit.int .u8 x).wf = true := by
  intro x hx
  rcases List.mem_append.1 hx with hx | hx
  · obtain ⟨y, hy, rfl⟩ := List.mem_map.1 hx
    exact xor90_wf y (h y (List.mem_of_mem_take hy))
  · exact h x (List.mem_of_mem_drop hx)
theorem spoil8_at (k : Nat) (l : List Int) (hk : k < l.length) : nth (spoil8 k l) k = nth l k := by
  have hl : ((l.take k).map (bits .xor .u8 · 90)).length = k := by simp; omega
  have := nth_right ((l.take k).map (bits .xor .u8 · 90)) (l.drop k) 0
  rw [hl, Nat.add_zero] at this
  rw [spoil8, this, nth, nth, List.getD_eq_getElem?_getD, List.getD_eq_getElem?_getD, List.getElem?_drop, Nat.add_zero]
theorem spoil8_set (k : Nat) (l : List Int) (hk : k < l.length) : (spoil8 k l).set k (bits .xor .u8 (nth l k) 90) = spoil8 (k + 1) l := by
  have hl : ((l.take k).map (bits .xor .u8 · 90)).length = k := by simp; omega
  have hd := List.drop_eq_getElem_cons hk
  rw [spoil8, List.set_append_right _ _ (by omega), hl, Nat.sub_self, spoil8, take_step l k hk]
  simp
  rw [hd]
  rfl
theorem spoil8_zero (l : List Int) : spoil8 0 l = l := by simp [spoil8]

end Go.Proofs.Ytemjcgmoacnnfaa
