/-
  The plain mathematics of bits as bytes.
-/
import Derived.Test.YtojjcmkadmofdaaPkMath
import Derived.Test.YtojjcmkadmofdaaPlainL
namespace Go.Proofs.Ytojjcmkadmofdaa
open Go.RowKit

/-- What the first t bits of byte j count. -/
def bsum (bs : List Bool) (j : Nat) : Nat → Nat
  | 0 => 0
  | t + 1 => bsum bs j t + (if L.nth bs (8 * j + t) then 2 ^ t else 0)
theorem bsum_lt (bs : List Bool) (j t : Nat) : bsum bs j t < 2 ^ t := by
  induction t with
  | zero => simp [bsum]
  | succ t ih =>
    rw [bsum, Nat.pow_succ]
    split <;> omega
theorem bsum_same (a b : List Bool) (j t : Nat) (h : ∀ s, s < t → L.nth a (8 * j + s) = L.nth b (8 * j + s)) : bsum a j t = bsum b j t := by
  induction t with
  | zero => rfl
  | succ t ih => rw [bsum, bsum, ih (fun s hs => h s (by omega)), h t (by omega)]
/-- One bit more. -/
theorem bsum_more (a b : List Bool) (j s t : Nat) (hs : s < t) (ha : L.nth a (8 * j + s) = false) (h : ∀ r, r ≠ s → L.nth a (8 * j + r) = L.nth b (8 * j + r)) :
    bsum b j t = bsum a j t + (if L.nth b (8 * j + s) then 2 ^ s else 0) := by
  induction t with
  | zero => omega
  | succ t ih =>
    rw [bsum, bsum]
    by_cases e : s = t
    · subst e
      rw [ha, bsum_same a b j s (fun r hr => h r (by omega))]
      simp
    · rw [ih (by omega), h t (fun e' => e e'.symm)]
      omega
theorem bsum_stop (a : List Bool) (j s t : Nat) (hs : s ≤ t) (h : ∀ r, s ≤ r → L.nth a (8 * j + r) = false) : bsum a j t = bsum a j s := by
  induction t with
  | zero =>
    have : s = 0 := by omega
    rw [this]
  | succ t ih =>
    by_cases e : s = t + 1
    · rw [e]
    · rw [bsum, h t (by omega), ih (by omega)]; simp
/-- m bytes of bits. -/
def pk (bs : List Bool) (m : Nat) : List Int := (List.range m).map fun j => ((bsum bs j 8 : Nat) : Int)
theorem pk_length (bs : List Bool) (m : Nat) : (pk bs m).length = m := by simp [pk]
theorem pk_nth (bs : List Bool) (m j : Nat) (h : j < m) : nth (pk bs m) j = ((bsum bs j 8 : Nat) : Int) := by
  rw [nth_eq _ _ (by rw [pk_length]; exact h)]; simp [pk]
theorem pk_wf (bs : List Bool) (m : Nat) : ∀ x ∈ pk bs m, (Lit.int .u8 x).wf = true := by
  intro x hx
  simp only [pk, List.mem_map] at hx
  obtain ⟨j, _, rfl⟩ := hx
  exact wf_byte _ (by have := bsum_lt bs j 8; omega)
theorem nth_take (bs : List Bool) (k i : Nat) : L.nth (bs.take k) i = if i < k then L.nth bs i else false := by
  unfold L.nth
  rw [List.getD_eq_getElem?_getD, List.getD_eq_getElem?_getD]
  split
  · rw [List.getElem?_take_of_lt (by assumption)]
  · rw [List.getElem?_take_eq_none (by omega)]; rfl
theorem nth_take_off (bs : List Bool) (k i : Nat) (h : k ≤ i) : L.nth (bs.take k) i = false := by rw [nth_take, if_neg (by omega)]
theorem pk_low (bs : List Bool) (k : Nat) : bsum (bs.take k) (k / 8) 8 < 2 ^ (k % 8) := by
  rw [bsum_stop (bs.take k) (k / 8) (k % 8) 8 (by omega) (fun r hr => nth_take_off _ _ _ (by omega))]
  exact bsum_lt _ _ _
theorem take_byte (bs : List Bool) (k j : Nat) (h : j ≠ k / 8) : bsum (bs.take (k + 1)) j 8 = bsum (bs.take k) j 8 := by
  refine bsum_same _ _ _ _ fun s hs => ?_
  rw [nth_take, nth_take]
  have : (8 * j + s < k + 1) = (8 * j + s < k) := by apply propext; omega
  simp only [this]
theorem take_bit (bs : List Bool) (k : Nat) : bsum (bs.take (k + 1)) (k / 8) 8 = bsum (bs.take k) (k / 8) 8 + (if L.nth bs k then 2 ^ (k % 8) else 0) := by
  rw [bsum_more (bs.take k) (bs.take (k + 1)) (k / 8) (k % 8) 8 (by omega) (nth_take_off _ _ _ (by omega)) (fun r hr => by
    rw [nth_take, nth_take]
    have : (8 * (k / 8) + r < k + 1) = (8 * (k / 8) + r < k) := by apply propext; omega
    simp only [this])]
  rw [show 8 * (k / 8) + k % 8 = k by omega, show L.nth (bs.take (k + 1)) k = L.nth bs k by rw [nth_take, if_pos (by omega)]]
theorem pk_off (bs : List Bool) (k m : Nat) (h : L.nth bs k = false) : pk (bs.take (k + 1)) m = pk (bs.take k) m := by
  refine ext_nth _ _ (by rw [pk_length, pk_length]) fun j hj => ?_
  rw [pk_length] at hj
  rw [pk_nth _ _ _ hj, pk_nth _ _ _ hj]
  by_cases e : j = k / 8
  · subst e; rw [take_bit, h]; simp
  · rw [take_byte bs k j e]
theorem nth_set (l : List Int) (i j : Nat) (v : Int) (hi : i < l.length) : nth (l.set i v) j = if i = j then v else nth l j := by
  unfold nth
  rw [List.getD_eq_getElem?_getD, List.getD_eq_getElem?_getD, List.getElem?_set]
  split
  · rfl
  · rfl
theorem pk_on (bs : List Bool) (k m : Nat) (hm : k / 8 < m) (h : L.nth bs k = true) : (pk (bs.take k) m).set (k / 8) ((bsum (bs.take k) (k / 8) 8 + 2 ^ (k % 8) : Nat) : Int) = pk (bs.take (k + 1)) m := by
  refine ext_nth _ _ (by rw [List.length_set, pk_length, pk_length]) fun j hj => ?_
  rw [List.length_set, pk_length] at hj
  rw [nth_set _ _ _ _ (by rw [pk_length]; exact hm), pk_nth _ _ _ hj, pk_nth _ _ _ hj]
  by_cases e : k / 8 = j
  · subst e; rw [if_pos rfl, take_bit, h]; simp
  · rw [if_neg e, take_byte bs k j (fun e' => e e'.symm)]
theorem or_high (a s : Nat) (h : a < 2 ^ s) : a ||| 2 ^ s = a + 2 ^ s := by
  have := Nat.shiftLeft_add_eq_or_of_lt h 1
  rw [Nat.shiftLeft_eq, Nat.one_mul] at this
  rw [Nat.or_comm, ← this, Nat.add_comm]
/-- The bit i of bytes. -/
def bitAt (ys : List Int) (i : Nat) : Bool := decide ((nth ys (i / 8)).toNat / 2 ^ (i % 8) % 2 = 1)
def unpk (ys : List Int) (n : Nat) : List Bool := (List.range n).map (bitAt ys)
theorem unpk_length (ys : List Int) (n : Nat) : (unpk ys n).length = n := by simp [unpk]
theorem unpk_nth (ys : List Int) (n i : Nat) (h : i < n) : L.nth (unpk ys n) i = bitAt ys i := by
  rw [L.nth_eq _ _ (by rw [unpk_length]; exact h)]; simp [unpk]
theorem unpk_step (ys : List Int) (n : Nat) : unpk ys (n + 1) = unpk ys n ++ [bitAt ys n] := by simp [unpk, List.range_succ]
/-- Is a bit from n on set? -/
def spare (ys : List Int) (n : Nat) : Prop := ∃ i, n ≤ i ∧ i < 8 * ys.length ∧ bitAt ys i = true
def need (n : Nat) : Nat := (n + 7) / 8
/-- The bits of a sum of bits. -/
theorem bsum_bit (bs : List Bool) (j s t : Nat) (hs : s < t) : bsum bs j t / 2 ^ s % 2 = if L.nth bs (8 * j + s) then 1 else 0 := by
  induction t with
  | zero => omega
  | succ t ih =>
    rw [bsum]
    have hl := bsum_lt bs j t
    by_cases e : s = t
    · subst e
      split
      · rw [show bsum bs j s + 2 ^ s = bsum bs j s + 1 * 2 ^ s by omega, Nat.add_mul_div_right _ _ (Nat.pow_pos (by omega)), Nat.div_eq_of_lt hl]
      · rw [Nat.add_zero, Nat.div_eq_of_lt hl]
    · have h2 : s < t := by omega
      rw [← ih h2]
      split
      · obtain ⟨d, hd⟩ : ∃ d, t = s + 1 + d := ⟨t - (s + 1), by omega⟩
        have hp : 2 ^ t = (2 * 2 ^ d) * 2 ^ s := by rw [hd, Nat.pow_add, Nat.pow_succ]; ac_rfl
        rw [hp, Nat.add_mul_div_right _ _ (Nat.pow_pos (by omega))]
        omega
      · rfl
theorem bitAt_pk (bs : List Bool) (m i : Nat) (h : i / 8 < m) : bitAt (pk bs m) i = L.nth bs i := by
  unfold bitAt
  rw [pk_nth _ _ _ h, Int.toNat_natCast, bsum_bit bs (i / 8) (i % 8) 8 (by omega), show 8 * (i / 8) + i % 8 = i by omega]
  cases L.nth bs i <;> simp
theorem nth_out (bs : List Bool) (i : Nat) (h : bs.length ≤ i) : L.nth bs i = false := by
  unfold L.nth; rw [List.getD_eq_getElem?_getD, List.getElem?_eq_none h]; rfl
theorem unpk_pk (bs : List Bool) : unpk (pk bs (need bs.length)) bs.length = bs := by
  refine L.ext_nth _ _ (by rw [unpk_length]) fun i hi => ?_
  rw [unpk_length] at hi
  rw [unpk_nth _ _ _ hi, bitAt_pk bs _ _ (by unfold need; omega)]
theorem no_spare_pk (bs : List Bool) : ¬ spare (pk bs (need bs.length)) bs.length := by
  rintro ⟨i, h1, h2, h3⟩
  rw [pk_length] at h2
  rw [bitAt_pk bs _ _ (by omega), nth_out bs i h1] at h3
  cases h3
/-- A byte is the sum of its bits. -/
theorem byte_bits (x : Nat) (t : Nat) (bs : List Bool) (j : Nat) (h : ∀ s, s < t → L.nth bs (8 * j + s) = decide (x / 2 ^ s % 2 = 1)) : bsum bs j t = x % 2 ^ t := by
  induction t with
  | zero => simp [bsum]; omega
  | succ t ih =>
    rw [bsum, ih (fun s hs => h s (by omega)), h t (by omega), Nat.mod_pow_succ]
    have : x / 2 ^ t % 2 = 0 ∨ x / 2 ^ t % 2 = 1 := by omega
    rcases this with e | e <;> rw [e] <;> simp
theorem pk_unpk (ys : List Int) (n : Nat) (hw : ∀ x ∈ ys, (Lit.int .u8 x).wf = true) (hl : ys.length = need n) (hs : ¬ spare ys n) : pk (unpk ys n) (need n) = ys := by
  refine ext_nth _ _ (by rw [pk_length, hl]) fun j hj => ?_
  rw [pk_length] at hj
  have hx := wf_u8 (hw _ (nth_mem ys j (by omega)))
  rw [pk_nth _ _ _ hj, byte_bits (nth ys j).toNat 8 _ _ (fun s hs8 => ?_)]
  · rw [Nat.mod_eq_of_lt (by omega)]; omega
  · have hb : bitAt ys (8 * j + s) = decide ((nth ys j).toNat / 2 ^ s % 2 = 1) := by
      unfold bitAt
      rw [show (8 * j + s) / 8 = j by omega, show (8 * j + s) % 8 = s by omega]
    by_cases h : 8 * j + s < n
    · rw [unpk_nth _ _ _ h, hb]
    · rw [nth_out _ _ (by rw [unpk_length]; omega), ← hb]
      cases hq : bitAt ys (8 * j + s) with
      | false => rfl
      | true => exact absurd ⟨8 * j + s, by omega, by omega, hq⟩ hs
end Go.Proofs.Ytojjcmkadmofdaa
