/-
  There and back: the request that a PDU says, and the PDU of the request that bytes say.
-/
import Derived.Test.YtojjcmkadmofdaaAskGet
namespace Go.Proofs.Ytojjcmkadmofdaa
open Go.RowKit
set_option linter.unusedVariables false

def pduQ (q : Req) : List Int := pduOf q q.on.length q.set.length (q.fl.length / 3)
theorem nth_zero (x : Int) (l : List Int) : nth (x :: l) 0 = x := rfl
theorem nth_succ (x : Int) (l : List Int) (i : Nat) : nth (x :: l) (i + 1) = nth l i := by simp [nth]
theorem nth_pre (l : List Int) (k i : Nat) (h : i < k) : nth (l.take k) i = nth l i := by
  simp only [nth, List.getD_eq_getElem?_getD, List.getElem?_take_of_lt h]
theorem wbytes_one (a : Int) (l : List Int) (h : 0 ≤ a ∧ a < 65536) : wbytes (a :: l) = (a / 256) :: (a % 256) :: wbytes l := by
  rw [wbytes, be_two]
  have e1 : ((a.toNat / 256 % 256 : Nat) : Int) = a / 256 := by omega
  have e2 : ((a.toNat % 256 : Nat) : Int) = a % 256 := by omega
  rw [e1, e2]; rfl
theorem at2_one (x a : Int) (l : List Int) : at2 (x :: (a / 256) :: (a % 256) :: l) 1 = a := by
  rw [at2, nth_succ, nth_zero, nth_succ, nth_succ, nth_zero]; omega
theorem at2_three (x y z a : Int) (l : List Int) : at2 (x :: y :: z :: (a / 256) :: (a % 256) :: l) 3 = a := by
  rw [at2, nth_succ, nth_succ, nth_succ, nth_zero, nth_succ, nth_succ, nth_succ, nth_succ, nth_zero]; omega
theorem nil_of_not_lt {α : Type} {l : List α} (h : decide (0 < l.length) = false) : l = [] := by
  have : ¬ 0 < l.length := of_decide_eq_false h
  exact List.eq_nil_of_length_eq_zero (by omega)
theorem one_of_length {α : Type} {l : List α} (h : l.length = 1) : ∃ x, l = [x] := by
  match l, h with
  | [x], _ => exact ⟨x, rfl⟩
theorem flOf_pbytes (fl : List Int) (m : Nat) (hl : fl.length = 3 * m) (hok : allOk fl m = true) : mkOk (pbytes fl m) m = true ∧ flOf (pbytes fl m) m = fl := by
  have key : ∀ k, k ≤ m → ∀ r : List Int, mkOk (pbytes fl k ++ r) k = true ∧ flOf (pbytes fl k ++ r) k = fl.take (3 * k) := by
    intro k
    induction k with
    | zero => intro _ r; exact ⟨rfl, by simp [flOf]⟩
    | succ k ih =>
      intro hk r
      have hin := (inPl_iff _ _ _).1 (allOk_le hok k (by omega))
      rw [pbytes, List.append_assoc]
      obtain ⟨h1, h2⟩ := ih (by omega) (6 :: wbytes [nth fl (3 * k), nth fl (3 * k + 1), nth fl (3 * k + 2)] ++ r)
      have hpl := pbytes_length fl k
      have hT : (6 :: wbytes [nth fl (3 * k), nth fl (3 * k + 1), nth fl (3 * k + 2)] ++ r) = 6 :: (nth fl (3 * k) / 256) :: (nth fl (3 * k) % 256) :: (nth fl (3 * k + 1) / 256) :: (nth fl (3 * k + 1) % 256) :: (nth fl (3 * k + 2) / 256) :: (nth fl (3 * k + 2) % 256) :: r := by
        rw [wbytes_one _ _ (by omega), wbytes_one _ _ (by omega), wbytes_one _ _ (by omega)]; rfl
      rw [hT] at h1 h2 ⊢
      clear hT
      generalize hTT : (6 :: (nth fl (3 * k) / 256) :: (nth fl (3 * k) % 256) :: (nth fl (3 * k + 1) / 256) :: (nth fl (3 * k + 1) % 256) :: (nth fl (3 * k + 2) / 256) :: (nth fl (3 * k + 2) % 256) :: r) = T at *
      have hn : ∀ j, nth (pbytes fl k ++ T) (7 * k + j) = nth T j := by intro j; rw [← hpl, nth_right]
      have a1 : ∀ i, at2 (pbytes fl k ++ T) (7 * k + i) = at2 T i := by intro i; unfold at2; rw [hn i, Nat.add_assoc, hn (i + 1)]
      have n0 := hn 0
      rw [Nat.add_zero] at n0
      refine ⟨?_, ?_⟩
      · rw [mkOk, h1, Bool.true_and, n0, ← hTT]; rfl
      · rw [flOf, h2, take_three fl k (by omega), a1 1, a1 3, a1 5, ← hTT]
        simp only [at2, nth_succ, nth_zero]
        congr 1
        congr 1
        · omega
        · congr 1
          · omega
          · congr 1
            omega
  have := key m (Nat.le_refl _) []
  rw [List.append_nil, List.take_of_length_le (by omega)] at this
  exact this

theorem getE_ok {ys : List Int} (h0 : ys.length ≠ 0) (hm : 0 < mm (nth ys 0)) (hs : (ys.length : Int) = szOf ys) (hr : rdOk ys = true) (hk : chkQ (rdQ ys) = 0) : getE ys = 0 := by
  rw [getE, if_neg h0, if_neg (by omega), if_neg (by omega), if_neg (by omega), if_neg (by simp [hr]), hk]

set_option maxHeartbeats 1000000 in
/-- A right request is said by its PDU. -/
theorem pdu_back (q : Req) (hset : ∀ x ∈ q.set, (Lit.int .u16 x).wf = true) (h3 : q.fl.length % 3 = 0) (hk : chkQ q = 0) : getE (pduQ q) = 0 ∧ rdQ (pduQ q) = q ∧ (5 ≤ (pduQ q).length ∧ (pduQ q).length ≤ 253) := by
  obtain ⟨c, a, n, on, set, fl⟩ := q
  have hk' := hk
  simp only [chkQ] at hk
  obtain ⟨h1, h2, ha, h4, h5, h6⟩ := chk_zero hk
  simp only at hset h3
  simp only [pduQ, pduOf]
  have fin : ∀ ys : List Int, ys.length ≠ 0 → nth ys 0 = c → (ys.length : Int) = szOf ys → rdOk ys = true → rdQ ys = ⟨c, a, n, on, set, fl⟩ → (5 ≤ ys.length ∧ ys.length ≤ 253) → getE ys = 0 ∧ rdQ ys = ⟨c, a, n, on, set, fl⟩ ∧ (5 ≤ ys.length ∧ ys.length ≤ 253) := by
    intro ys g0 g1 g2 g3 g4 g5
    exact ⟨getE_ok g0 (by rw [g1]; exact h1) g2 g3 (by rw [g4]; exact hk'), g4, g5⟩
  clear hk' hk
  rcases mm_pos h1 with rfl | rfl | rfl | rfl | rfl | rfl | rfl | rfl | rfl
  iterate 4
    · have h4 : 1 ≤ n ∧ n ≤ 2000 := by simp only [many, mm] at h4; omega
      simp [stray] at h2
      obtain ⟨⟨rfl, rfl⟩, h2⟩ := h2
      obtain rfl : fl = [] := List.eq_nil_of_length_eq_zero (by omega)
      simp only [tl]
      rw [if_neg (by omega), if_neg (by omega), if_neg (by omega), if_neg (by omega), if_neg (by omega), wbytes_one _ _ ha, wbytes_one _ _ (by omega)]
      refine fin _ (by simp) rfl rfl rfl ?_ (by simp [wbytes])
      unfold rdQ
      rw [if_neg (by rw [nth_zero]; omega), if_neg (by rw [nth_zero]; omega), if_neg (by rw [nth_zero]; omega), if_neg (by rw [nth_zero]; omega), if_neg (by rw [nth_zero]; omega), at2_one, at2_three, nth_zero]
  · -- 5
    have h4 : 1 ≤ (on.length : Int) ∧ (on.length : Int) ≤ 1 := h4
    simp [stray] at h2
    obtain ⟨⟨rfl, rfl⟩, h2⟩ := h2
    obtain rfl : fl = [] := List.eq_nil_of_length_eq_zero (by omega)
    obtain ⟨b, rfl⟩ := one_of_length (l := on) (by omega)
    have hb : 0 ≤ (if b = true then (65280 : Int) else 0) ∧ (if b = true then (65280 : Int) else 0) < 65536 := by split <;> omega
    have e : tl 5 a 0 [b] [] [] [b].length ([] : List Int).length (([] : List Int).length / 3) = wbytes [a, if b = true then 65280 else 0] := rfl
    rw [e, wbytes_one _ _ ha, wbytes_one _ _ hb]
    refine fin _ (by simp) rfl rfl ?_ ?_ (by simp [wbytes])
    · unfold rdOk
      rw [if_neg (by rw [nth_zero]; omega), if_pos (nth_zero _ _), at2_three]
      cases b <;> decide
    · unfold rdQ
      rw [if_neg (by rw [nth_zero]; omega), if_pos (nth_zero _ _), at2_one, at2_three]
      cases b <;> rfl
  · -- 6
    have h4 : 1 ≤ (set.length : Int) ∧ (set.length : Int) ≤ 1 := h4
    simp [stray] at h2
    obtain ⟨⟨rfl, rfl⟩, h2⟩ := h2
    obtain rfl : fl = [] := List.eq_nil_of_length_eq_zero (by omega)
    obtain ⟨x, rfl⟩ := one_of_length (l := set) (by omega)
    have hx := wf_u16 (hset x (by simp))
    have e : tl 6 a 0 [] [x] [] ([] : List Bool).length [x].length (([] : List Int).length / 3) = wbytes [a, x] := rfl
    rw [e, wbytes_one _ _ ha, wbytes_one _ _ hx]
    refine fin _ (by simp) rfl rfl rfl ?_ (by simp [wbytes])
    unfold rdQ
    rw [if_neg (by rw [nth_zero]; omega), if_neg (by rw [nth_zero]; omega), if_pos (nth_zero _ _), at2_one, at2_three]
  · -- 15
    have h4 : 1 ≤ (on.length : Int) ∧ (on.length : Int) ≤ 1968 := h4
    simp [stray] at h2
    obtain ⟨⟨rfl, rfl⟩, h2⟩ := h2
    obtain rfl : fl = [] := List.eq_nil_of_length_eq_zero (by omega)
    have e : tl 15 a 0 on [] [] on.length ([] : List Int).length (([] : List Int).length / 3) = wbytes [a, (on.length : Int)] ++ ((need on.length : Nat) : Int) :: pk on (need on.length) := rfl
    have hne : 1 ≤ need on.length ∧ need on.length ≤ 246 := by unfold need; omega
    have hpl := pk_length on (need on.length)
    have hnn : ((on.length : Int)).toNat = on.length := by omega
    rw [e, wbytes_one _ _ ha, wbytes_one _ _ (by omega)]
    refine fin _ (by simp) rfl ?_ ?_ ?_ (by simp [wbytes, hpl]; omega)
    · unfold szOf
      rw [if_pos (by left; rfl), if_neg (by simp [wbytes])]
      show _ = 6 + ((need on.length : Nat) : Int)
      simp [wbytes, hpl]; omega
    · unfold rdOk
      rw [if_neg (by rw [nth_zero]; omega), if_neg (by rw [nth_zero]; omega), if_pos (nth_zero _ _)]
      show bitsOk (pk on (need on.length)) (at2 (15 :: (a / 256) :: (a % 256) :: ((on.length : Int) / 256) :: ((on.length : Int) % 256) :: (wbytes [] ++ ((need on.length : Nat) : Int) :: pk on (need on.length))) 3).toNat = true
      rw [at2_three, hnn, bitsOk, hpl, decide_eq_true rfl, Bool.true_and]
      cases hs : spareB (pk on (need on.length)) on.length with
      | false => rfl
      | true => exact absurd ((spareB_iff _ _).1 hs) (no_spare_pk on)
    · unfold rdQ
      rw [if_neg (by rw [nth_zero]; omega), if_neg (by rw [nth_zero]; omega), if_neg (by rw [nth_zero]; omega), if_pos (nth_zero _ _)]
      show (⟨15, at2 (15 :: (a / 256) :: (a % 256) :: ((on.length : Int) / 256) :: ((on.length : Int) % 256) :: (wbytes [] ++ ((need on.length : Nat) : Int) :: pk on (need on.length))) 1, 0, unpk (pk on (need on.length)) (at2 (15 :: (a / 256) :: (a % 256) :: ((on.length : Int) / 256) :: ((on.length : Int) % 256) :: (wbytes [] ++ ((need on.length : Nat) : Int) :: pk on (need on.length))) 3).toNat, [], []⟩ : Req) = _
      rw [at2_one, at2_three, hnn, unpk_pk]
  · -- 16
    have h4 : 1 ≤ (set.length : Int) ∧ (set.length : Int) ≤ 123 := h4
    simp [stray] at h2
    obtain ⟨⟨rfl, rfl⟩, h2⟩ := h2
    obtain rfl : fl = [] := List.eq_nil_of_length_eq_zero (by omega)
    have e : tl 16 a 0 [] set [] ([] : List Bool).length set.length (([] : List Int).length / 3) = wbytes [a, (set.length : Int)] ++ ((2 * set.length : Nat) : Int) :: wbytes set := rfl
    have hpl := wbytes_length set
    have hnn : ((set.length : Int)).toNat = set.length := by omega
    rw [e, wbytes_one _ _ ha, wbytes_one _ _ (by omega)]
    refine fin _ (by simp) rfl ?_ ?_ ?_ (by simp [wbytes, hpl]; omega)
    · unfold szOf
      rw [if_pos (by right; rfl), if_neg (by simp [wbytes])]
      show _ = 6 + ((2 * set.length : Nat) : Int)
      simp [wbytes, hpl]; omega
    · unfold rdOk
      rw [if_neg (by rw [nth_zero]; omega), if_neg (by rw [nth_zero]; omega), if_neg (by rw [nth_zero]; omega), if_pos (nth_zero _ _)]
      show decide ((wbytes set).length = 2 * (at2 (16 :: (a / 256) :: (a % 256) :: ((set.length : Int) / 256) :: ((set.length : Int) % 256) :: (wbytes [] ++ ((2 * set.length : Nat) : Int) :: wbytes set)) 3).toNat) = true
      rw [at2_three, hnn, hpl]; simp
    · unfold rdQ
      rw [if_neg (by rw [nth_zero]; omega), if_neg (by rw [nth_zero]; omega), if_neg (by rw [nth_zero]; omega), if_neg (by rw [nth_zero]; omega), if_pos (nth_zero _ _)]
      show (⟨16, at2 (16 :: (a / 256) :: (a % 256) :: ((set.length : Int) / 256) :: ((set.length : Int) % 256) :: (wbytes [] ++ ((2 * set.length : Nat) : Int) :: wbytes set)) 1, 0, [], wwords (wbytes set), []⟩ : Req) = _
      rw [at2_one, wwords_wbytes set hset]
  · -- 20
    have h4 : 1 ≤ ((fl.length / 3 : Nat) : Int) ∧ ((fl.length / 3 : Nat) : Int) ≤ 35 := h4
    simp [stray] at h2
    obtain ⟨⟨⟨rfl, rfl⟩, rfl⟩, rfl⟩ := h2
    obtain ⟨m, hm⟩ : ∃ m, fl.length = 3 * m := ⟨fl.length / 3, by omega⟩
    have hd : fl.length / 3 = m := by omega
    rw [hd] at h4 h5 ⊢
    have hok := (h5 rfl).1
    obtain ⟨k1, k2⟩ := flOf_pbytes fl m hm hok
    have hpl := pbytes_length fl m
    have e : tl 20 0 0 [] [] fl ([] : List Bool).length ([] : List Int).length m = ((7 * m : Nat) : Int) :: pbytes fl m := rfl
    rw [e]
    have hd7 : (pbytes fl m).length / 7 = m := by rw [hpl]; omega
    refine fin _ (by simp) rfl ?_ ?_ ?_ (by simp [hpl]; omega)
    · unfold szOf
      rw [if_neg (by rw [nth_zero]; omega), if_pos (nth_zero _ _), if_neg (by simp)]
      show _ = 2 + ((7 * m : Nat) : Int)
      simp [hpl]; omega
    · unfold rdOk
      rw [if_pos (nth_zero _ _)]
      show partsOk (pbytes fl m) = true
      rw [partsOk, hd7, k1, hpl, decide_eq_true (by omega)]; rfl
    · unfold rdQ
      rw [if_pos (nth_zero _ _)]
      show (⟨20, 0, 0, [], [], flOf (pbytes fl m) ((pbytes fl m).length / 7)⟩ : Req) = _
      rw [hd7, k2]

/-- What is left of parts that were read is put again. -/
theorem pbytes_flOf (ys : List Int) (hw : ∀ x ∈ ys, (Lit.int .u8 x).wf = true) (m : Nat) (hl : ys.length = 7 * m) (hok : mkOk ys m = true) : pbytes (flOf ys m) m = ys := by
  have hfl : ∀ k, k ≤ m → flOf ys k = (flOf ys m).take (3 * k) := by
    intro k hk
    have : ∀ d, flOf ys k = (flOf ys (k + d)).take (3 * k) := by
      intro d
      induction d with
      | zero => rw [Nat.add_zero, List.take_of_length_le (by rw [flOf_length]; omega)]
      | succ d ih =>
        rw [← Nat.add_assoc, flOf, List.take_append_of_le_length (by rw [flOf_length]; omega)]
        exact ih
    have h2 := this (m - k)
    rwa [show k + (m - k) = m by omega] at h2
  have hnth : ∀ k i, k < m → i < 3 → nth (flOf ys m) (3 * k + i) = at2 ys (7 * k + (1 + 2 * i)) := by
    intro k i hk hi
    rw [← nth_pre (flOf ys m) (3 * (k + 1)) (3 * k + i) (by omega), ← hfl (k + 1) (by omega), flOf]
    have hfk := flOf_length ys k
    rw [← hfk, nth_right]
    rcases (show i = 0 ∨ i = 1 ∨ i = 2 by omega) with rfl | rfl | rfl <;> rfl
  have key : ∀ k, k ≤ m → pbytes (flOf ys m) k = ys.take (7 * k) := by
    intro k
    induction k with
    | zero => intro _; rfl
    | succ k ih =>
      intro hk
      have h6 := mkOk_le hok k (by omega)
      have hb : ∀ i, i < 7 → (0 ≤ nth ys (7 * k + i) ∧ nth ys (7 * k + i) < 256) := fun i hi => wf_u8 (hw _ (nth_mem ys _ (by omega)))
      have r1 := at2_range ys hw (7 * k + 1) (by omega)
      have r3 := at2_range ys hw (7 * k + 3) (by omega)
      have r5 := at2_range ys hw (7 * k + 5) (by omega)
      have b1 := hb 1 (by omega)
      have b2 := hb 2 (by omega)
      have b3 := hb 3 (by omega)
      have b4 := hb 4 (by omega)
      have b5 := hb 5 (by omega)
      have b6 := hb 6 (by omega)
      have e0 := hnth k 0 (by omega) (by omega)
      have e1 := hnth k 1 (by omega) (by omega)
      have e2 := hnth k 2 (by omega) (by omega)
      simp only [Nat.add_zero, Nat.mul_zero, Nat.mul_one] at e0 e1 e2
      rw [pbytes, ih (by omega), e0, e1, e2, show 1 + 2 * 2 = 5 from rfl, show 1 + 2 = 3 from rfl, wbytes_one _ _ r1, wbytes_one _ _ r3, wbytes_one _ _ r5]
      rw [show 7 * (k + 1) = 7 * k + 1 + 1 + 1 + 1 + 1 + 1 + 1 by omega, take_step _ _ (by omega), take_step _ _ (by omega), take_step _ _ (by omega), take_step _ _ (by omega), take_step _ _ (by omega), take_step _ _ (by omega), take_step _ _ (by omega)]
      simp only [List.append_assoc, List.cons_append, List.nil_append]
      unfold at2
      rw [h6]
      simp only [Nat.add_assoc, Nat.reduceAdd, wbytes]
      congr 2
      congr 1
      · omega
      · congr 1
        · omega
        · congr 1
          · omega
          · congr 1
            · omega
            · congr 1
              · omega
              · congr 1
                omega
  rw [key m (Nat.le_refl _), List.take_of_length_le (by omega)]
theorem cons_of_length {α : Type} {l : List α} {n : Nat} (h : l.length = n + 1) : ∃ x t, l = x :: t ∧ t.length = n := by
  match l, h with
  | x :: t, h => exact ⟨x, t, rfl, by simpa using h⟩
theorem five_of {l : List Int} (h : l.length = 5) : ∃ x0 x1 x2 x3 x4, l = [x0, x1, x2, x3, x4] := by
  match l, h with
  | [x0, x1, x2, x3, x4], _ => exact ⟨_, _, _, _, _, rfl⟩
theorem six_of {l : List Int} (h : 6 ≤ l.length) : ∃ x0 x1 x2 x3 x4 x5 t, l = x0 :: x1 :: x2 :: x3 :: x4 :: x5 :: t := by
  match l, h with
  | x0 :: x1 :: x2 :: x3 :: x4 :: x5 :: t, _ => exact ⟨_, _, _, _, _, _, _, rfl⟩
theorem two_of {l : List Int} (h : 2 ≤ l.length) : ∃ x0 x1 t, l = x0 :: x1 :: t := by
  match l, h with
  | x0 :: x1 :: t, _ => exact ⟨_, _, _, rfl⟩
end Go.Proofs.Ytojjcmkadmofdaa
