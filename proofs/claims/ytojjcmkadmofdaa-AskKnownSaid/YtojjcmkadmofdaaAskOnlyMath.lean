/-
  What bytes say has just these bytes; beginnings are too short, more bytes too long.
-/
import Derived.Test.YtojjcmkadmofdaaAskBackMath
namespace Go.Proofs.Ytojjcmkadmofdaa
open Go.RowKit
set_option linter.unusedVariables false

theorem getE_zero {ys : List Int} (h : getE ys = 0) : ys.length ≠ 0 ∧ 0 < mm (nth ys 0) ∧ (ys.length : Int) = szOf ys ∧ rdOk ys = true ∧ chkQ (rdQ ys) = 0 := by
  unfold getE at h
  split at h
  · cases h
  split at h
  · cases h
  split at h
  · cases h
  split at h
  · cases h
  split at h
  · cases h
  rename_i h1 h2 h3 h4 h5
  exact ⟨h1, by omega, by omega, by simpa using h5, h⟩

set_option maxHeartbeats 1000000 in
theorem pdu_only (ys : List Int) (hw : ∀ x ∈ ys, (Lit.int .u8 x).wf = true) (h : getE ys = 0) : pduQ (rdQ ys) = ys := by
  obtain ⟨h0, hm, hs, hr, hk⟩ := getE_zero h
  have hb : ∀ i, i < ys.length → 0 ≤ nth ys i ∧ nth ys i < 256 := fun i hi => wf_u8 (hw _ (nth_mem ys i hi))
  have five : nth ys 0 ≠ 20 → nth ys 0 ≠ 15 → nth ys 0 ≠ 16 → ys.length = 5 := by
    intro a b c
    unfold szOf at hs
    rw [if_neg (by omega), if_neg a] at hs
    omega
  rcases mm_pos hm with hc | hc | hc | hc | hc | hc | hc | hc | hc
  iterate 4
    · obtain ⟨x0, x1, x2, x3, x4, rfl⟩ := five_of (five (by omega) (by omega) (by omega))
      rw [nth_zero] at hc
      have b1 := hb 1 (by simp)
      have b2 := hb 2 (by simp)
      have b3 := hb 3 (by simp)
      have b4 := hb 4 (by simp)
      simp only [nth_succ, nth_zero] at b1 b2 b3 b4
      have e : rdQ [x0, x1, x2, x3, x4] = ⟨x0, x1 * 256 + x2, x3 * 256 + x4, [], [], []⟩ := by
        unfold rdQ
        rw [if_neg (by rw [nth_zero]; omega), if_neg (by rw [nth_zero]; omega), if_neg (by rw [nth_zero]; omega), if_neg (by rw [nth_zero]; omega), if_neg (by rw [nth_zero]; omega)]
        rfl
      rw [e]
      show x0 :: tl x0 (x1 * 256 + x2) (x3 * 256 + x4) [] [] [] ([] : List Bool).length ([] : List Int).length (([] : List Int).length / 3) = _
      unfold tl
      rw [if_neg (by omega), if_neg (by omega), if_neg (by omega), if_neg (by omega), if_neg (by omega), wbytes_one _ _ (by omega), wbytes_one _ _ (by omega)]
      congr 1
      congr 1
      · omega
      · congr 1
        · omega
        · congr 1
          · omega
          · congr 1
            omega
  · -- 5
    obtain ⟨x0, x1, x2, x3, x4, rfl⟩ := five_of (five (by omega) (by omega) (by omega))
    rw [nth_zero] at hc
    subst hc
    have b1 := hb 1 (by simp)
    have b2 := hb 2 (by simp)
    have b3 := hb 3 (by simp)
    have b4 := hb 4 (by simp)
    simp only [nth_succ, nth_zero] at b1 b2 b3 b4
    have ea : at2 [5, x1, x2, x3, x4] 3 = x3 * 256 + x4 := rfl
    unfold rdOk at hr
    rw [if_neg (by rw [nth_zero]; omega), if_pos (nth_zero _ _), ea, decide_eq_true_eq] at hr
    have e : rdQ [5, x1, x2, x3, x4] = ⟨5, x1 * 256 + x2, 0, coilL (x3 * 256 + x4), [], []⟩ := by
      unfold rdQ
      rw [if_neg (by rw [nth_zero]; omega), if_pos (nth_zero _ _)]
      rfl
    rw [e]
    have e2 : ∀ on : List Bool, pduQ ⟨5, x1 * 256 + x2, 0, on, [], []⟩ = 5 :: wbytes [x1 * 256 + x2, if L.nth on 0 = true then 65280 else 0] := fun _ => rfl
    rw [e2, wbytes_one _ _ (by omega), wbytes_one _ _ (by split <;> omega)]
    rcases hr with hr | hr
    · have e3 : (if L.nth (coilL (x3 * 256 + x4)) 0 = true then (65280 : Int) else 0) = 65280 := by rw [hr]; rfl
      rw [e3]
      congr 1
      congr 1
      · omega
      · congr 1
        · omega
        · congr 1
          · omega
          · congr 1
            omega
    · have e3 : (if L.nth (coilL (x3 * 256 + x4)) 0 = true then (65280 : Int) else 0) = 0 := by rw [hr]; rfl
      rw [e3]
      congr 1
      congr 1
      · omega
      · congr 1
        · omega
        · congr 1
          · omega
          · congr 1
            omega
  · -- 6
    obtain ⟨x0, x1, x2, x3, x4, rfl⟩ := five_of (five (by omega) (by omega) (by omega))
    rw [nth_zero] at hc
    subst hc
    have b1 := hb 1 (by simp)
    have b2 := hb 2 (by simp)
    have b3 := hb 3 (by simp)
    have b4 := hb 4 (by simp)
    simp only [nth_succ, nth_zero] at b1 b2 b3 b4
    have e : rdQ [6, x1, x2, x3, x4] = ⟨6, x1 * 256 + x2, 0, [], [x3 * 256 + x4], []⟩ := by
      unfold rdQ
      rw [if_neg (by rw [nth_zero]; omega), if_neg (by rw [nth_zero]; omega), if_pos (nth_zero _ _)]
      rfl
    rw [e]
    have e2 : ∀ x : Int, pduQ ⟨6, x1 * 256 + x2, 0, [], [x], []⟩ = 6 :: wbytes [x1 * 256 + x2, x] := fun _ => rfl
    rw [e2, wbytes_one _ _ (by omega), wbytes_one _ _ (by omega)]
    congr 1
    congr 1
    · omega
    · congr 1
      · omega
      · congr 1
        · omega
        · congr 1
          omega
  · -- 15
    have hlen : 6 ≤ ys.length := by
      unfold szOf at hs
      rw [if_pos (.inl hc)] at hs
      split at hs <;> omega
    obtain ⟨x0, x1, x2, x3, x4, x5, t, rfl⟩ := six_of hlen
    rw [nth_zero] at hc
    subst hc
    have b1 := hb 1 (by simp)
    have b2 := hb 2 (by simp)
    have b3 := hb 3 (by simp)
    have b4 := hb 4 (by simp)
    have b5 := hb 5 (by simp)
    simp only [nth_succ, nth_zero] at b1 b2 b3 b4 b5
    have ht : (t.length : Int) = x5 := by
      unfold szOf at hs
      rw [if_pos (.inl (nth_zero _ _)), if_neg (by simp)] at hs
      simp only [nth_succ, nth_zero, List.length_cons] at hs
      omega
    have hwt : ∀ x ∈ t, (Lit.int .u8 x).wf = true := fun x hx => hw x (by simp [hx])
    obtain ⟨n, hn⟩ : ∃ n : Nat, x3 * 256 + x4 = n := ⟨(x3 * 256 + x4).toNat, by omega⟩
    have ea : at2 (15 :: x1 :: x2 :: x3 :: x4 :: x5 :: t) 3 = n := hn
    have e : rdQ (15 :: x1 :: x2 :: x3 :: x4 :: x5 :: t) = ⟨15, x1 * 256 + x2, 0, unpk t n, [], []⟩ := by
      unfold rdQ
      rw [if_neg (by rw [nth_zero]; omega), if_neg (by rw [nth_zero]; omega), if_neg (by rw [nth_zero]; omega), if_pos (nth_zero _ _), ea, Int.toNat_natCast]
      rfl
    unfold rdOk at hr
    rw [if_neg (by rw [nth_zero]; omega), if_neg (by rw [nth_zero]; omega), if_pos (nth_zero _ _), ea, Int.toNat_natCast] at hr
    have hr : bitsOk t n = true := hr
    simp only [bitsOk, Bool.and_eq_true, decide_eq_true_eq, Bool.not_eq_true'] at hr
    have hsp : ¬ spare t n := fun h => by rw [(spareB_iff t n).2 h] at hr; cases hr.2
    rw [e]
    have e2 : pduQ ⟨15, x1 * 256 + x2, 0, unpk t n, [], []⟩ = 15 :: (wbytes [x1 * 256 + x2, ((unpk t n).length : Int)] ++ ((need (unpk t n).length : Nat) : Int) :: pk (unpk t n) (need (unpk t n).length)) := rfl
    rw [e2, unpk_length, pk_unpk t n hwt hr.1 hsp, wbytes_one _ _ (by omega), wbytes_one _ _ (by omega)]
    show 15 :: (x1 * 256 + x2) / 256 :: (x1 * 256 + x2) % 256 :: (n : Int) / 256 :: (n : Int) % 256 :: ((need n : Nat) : Int) :: t = _
    congr 1
    congr 1
    · omega
    · congr 1
      · omega
      · congr 1
        · omega
        · congr 1
          · omega
          · congr 1
            omega
  · -- 16
    have hlen : 6 ≤ ys.length := by
      unfold szOf at hs
      rw [if_pos (.inr hc)] at hs
      split at hs <;> omega
    obtain ⟨x0, x1, x2, x3, x4, x5, t, rfl⟩ := six_of hlen
    rw [nth_zero] at hc
    subst hc
    have b1 := hb 1 (by simp)
    have b2 := hb 2 (by simp)
    have b3 := hb 3 (by simp)
    have b4 := hb 4 (by simp)
    have b5 := hb 5 (by simp)
    simp only [nth_succ, nth_zero] at b1 b2 b3 b4 b5
    have ht : (t.length : Int) = x5 := by
      unfold szOf at hs
      rw [if_pos (.inr (nth_zero _ _)), if_neg (by simp)] at hs
      simp only [nth_succ, nth_zero, List.length_cons] at hs
      omega
    have hwt : ∀ x ∈ t, (Lit.int .u8 x).wf = true := fun x hx => hw x (by simp [hx])
    obtain ⟨n, hn⟩ : ∃ n : Nat, x3 * 256 + x4 = n := ⟨(x3 * 256 + x4).toNat, by omega⟩
    have ea : at2 (16 :: x1 :: x2 :: x3 :: x4 :: x5 :: t) 3 = n := hn
    have e : rdQ (16 :: x1 :: x2 :: x3 :: x4 :: x5 :: t) = ⟨16, x1 * 256 + x2, 0, [], wwords t, []⟩ := by
      unfold rdQ
      rw [if_neg (by rw [nth_zero]; omega), if_neg (by rw [nth_zero]; omega), if_neg (by rw [nth_zero]; omega), if_neg (by rw [nth_zero]; omega), if_pos (nth_zero _ _)]
      rfl
    unfold rdOk at hr
    rw [if_neg (by rw [nth_zero]; omega), if_neg (by rw [nth_zero]; omega), if_neg (by rw [nth_zero]; omega), if_pos (nth_zero _ _), ea, Int.toNat_natCast, decide_eq_true_eq] at hr
    have hr : t.length = 2 * n := hr
    rw [e]
    have e2 : pduQ ⟨16, x1 * 256 + x2, 0, [], wwords t, []⟩ = 16 :: (wbytes [x1 * 256 + x2, ((wwords t).length : Int)] ++ ((2 * (wwords t).length : Nat) : Int) :: wbytes (wwords t)) := rfl
    have hwl : (wwords t).length = n := by rw [wwords_length]; omega
    rw [e2, hwl, wbytes_wwords t hwt (by omega), wbytes_one _ _ (by omega), wbytes_one _ _ (by omega)]
    show 16 :: (x1 * 256 + x2) / 256 :: (x1 * 256 + x2) % 256 :: (n : Int) / 256 :: (n : Int) % 256 :: ((2 * n : Nat) : Int) :: t = _
    congr 1
    congr 1
    · omega
    · congr 1
      · omega
      · congr 1
        · omega
        · congr 1
          · omega
          · congr 1
            omega
  · -- 20
    have hlen : 2 ≤ ys.length := by
      unfold szOf at hs
      rw [if_neg (by omega), if_pos hc] at hs
      split at hs <;> omega
    obtain ⟨x0, x1, t, rfl⟩ := two_of hlen
    rw [nth_zero] at hc
    subst hc
    have ht : (t.length : Int) = x1 := by
      unfold szOf at hs
      rw [if_neg (by rw [nth_zero]; omega), if_pos (nth_zero _ _), if_neg (by simp)] at hs
      simp only [nth_succ, nth_zero, List.length_cons] at hs
      omega
    have hwt : ∀ x ∈ t, (Lit.int .u8 x).wf = true := fun x hx => hw x (by simp [hx])
    have e : rdQ (20 :: x1 :: t) = ⟨20, 0, 0, [], [], flOf t (t.length / 7)⟩ := by
      unfold rdQ
      rw [if_pos (nth_zero _ _)]
      rfl
    unfold rdOk at hr
    rw [if_pos (nth_zero _ _)] at hr
    have hr : partsOk t = true := hr
    simp only [partsOk, Bool.and_eq_true, decide_eq_true_eq] at hr
    have hl3 : (flOf t (t.length / 7)).length / 3 = t.length / 7 := by rw [flOf_length]; omega
    rw [e]
    have e2 : ∀ m, (flOf t (t.length / 7)).length / 3 = m → pduQ ⟨20, 0, 0, [], [], flOf t (t.length / 7)⟩ = 20 :: ((7 * m : Nat) : Int) :: pbytes (flOf t (t.length / 7)) m := fun m hm => by subst hm; rfl
    rw [e2 _ hl3, pbytes_flOf t hwt _ (by omega) hr.2]
    congr 2
    omega

theorem szOf_take {ys : List Int} (hs : (ys.length : Int) = szOf ys) {k : Nat} (h1 : 1 ≤ k) (h2 : k < ys.length) : (k : Int) < szOf (ys.take k) := by
  have hl : (ys.take k).length = k := by simp; omega
  have h0 := nth_pre ys k 0 (by omega)
  unfold szOf at hs ⊢
  rw [h0, hl]
  split
  · rename_i hc
    rw [if_pos hc] at hs
    split
    · omega
    · rw [if_neg (by omega)] at hs
      rw [nth_pre ys k 5 (by omega)]
      omega
  · rename_i hc
    rw [if_neg hc] at hs
    split
    · rename_i h20
      rw [if_pos h20] at hs
      split
      · omega
      · rw [if_neg (by omega)] at hs
        rw [nth_pre ys k 1 (by omega)]
        omega
    · rename_i h20
      rw [if_neg h20] at hs
      omega
/-- A beginning of a PDU is too short. -/
theorem getE_take {ys : List Int} (h : getE ys = 0) (k : Nat) (hk : k < ys.length) : getE (ys.take k) = 1 := by
  obtain ⟨h0, hm, hs, hr, hc⟩ := getE_zero h
  have hl : (ys.take k).length = k := by simp; omega
  unfold getE
  rw [hl]
  split
  · rfl
  · rename_i hk0
    rw [nth_pre ys k 0 (by omega), if_neg (by omega), if_pos (szOf_take hs (by omega) hk)]
/-- A PDU with more bytes behind it is too long. -/
theorem getE_more {ys : List Int} (h : getE ys = 0) (more : List Int) (hm0 : 0 < more.length) : getE (ys ++ more) = 2 := by
  obtain ⟨h0, hm, hs, hr, hc⟩ := getE_zero h
  have hl : (ys ++ more).length = ys.length + more.length := List.length_append
  have n0 : nth (ys ++ more) 0 = nth ys 0 := nth_left _ _ _ (by omega)
  have hsz : szOf (ys ++ more) = szOf ys := by
    unfold szOf at hs ⊢
    rw [n0, hl]
    split
    · rename_i hc
      rw [if_pos hc] at hs
      split at hs
      · omega
      · rw [if_neg (by omega), if_neg (by omega), nth_left _ _ _ (by omega)]
    · rename_i hc
      rw [if_neg hc] at hs
      split
      · rename_i h20
        rw [if_pos h20] at hs
        split at hs
        · omega
        · rw [if_neg (by omega), if_neg (by omega), nth_left _ _ _ (by omega)]
      · rfl
  unfold getE
  rw [hl, n0, hsz, if_neg (by omega), if_neg (by omega), if_neg (by omega), if_pos (by omega)]
end Go.Proofs.Ytojjcmkadmofdaa
