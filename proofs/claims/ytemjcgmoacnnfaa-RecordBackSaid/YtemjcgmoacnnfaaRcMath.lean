/-
  Records: the plain mathematics of layer 11.
-/
import Derived.Test.YtemjcgmoacnnfaaPkMath
import Derived.Test.YtemjcgmoacnnfaaTgName
import Derived.Laws.BytesArg
namespace Go.Proofs.Ytemjcgmoacnnfaa
open Go.RowKit
set_option linter.unusedVariables false

/-- A record as plain data. -/
structure Rc where
  (k t : Int) (g : ByteArray) (v i : Int)
def Rc.Ok (r : Rc) : Prop := r.g.size ≤ maxLen ∧ (-9223372036854775808 ≤ r.k ∧ r.k < 9223372036854775808) ∧ (-9223372036854775808 ≤ r.t ∧ r.t < 9223372036854775808) ∧ (-9223372036854775808 ≤ r.v ∧ r.v < 9223372036854775808) ∧ (-9223372036854775808 ≤ r.i ∧ r.i < 9223372036854775808)
/-- The value of a record. -/
def rcV (r : Rc) : Value := .agg #[.int .i64 r.k, .int .i64 r.t, .string r.g, .int .i64 r.v, .int .i64 r.i]
def zRc : Rc := ⟨0, 0, ⟨#[]⟩, 0, 0⟩
/-- Which fields have a meaning. -/
def tgK (k : Int) : Bool := decide (k = 1) || decide (k = 2)
def vlK (k : Int) : Bool := !decide (k = 5)
def idK (k : Int) : Bool := decide (k = 5) || decide (k = 6)
def betw (v a b : Int) : Bool := decide (v ≥ a) && decide (v ≤ b)
def vokK (k v : Int) : Bool := bif decide (k = 1) then betw v (-1099511627776) 1099511627776 else bif decide (k = 2) then betw v 1 4 else bif decide (k = 6) then betw v 0 255 else betw v 1 1099511627776
def strK (r : Rc) : Bool := (!tgK r.k && decide (0 < r.g.size)) || (!vlK r.k && !decide (r.v = 0)) || (!idK r.k && !decide (r.i = 0))
/-- What is wrong with a record. -/
def chkRc (r : Rc) : Int :=
  bif !betw r.k 1 6 then 28 else bif strK r then 23 else bif !betw r.t 0 1099511627776 then 3 else bif tgK r.k && !nameB (bys r.g) then 8
  else bif (vlK r.k && !vokK r.k r.v) || (idK r.k && !betw r.i 1 1099511627776) then 3 else 0

theorem betw_yes {v a b : Int} : betw v a b = true ↔ a ≤ v ∧ v ≤ b := by unfold betw; simp
theorem betw_no {v a b : Int} : betw v a b = false ↔ ¬ (a ≤ v ∧ v ≤ b) := by
  rw [← betw_yes]; simp
theorem kinds {k : Int} (h : betw k 1 6 = true) : k = 1 ∨ k = 2 ∨ k = 3 ∨ k = 4 ∨ k = 5 ∨ k = 6 := by
  have := betw_yes.1 h; omega

/-- A number in eight bytes. -/
def e8 (v : Int) : List Int := be 8 (v % 18446744073709551616).toNat
def n8 (ys : List Int) (a : Nat) : Int := IntKind.i64.wrap ((bval ((ys.drop a).take 8) : Nat) : Int)
theorem e8_len (v : Int) : (e8 v).length = 8 := be_length _ _
theorem e8_wf (v : Int) : ∀ x ∈ e8 v, (Lit.int .u8 x).wf = true := be_wf _ _
theorem bval_e8 (v : Int) : ((bval (e8 v) : Nat) : Int) = v % 18446744073709551616 := by
  unfold e8
  rw [bval_be 8 _ (by have : (256 : Nat) ^ 8 = 18446744073709551616 := by decide
                      omega)]
  omega
theorem wrap_e8 (v : Int) (h : (-9223372036854775808 ≤ v ∧ v < 9223372036854775808)) : IntKind.i64.wrap ((bval (e8 v) : Nat) : Int) = v := by
  rw [bval_e8, IntKind.wrap_i64]; omega
theorem be_snoc (n v : Nat) : be (n + 1) v = be n (v / 256) ++ [((v % 256 : Nat) : Int)] := by
  refine ext_nth _ _ (by simp [be_length]) fun j hj => ?_
  rw [be_length] at hj
  rw [be_nth _ _ _ hj]
  by_cases h : j < n
  · rw [nth_left _ _ _ (by rw [be_length]; exact h), be_nth _ _ _ h, show n + 1 - 1 - j = (n - 1 - j) + 1 by omega, Nat.pow_succ, Nat.mul_comm, Nat.div_div_eq_div_mul]
  · obtain rfl : j = n := by omega
    have := nth_right (be j (v / 256)) [((v % 256 : Nat) : Int)] 0
    rw [be_length, Nat.add_zero] at this
    rw [this]
    simp [nth]
theorem be_bval (n : Nat) : ∀ xs : List Int, xs.length = n → (∀ x ∈ xs, (Lit.int .u8 x).wf = true) → be n (bval xs) = xs := by
  induction n with
  | zero => intro xs h _; rw [List.eq_nil_of_length_eq_zero h]; rfl
  | succ n ih =>
    intro xs h hw
    obtain ⟨ys, y, rfl⟩ : ∃ ys y, xs = ys ++ [y] := ⟨xs.dropLast, xs.getLast (by intro e; subst e; simp at h), (List.dropLast_concat_getLast _).symm⟩
    have hy := wf_u8 (hw y (by simp))
    rw [be_snoc, bval_snoc]
    rw [show (bval ys * 256 + y.toNat) / 256 = bval ys by omega, show (bval ys * 256 + y.toNat) % 256 = y.toNat by omega, ih ys (by simpa using h) (fun x hx => hw x (by simp [hx]))]
    rw [show ((y.toNat : Nat) : Int) = y by omega]
theorem e8_n8 (ys : List Int) (hw : ∀ x ∈ ys, (Lit.int .u8 x).wf = true) (a : Nat) (h : a + 8 ≤ ys.length) : e8 (n8 ys a) = (ys.drop a).take 8 := by
  have hw2 : ∀ x ∈ (ys.drop a).take 8, (Lit.int .u8 x).wf = true := fun x hx => hw x (List.mem_of_mem_drop (List.mem_of_mem_take hx))
  have hl : ((ys.drop a).take 8).length = 8 := by rw [List.length_take, List.length_drop]; omega
  have hb := bval_lt _ hw2
  rw [hl] at hb
  have : (256 : Nat) ^ 8 = 18446744073709551616 := by decide
  unfold e8 n8
  rw [show (IntKind.i64.wrap ((bval ((ys.drop a).take 8) : Nat) : Int) % 18446744073709551616).toNat = bval ((ys.drop a).take 8) by rw [IntKind.wrap_i64]; omega]
  exact be_bval 8 _ hl hw2
theorem n8_in (ys : List Int) (a : Nat) : -9223372036854775808 ≤ n8 ys a ∧ n8 ys a < 9223372036854775808 := by
  unfold n8; rw [IntKind.wrap_i64]; omega

theorem bys_str (xs : List Int) (h : ∀ x ∈ xs, (Lit.int .u8 x).wf = true) : bys (strOfNums xs) = xs := by
  unfold bys strOfNums
  simp only [List.map_map]
  conv => rhs; rw [← List.map_id xs]
  refine List.map_congr_left fun x hx => ?_
  have := wf_u8 (h x hx)
  simp only [Function.comp, id]
  rw [UInt8.toNat_ofNat']
  omega
theorem bys_wf (s : ByteArray) : ∀ x ∈ bys s, (Lit.int .u8 x).wf = true := by
  intro x hx
  simp only [bys, List.mem_map] at hx
  obtain ⟨c, _, rfl⟩ := hx
  exact wf_byte _ c.toNat_lt
theorem str_bys (s : ByteArray) : strOfNums (bys s) = s := by
  unfold bys strOfNums
  apply ByteArray.ext
  apply Array.ext'
  simp only [List.map_map]
  conv => rhs; rw [← List.map_id s.data.toList]
  refine List.map_congr_left fun x hx => ?_
  simp
theorem bys_inj {s u : ByteArray} (h : bys s = bys u) : s = u := by rw [← str_bys s, ← str_bys u, h]

/-- A record's bytes. -/
def bytRc (r : Rc) : List Int := r.k :: (e8 r.t ++ ((bif tgK r.k then (r.g.size : Int) :: bys r.g else []) ++ ((bif idK r.k then e8 r.i else []) ++ (bif vlK r.k then e8 r.v else []))))
/-- What bytes say. -/
def tgN (ys : List Int) : Nat := (nth ys 9).toNat
def atRc (ys : List Int) : Nat := bif tgK (nth ys 0) then 10 + tgN ys else 9
def atVl (ys : List Int) : Nat := bif idK (nth ys 0) then atRc ys + 8 else atRc ys
def lenRc (ys : List Int) : Nat := bif vlK (nth ys 0) then atVl ys + 8 else atVl ys
def rdRc (ys : List Int) : Rc := ⟨nth ys 0, n8 ys 1, bif tgK (nth ys 0) then strOfNums ((ys.drop 10).take (tgN ys)) else ⟨#[]⟩, bif vlK (nth ys 0) then n8 ys (atVl ys) else 0, bif idK (nth ys 0) then n8 ys (atRc ys) else 0⟩
def rcErr (ys : List Int) : Int := if ys.length = 0 then 1 else bif !betw (nth ys 0) 1 6 then 28 else if ys.length < lenRc ys then 1 else if lenRc ys < ys.length then 2 else chkRc (rdRc ys)
def rcGot (ys : List Int) : Rc := if rcErr ys = 0 then rdRc ys else zRc

/-- What a right record is, by its Kind. -/
theorem chk_parts {r : Rc} (h : chkRc r = 0) : betw r.k 1 6 = true ∧ strK r = false ∧ (tgK r.k = true → nameB (bys r.g) = true) := by
  unfold chkRc at h
  revert h
  cases betw r.k 1 6 <;> cases strK r <;> cases betw r.t 0 1099511627776 <;> cases tgK r.k <;> cases nameB (bys r.g) <;> simp
theorem chk_name {r : Rc} (h : chkRc r = 0) (hk : tgK r.k = true) : nameB (bys r.g) = true := (chk_parts h).2.2 hk
theorem chk_kind {r : Rc} (h : chkRc r = 0) : betw r.k 1 6 = true := (chk_parts h).1
theorem chk_stray {r : Rc} (h : chkRc r = 0) : strK r = false := (chk_parts h).2.1
theorem name_size {s : ByteArray} (h : nameB (bys s) = true) : 1 ≤ s.size ∧ s.size ≤ 16 := by
  unfold nameB at h
  simp only [Bool.and_eq_true, decide_eq_true_eq, bys_len] at h
  exact ⟨h.1.1.1, h.1.1.2⟩
theorem size_zero {s : ByteArray} (h : ¬ 0 < s.size) : s = ⟨#[]⟩ := by
  apply ByteArray.ext
  apply Array.eq_empty_of_size_eq_zero
  have : s.data.size = s.size := rfl
  omega
theorem stray_parts {r : Rc} (h : strK r = false) : (tgK r.k = false → r.g = ⟨#[]⟩) ∧ (vlK r.k = false → r.v = 0) ∧ (idK r.k = false → r.i = 0) := by
  unfold strK at h
  simp only [Bool.or_eq_false_iff] at h
  obtain ⟨⟨h1, h2⟩, h3⟩ := h
  refine ⟨fun e => size_zero (by rw [e] at h1; simpa using h1), fun e => ?_, fun e => ?_⟩
  · rw [e] at h2; simpa using h2
  · rw [e] at h3; simpa using h3

theorem bytRc_len (r : Rc) : (bytRc r).length = 9 + (bif tgK r.k then 1 + r.g.size else 0) + (bif idK r.k then 8 else 0) + (bif vlK r.k then 8 else 0) := by
  unfold bytRc
  cases tgK r.k <;> cases idK r.k <;> cases vlK r.k <;> simp [e8_len, bys_len] <;> omega
theorem bytRc_0 (r : Rc) : nth (bytRc r) 0 = r.k := rfl
theorem drop_e8 (a : List Int) (v : Int) (b : List Int) (n : Nat) (h : a.length = n) : ((a ++ (e8 v ++ b)).drop n).take 8 = e8 v := by
  subst h
  rw [List.drop_left, List.take_append_of_le_length (by rw [e8_len]; omega), List.take_of_length_le (by rw [e8_len]; omega)]
theorem n8_e8 (a : List Int) (v : Int) (b : List Int) (n : Nat) (h : a.length = n) (hv : (-9223372036854775808 ≤ v ∧ v < 9223372036854775808)) : n8 (a ++ (e8 v ++ b)) n = v := by
  unfold n8; rw [drop_e8 a v b n h, wrap_e8 v hv]
theorem bytRc_9 (r : Rc) (h : tgK r.k = true) : nth (bytRc r) 9 = (r.g.size : Int) := by
  unfold bytRc
  rw [h]
  have h1 := nth_right (r.k :: e8 r.t) ((r.g.size : Int) :: (bys r.g ++ ((bif idK r.k then e8 r.i else []) ++ (bif vlK r.k then e8 r.v else [])))) 0
  rw [show (r.k :: e8 r.t).length + 0 = 9 by simp [e8_len]] at h1
  simpa [nth] using h1
def tgL (r : Rc) : List Int := bif tgK r.k then (r.g.size : Int) :: bys r.g else []
def idL (r : Rc) : List Int := bif idK r.k then e8 r.i else []
def vlL (r : Rc) : List Int := bif vlK r.k then e8 r.v else []
theorem bytRc_parts (r : Rc) : bytRc r = (r.k :: e8 r.t) ++ (tgL r ++ (idL r ++ vlL r)) := rfl
theorem atRc_byt (r : Rc) : atRc (bytRc r) = 9 + (tgL r).length := by
  unfold atRc tgN tgL
  rw [bytRc_0]
  cases h : tgK r.k
  · rfl
  · rw [bytRc_9 r h]; simp [bys_len]; omega
theorem atVl_byt (r : Rc) : atVl (bytRc r) = 9 + (tgL r).length + (idL r).length := by
  unfold atVl idL
  rw [bytRc_0, atRc_byt]
  cases h : idK r.k
  · rfl
  · simp [e8_len]
theorem lenRc_byt (r : Rc) : lenRc (bytRc r) = (bytRc r).length := by
  unfold lenRc
  rw [bytRc_0, atVl_byt, bytRc_parts]
  simp only [List.length_append, List.length_cons, e8_len]
  unfold vlL
  cases h : vlK r.k <;> simp [e8_len] <;> omega
/-- The bytes of a record are read as it. -/
theorem rd_byt {r : Rc} (ok : Rc.Ok r) (hs : strK r = false) : rdRc (bytRc r) = r := by
  obtain ⟨_, hk, ht, hv, hi⟩ := ok
  obtain ⟨s1, s2, s3⟩ := stray_parts hs
  have hT : n8 (bytRc r) 1 = r.t := n8_e8 [r.k] r.t _ 1 rfl ht
  have hI : (bif idK r.k then n8 (bytRc r) (atRc (bytRc r)) else 0) = r.i := by
    cases h : idK r.k
    · exact (s3 h).symm
    · rw [atRc_byt, bytRc_parts]
      have := n8_e8 ((r.k :: e8 r.t) ++ tgL r) r.i (vlL r) (9 + (tgL r).length) (by simp [e8_len]; omega) hi
      rw [← List.append_assoc, show idL r = e8 r.i by unfold idL; rw [h]; rfl]
      exact this
  have hV : (bif vlK r.k then n8 (bytRc r) (atVl (bytRc r)) else 0) = r.v := by
    cases h : vlK r.k
    · exact (s2 h).symm
    · rw [atVl_byt, bytRc_parts]
      have := n8_e8 ((r.k :: e8 r.t) ++ tgL r ++ idL r) r.v [] (9 + (tgL r).length + (idL r).length) (by simp [e8_len]; omega) hv
      rw [← List.append_assoc, ← List.append_assoc, show vlL r = e8 r.v ++ [] by unfold vlL; rw [h]; simp]
      exact this
  have hG : (bif tgK r.k then strOfNums (((bytRc r).drop 10).take (tgN (bytRc r))) else ⟨#[]⟩) = r.g := by
    cases h : tgK r.k
    · exact (s1 h).symm
    · have h9 := bytRc_9 r h
      unfold tgN
      rw [h9, bytRc_parts, show tgL r = [(r.g.size : Int)] ++ bys r.g by unfold tgL; rw [h]; rfl]
      rw [show r.k :: e8 r.t ++ ([(r.g.size : Int)] ++ bys r.g ++ (idL r ++ vlL r)) = (r.k :: e8 r.t ++ [(r.g.size : Int)]) ++ (bys r.g ++ (idL r ++ vlL r)) by simp]
      rw [List.drop_left' (by simp [e8_len]), List.take_left' (by rw [bys_len]; omega), str_bys]
      rfl
  unfold rdRc
  rw [bytRc_0, hT, hI, hV, hG]
theorem rc_back {r : Rc} (ok : Rc.Ok r) (h : chkRc r = 0) : rcErr (bytRc r) = 0 ∧ rcGot (bytRc r) = r ∧ 17 ≤ (bytRc r).length ∧ (bytRc r).length ≤ 34 := by
  have hr := rd_byt ok (chk_stray h)
  have hl := lenRc_byt r
  have hk := chk_kind h
  have hlen := bytRc_len r
  have hsz : tgK r.k = true → 1 ≤ r.g.size ∧ r.g.size ≤ 16 := fun e => name_size (chk_name h e)
  have hb : 17 ≤ (bytRc r).length ∧ (bytRc r).length ≤ 34 := by
    have hk2 := kinds hk
    rw [hlen]
    rcases hk2 with e | e | e | e | e | e
    all_goals
      rw [e] at hsz
      rw [e]
      simp [tgK, idK, vlK] at hsz ⊢
    all_goals omega
  have he : rcErr (bytRc r) = 0 := by
    unfold rcErr
    rw [if_neg (by omega), bytRc_0, hk, hl, if_neg (by omega), if_neg (by omega), hr, h]
    rfl
  exact ⟨he, by unfold rcGot; rw [if_pos he, hr], hb⟩
/-- What is read of any bytes has just these. -/
theorem rc_err_parts {ys : List Int} (h : rcErr ys = 0) : 0 < ys.length ∧ betw (nth ys 0) 1 6 = true ∧ ys.length = lenRc ys ∧ chkRc (rdRc ys) = 0 := by
  unfold rcErr at h
  split at h
  · exact absurd h (by decide)
  cases hk : betw (nth ys 0) 1 6 <;> rw [hk] at h
  · simp at h
  simp only [Bool.not_true, cond_false] at h
  split at h
  · exact absurd h (by decide)
  split at h
  · exact absurd h (by decide)
  exact ⟨by omega, rfl, by omega, h⟩
theorem rdRc_ok (ys : List Int) (hw : ∀ x ∈ ys, (Lit.int .u8 x).wf = true) (hl : ys.length ≤ maxLen) : Rc.Ok (rdRc ys) := by
  have z0 : -9223372036854775808 ≤ (0 : Int) ∧ (0 : Int) < 9223372036854775808 := by omega
  refine ⟨?_, ?_, n8_in _ _, ?_, ?_⟩
  · simp only [rdRc]
    cases tgK (nth ys 0)
    · exact Nat.zero_le _
    · simp only [cond_true, strOfNums_size, List.length_take, List.length_drop]; omega
  · simp only [rdRc]
    by_cases h : 0 < ys.length
    · have := wf_u8 (hw _ (nth_mem ys 0 h)); omega
    · have : ys = [] := List.eq_nil_of_length_eq_zero (by omega)
      subst this
      exact z0
  · simp only [rdRc]
    cases vlK (nth ys 0)
    · exact z0
    · exact n8_in _ _
  · simp only [rdRc]
    cases idK (nth ys 0)
    · exact z0
    · exact n8_in _ _
theorem split_8 (ys : List Int) (a : Nat) (h : a ≤ ys.length) : ys.drop a = (ys.drop a).take 8 ++ ys.drop (a + 8) := by
  rw [← List.drop_drop, List.take_append_drop]
theorem rc_only {ys : List Int} (hw : ∀ x ∈ ys, (Lit.int .u8 x).wf = true) (h : rcErr ys = 0) : bytRc (rdRc ys) = ys := by
  obtain ⟨h0, hk, hl, hc⟩ := rc_err_parts h
  have e0 : ys = nth ys 0 :: ys.drop 1 := by
    cases ys with
    | nil => simp at h0
    | cons y ys => simp [nth]
  have hat : 9 ≤ atRc ys ∧ atRc ys ≤ atVl ys ∧ atVl ys ≤ lenRc ys := by
    unfold atRc atVl lenRc atVl atRc
    cases tgK (nth ys 0) <;> cases idK (nth ys 0) <;> cases vlK (nth ys 0) <;> simp <;> omega
  have hT : e8 (rdRc ys).t = (ys.drop 1).take 8 := e8_n8 ys hw 1 (by omega)
  have hG : tgL (rdRc ys) = (ys.drop 9).take (atRc ys - 9) := by
    unfold tgL rdRc atRc
    simp only
    cases hk1 : tgK (nth ys 0)
    · simp
    · have hat2 : 10 + tgN ys ≤ ys.length := by
        have : atRc ys = 10 + tgN ys := by unfold atRc; rw [hk1]; rfl
        omega
      have h9 := wf_u8 (hw _ (nth_mem ys 9 (by omega)))
      simp only [cond_true]
      rw [bys_str _ (fun x hx => hw x (List.mem_of_mem_drop (List.mem_of_mem_take hx))), strOfNums_size, List.length_take, List.length_drop, Nat.min_eq_left (by omega)]
      rw [show 10 + tgN ys - 9 = tgN ys + 1 by omega, List.drop_eq_getElem_cons (show 9 < ys.length by omega), List.take_succ_cons, ← nth_eq ys 9 (by omega)]
      congr 1
      unfold tgN; omega
  have hI : idL (rdRc ys) = (ys.drop (atRc ys)).take (atVl ys - atRc ys) := by
    unfold idL rdRc
    simp only
    cases hk1 : idK (nth ys 0)
    · rw [show atVl ys = atRc ys by unfold atVl; rw [hk1]; rfl]; simp
    · have e1 : atVl ys = atRc ys + 8 := by unfold atVl; rw [hk1]; rfl
      rw [e1, show atRc ys + 8 - atRc ys = 8 by omega]
      exact e8_n8 ys hw _ (by omega)
  have hV : vlL (rdRc ys) = (ys.drop (atVl ys)).take (lenRc ys - atVl ys) := by
    unfold vlL rdRc
    simp only
    cases hk1 : vlK (nth ys 0)
    · rw [show lenRc ys = atVl ys by unfold lenRc; rw [hk1]; rfl]; simp
    · have e1 : lenRc ys = atVl ys + 8 := by unfold lenRc; rw [hk1]; rfl
      rw [e1, show atVl ys + 8 - atVl ys = 8 by omega]
      exact e8_n8 ys hw _ (by omega)
  have join : ∀ a b, a ≤ b → (ys.drop a).take (b - a) ++ ys.drop b = ys.drop a := fun a b hab => by
    have := List.take_append_drop (b - a) (ys.drop a)
    rw [List.drop_drop, show a + (b - a) = b by omega] at this
    exact this
  rw [bytRc_parts, hT, hG, hI, hV, show (ys.drop (atVl ys)).take (lenRc ys - atVl ys) = ys.drop (atVl ys) from List.take_of_length_le (by rw [List.length_drop]; omega)]
  rw [join _ _ hat.2.1, join _ _ hat.1, List.cons_append]
  have := join 1 9 (by omega)
  rw [show 9 - 1 = 8 by omega] at this
  rw [this]
  exact e0.symm
theorem nth_take (ys : List Int) (n j : Nat) (h : j < n) : nth (ys.take n) j = nth ys j := by
  simp [nth, List.getD_eq_getElem?_getD, List.getElem?_take_of_lt h]
/-- A beginning of a record's bytes is too short, and with more behind them they are too many. -/
theorem rc_front {r : Rc} (h : chkRc r = 0) (n : Nat) (hn : n < (bytRc r).length) : rcErr ((bytRc r).take n) = 1 := by
  unfold rcErr
  split
  · rfl
  rename_i h0
  have hl : ((bytRc r).take n).length = n := by rw [List.length_take]; omega
  rw [hl] at h0
  have hk := chk_kind h
  rw [nth_take _ _ _ (by omega), bytRc_0, hk, hl]
  simp only [Bool.not_true, cond_false]
  refine if_pos ?_
  have hb := lenRc_byt r
  unfold lenRc atVl atRc at hb ⊢
  rw [nth_take _ _ _ (by omega)]
  by_cases h9 : 9 < n
  · unfold tgN at hb ⊢
    rw [nth_take _ _ _ h9, hb]; exact hn
  · rw [bytRc_0] at hb ⊢
    rcases kinds hk with e | e | e | e | e | e <;> rw [e] <;> simp [tgK, idK, vlK] <;> omega
theorem rc_more {r : Rc} (h : chkRc r = 0) (zs : List Int) (hz : 0 < zs.length) : rcErr (bytRc r ++ zs) = 2 := by
  have hk := chk_kind h
  have hlen := bytRc_len r
  unfold rcErr
  have h0 : 0 < (bytRc r).length := by rw [hlen]; omega
  have hb := lenRc_byt r
  have hl : lenRc (bytRc r ++ zs) = (bytRc r).length := by
    rw [← hb]
    unfold lenRc atVl atRc tgN
    rw [nth_left _ _ _ h0]
    cases ht : tgK (nth (bytRc r) 0)
    · rfl
    · rw [nth_left _ _ _ (by rw [hlen]; rw [bytRc_0] at ht; rw [ht]; simp; omega)]
  rw [if_neg (by rw [List.length_append]; omega), nth_left _ _ _ h0, bytRc_0, hk, hl, if_neg (by rw [List.length_append]; omega), if_pos (by rw [List.length_append]; omega)]
  rfl
end Go.Proofs.Ytemjcgmoacnnfaa
