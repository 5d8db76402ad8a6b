/-
  Texts of the proof of PlanValues, joined.
-/
import Derived.Test.YtcmbdhmhkfhjfaaGreatJPlanValuesG
import Derived.Test.YtcmbdhmhkfhjfaaGreatJPlanValuesE
import Derived.Test.YtcmbdhmhkfhjfaaGreatJPlanValuesB
import Derived.Test.YtcmbdhmhkfhjfaaGreatProg
import Derived.Test.YtcmbdhmhkfhjfaaGreatJPlanValuesA
import Derived.Laws.CopyOwn
import Derived.IntWalk
import Derived.Deep.RegionLaw
import Derived.Deep.RegionWith
import Derived.Test.YtcmbdhmhkfhjfaaGreatJPlanValuesC
import Derived.StillTailTactics
import Derived.Deep.RegionHeld3
import Derived.Deep.AppendLies
import Derived.Laws.StructEq
namespace Go.Proofs.YtcmbdhmhkfhjfaaGreat
open Go.RowKit
set_option linter.unusedVariables false

/-- How many words the i-th part asks for, and where its head stands in the answer. -/
def lenF (fl : List Int) (i : Nat) : Nat := (nth fl (3 * i + 2)).toNat
def posF (fl : List Int) : Nat → Nat
  | 0 => 2
  | k + 1 => posF fl k + (2 + 2 * lenF fl k)
def fileAt (fl ys : List Int) (i : Nat) : List Int := wwords ((ys.drop (posF fl i + 2)).take (2 * lenF fl i))
def headAt (fl ys : List Int) (i : Nat) : Bool := decide (nth ys (posF fl i) = ((1 + 2 * lenF fl i : Nat) : Int)) && decide (nth ys (posF fl i + 1) = 6)
def filesR (fl ys : List Int) (k : Nat) : List (List Int) := (List.range k).map (fileAt fl ys)
def headsR (fl ys : List Int) : Nat → Bool
  | 0 => true
  | k + 1 => headsR fl ys k && headAt fl ys k
/-- How many bytes each answer to a right request has that is no exception. -/
def sizeR (q : Req) : Nat := if q.c = 1 ∨ q.c = 2 then 2 + need q.n.toNat else if q.c = 3 ∨ q.c = 4 then 2 + 2 * q.n.toNat else if q.c = 20 then posF q.fl (q.fl.length / 3) else 5
/-- Are bytes of the right code and size an answer, and which one? -/
def rdOkR (q : Req) (ys : List Int) : Bool :=
  if q.c = 1 ∨ q.c = 2 then decide (nth ys 1 = ((need q.n.toNat : Nat) : Int)) && !spareB (ys.drop 2) q.n.toNat
  else if q.c = 3 ∨ q.c = 4 then decide (nth ys 1 = ((2 * q.n.toNat : Nat) : Int))
  else if q.c = 20 then decide (nth ys 1 = ((ys.length - 2 : Nat) : Int)) && headsR q.fl ys (q.fl.length / 3)
  else decide (ys = (putL q).take 5)
def rdR (q : Req) (ys : List Int) : Rep :=
  if q.c = 1 ∨ q.c = 2 then ⟨0, unpk (ys.drop 2) q.n.toNat, [], []⟩
  else if q.c = 3 ∨ q.c = 4 then ⟨0, [], wwords (ys.drop 2), []⟩
  else if q.c = 20 then ⟨0, [], [], filesR q.fl ys (q.fl.length / 3)⟩
  else Rep.zero
/-- What is wrong with bytes as an answer, and what they say. -/
def getRE (q : Req) (ys : List Int) : Int :=
  if chkQ q ≠ 0 then chkQ q else if ys.length = 0 then 1
  else if nth ys 0 = q.c + 128 then (if ys.length < 2 then 1 else if 2 < ys.length then 2 else if 1 ≤ nth ys 1 ∧ nth ys 1 ≤ 127 then 0 else 3)
  else if nth ys 0 = q.c then (if ys.length < sizeR q then 1 else if sizeR q < ys.length then 2 else if rdOkR q ys = true then 0 else 4)
  else 20
def getR (q : Req) (ys : List Int) : Rep := if getRE q ys ≠ 0 then Rep.zero else if nth ys 0 = q.c + 128 then ⟨nth ys 1, [], [], []⟩ else rdR q ys

theorem right_bits {q : Req} (hk : chkQ q = 0) (hc : q.c = 1 ∨ q.c = 2) : 1 ≤ q.n ∧ q.n ≤ 2000 := by
  have hz := (chk_zero hk).2.2.2.1
  rcases hc with hc | hc <;> rw [hc] at hz <;> simp [many, mm] at hz <;> omega
theorem right_words {q : Req} (hk : chkQ q = 0) (hc : q.c = 3 ∨ q.c = 4) : 1 ≤ q.n ∧ q.n ≤ 125 := by
  have hz := (chk_zero hk).2.2.2.1
  rcases hc with hc | hc <;> rw [hc] at hz <;> simp [many, mm] at hz <;> omega
theorem posF_sum (fl : List Int) (k : Nat) (h : ∀ i, i < k → 0 ≤ nth fl (3 * i + 2)) : (posF fl k : Int) = 2 + sumTo fl k := by
  induction k with
  | zero => rfl
  | succ k ih =>
    have := ih (fun i hi => h i (by omega))
    have := h k (by omega)
    rw [posF, sumTo, lenF]
    omega
theorem posF_two (fl : List Int) (k : Nat) : 2 ≤ posF fl k := by
  induction k with
  | zero => exact Nat.le_refl _
  | succ k ih => rw [posF]; omega
theorem posF_lt (fl : List Int) {i k : Nat} (h : i < k) : posF fl i + (2 + 2 * lenF fl i) ≤ posF fl k := by
  induction k with
  | zero => omega
  | succ k ih =>
    rw [posF]
    rcases Nat.lt_succ_iff_lt_or_eq.1 h with h1 | h1
    · have := ih h1; omega
    · subst h1; omega
theorem right_files {q : Req} (hk : chkQ q = 0) (hc : q.c = 20) : (1 ≤ q.fl.length / 3 ∧ q.fl.length / 3 ≤ 35) ∧ (∀ i, i < q.fl.length / 3 → 1 ≤ nth q.fl (3 * i + 2)) ∧ posF q.fl (q.fl.length / 3) ≤ 247 := by
  have hz := chk_zero hk
  obtain ⟨hok, hs⟩ := hz.2.2.2.2.1 hc
  have hm := hz.2.2.2.1
  rw [hc] at hm
  have h1 : ∀ i, i < q.fl.length / 3 → 1 ≤ nth q.fl (3 * i + 2) := fun i hi => ((inPl_iff _ _ _).1 (allOk_le hok i hi)).2.2.1
  have h2 := posF_sum q.fl (q.fl.length / 3) (fun i hi => by have := h1 i hi; omega)
  refine ⟨by simp [many, mm] at hm; omega, h1, by omega⟩

theorem filesR_length (fl ys : List Int) (k : Nat) : (filesR fl ys k).length = k := by simp [filesR]
theorem filesR_nth (fl ys : List Int) (k i : Nat) (h : i < k) : nthF (filesR fl ys k) i = fileAt fl ys i := by
  simp [nthF, filesR, List.getD_eq_getElem?_getD, h]
theorem fileAt_length (fl ys : List Int) (i : Nat) (h : posF fl i + (2 + 2 * lenF fl i) ≤ ys.length) : (fileAt fl ys i).length = lenF fl i := by
  rw [fileAt, wwords_length, List.length_take, List.length_drop]; omega
theorem headsR_le {fl ys : List Int} {n : Nat} (h : headsR fl ys n = true) : ∀ i, i < n → headAt fl ys i = true := by
  induction n with
  | zero => intro i hi; omega
  | succ n ih =>
    rw [headsR, Bool.and_eq_true] at h
    intro i hi
    rcases Nat.lt_succ_iff_lt_or_eq.1 hi with h1 | h1
    · exact ih h.1 i h1
    · subst h1; exact h.2
theorem headsR_of {fl ys : List Int} {n : Nat} (h : ∀ i, i < n → headAt fl ys i = true) : headsR fl ys n = true := by
  induction n with
  | zero => rfl
  | succ n ih => rw [headsR, Bool.and_eq_true]; exact ⟨ih fun i hi => h i (by omega), h n (by omega)⟩
theorem headsR_no {fl ys : List Int} {n i : Nat} (hi : i < n) (h : headAt fl ys i = false) : headsR fl ys n = false := by
  cases hh : headsR fl ys n with
  | false => rfl
  | true => rw [headsR_le hh i hi] at h; cases h
theorem headAt_iff {fl ys : List Int} {i : Nat} : headAt fl ys i = true ↔ nth ys (posF fl i) = ((1 + 2 * lenF fl i : Nat) : Int) ∧ nth ys (posF fl i + 1) = 6 := by
  rw [headAt, Bool.and_eq_true, decide_eq_true_eq, decide_eq_true_eq]

theorem drop_two {ys : List Int} {p : Nat} (h : p + 2 ≤ ys.length) : ys.drop p = nth ys p :: nth ys (p + 1) :: ys.drop (p + 2) := by
  rw [List.drop_eq_getElem_cons (by omega), List.drop_eq_getElem_cons (by omega), nth_eq ys p (by omega), nth_eq ys (p + 1) (by omega)]
theorem take_cut (l : List Int) (a b : Nat) : l.take (a + b) = l.take a ++ (l.drop a).take b := by
  rw [List.take_add]
/-- The files that bytes say become these bytes. -/
theorem fbytes_filesR (fl ys : List Int) (hw : ∀ x ∈ ys, (Lit.int .u8 x).wf = true) (n k : Nat) (hk : k ≤ n) (hh : headsR fl ys k = true) (hl : posF fl k ≤ ys.length) : fbytes (filesR fl ys n) k = (ys.drop 2).take (posF fl k - 2) := by
  induction k with
  | zero => rfl
  | succ k ih =>
    rw [posF] at hl
    have h2 := posF_two fl k
    rw [headsR, Bool.and_eq_true] at hh
    obtain ⟨e1, e2⟩ := headAt_iff.1 hh.2
    have hX : wbytes (fileAt fl ys k) = (ys.drop (posF fl k + 2)).take (2 * lenF fl k) := by
      rw [fileAt, wbytes_wwords _ (fun x hx => hw x (List.mem_of_mem_drop (List.mem_of_mem_take hx))) (by rw [List.length_take, List.length_drop]; omega)]
    rw [fbytes, ih (by omega) hh.1 (by omega), filesR_nth _ _ _ _ (by omega), fileAt_length _ _ _ (by omega), hX, posF, show posF fl k + (2 + 2 * lenF fl k) - 2 = (posF fl k - 2) + (2 + 2 * lenF fl k) by omega, take_cut, List.drop_drop, show 2 + (posF fl k - 2) = posF fl k by omega, List.append_assoc, drop_two (p := posF fl k) (by omega), e1, e2,
      show 2 + 2 * lenF fl k = 2 * lenF fl k + 1 + 1 by omega, List.take_succ_cons, List.take_succ_cons]
    rfl
theorem fbytes_len (fl : List Int) (fs : List (List Int)) (k : Nat) (h : ∀ i, i < k → (nthF fs i).length = lenF fl i) : (fbytes fs k).length + 2 = posF fl k := by
  induction k with
  | zero => rfl
  | succ k ih =>
    have := ih (fun i hi => h i (by omega))
    have := h k (by omega)
    rw [fbytes, posF, List.length_append, List.length_append, wbytes_length]
    simp only [List.length_cons, List.length_nil]
    omega
theorem fbytes_split (fs : List (List Int)) (n i : Nat) (h : i < n) : ∃ rest, fbytes fs n = fbytes fs i ++ (((1 + 2 * (nthF fs i).length : Nat) : Int) :: 6 :: (wbytes (nthF fs i) ++ rest)) := by
  induction n with
  | zero => omega
  | succ n ih =>
    rcases Nat.lt_succ_iff_lt_or_eq.1 h with h1 | h1
    · obtain ⟨rest, hr⟩ := ih h1
      exact ⟨rest ++ [((1 + 2 * (nthF fs n).length : Nat) : Int), 6] ++ wbytes (nthF fs n), by rw [fbytes, hr]; simp⟩
    · subst h1
      exact ⟨[], by rw [fbytes]; simp⟩
/-- What files become says these files. -/
theorem filesR_fbytes (fl : List Int) (fs : List (List Int)) (n : Nat) (a b : Int) (hn : fs.length = n) (h : ∀ i, i < n → (nthF fs i).length = lenF fl i) (hw : ∀ xs ∈ fs, ∀ x ∈ xs, (Lit.int .u16 x).wf = true) :
    headsR fl (a :: b :: fbytes fs n) n = true ∧ filesR fl (a :: b :: fbytes fs n) n = fs := by
  have key : ∀ i, i < n → ∃ rest, (a :: b :: fbytes fs n).drop (posF fl i) = ((1 + 2 * lenF fl i : Nat) : Int) :: 6 :: (wbytes (nthF fs i) ++ rest) := by
    intro i hi
    obtain ⟨rest, hr⟩ := fbytes_split fs n i hi
    have hl := fbytes_len fl fs i (fun j hj => h j (by omega))
    refine ⟨rest, ?_⟩
    rw [← hl, hr, h i hi]
    rw [List.drop_succ_cons, List.drop_succ_cons, List.drop_left]
  have hd : ∀ i, i < n → headAt fl (a :: b :: fbytes fs n) i = true := by
    intro i hi
    obtain ⟨rest, hr⟩ := key i hi
    have e0 := nth_drop (a :: b :: fbytes fs n) (posF fl i) 0
    have e1 := nth_drop (a :: b :: fbytes fs n) (posF fl i) 1
    rw [hr] at e0 e1
    exact headAt_iff.2 ⟨e0.symm, e1.symm⟩
  refine ⟨headsR_of hd, ?_⟩
  refine List.ext_getElem (by rw [filesR_length, hn]) fun i h1 h2 => ?_
  have hi : i < n := by rw [filesR_length] at h1; exact h1
  obtain ⟨rest, hr⟩ := key i hi
  have e1 : nthF fs i = fs[i] := by simp [nthF, List.getD_eq_getElem?_getD, List.getElem?_eq_getElem h2]
  simp only [filesR, List.getElem_map, List.getElem_range]
  rw [fileAt, ← List.drop_drop, hr, List.drop_succ_cons, List.drop_succ_cons, List.drop_zero, ← h i hi, List.take_left' (by rw [wbytes_length]), e1, wwords_wbytes _ (hw _ (List.getElem_mem h2))]

/-- An answer's parts lie behind one another: what is wrong first, and what is not. -/
theorem repN_stray {q : Req} {r : Rep} (h : chkR q r = 0) (hx : r.x = 0) : (¬ (q.c = 1 ∨ q.c = 2) → r.on = []) ∧ (¬ (q.c = 3 ∨ q.c = 4) → r.set = []) ∧ (q.c ≠ 20 → r.fs = []) := by
  unfold chkR at h
  by_cases hk : chkQ q ≠ 0
  · rw [if_pos hk] at h; exact absurd h hk
  · rw [if_neg hk, if_neg (show ¬ r.x ≠ 0 by simp [hx])] at h
    by_cases hs : strayB q.c r.on.length r.set.length r.fs.length = true
    · rw [if_pos hs] at h; cases h
    · simp only [strayB, anyB, Bool.or_eq_true, decide_eq_true_eq, not_or, Nat.not_lt, Nat.le_zero] at hs
      obtain ⟨⟨h1, h2⟩, h3⟩ := hs
      refine ⟨fun g => ?_, fun g => ?_, fun g => ?_⟩
      · rw [if_neg g] at h1; exact List.eq_nil_of_length_eq_zero h1
      · rw [if_neg g] at h2; exact List.eq_nil_of_length_eq_zero h2
      · rw [if_neg g] at h3; exact List.eq_nil_of_length_eq_zero h3
theorem chkR_exc {q : Req} {r : Rep} (h : chkR q r = 0) (hx : r.x ≠ 0) : chkQ q = 0 ∧ (1 ≤ r.x ∧ r.x ≤ 127) ∧ r.on = [] ∧ r.set = [] ∧ r.fs = [] := by
  unfold chkR at h
  by_cases hk : chkQ q ≠ 0
  · rw [if_pos hk] at h; exact absurd h hk
  · rw [if_neg hk, if_pos hx] at h
    split at h
    · rename_i h1
      split at h
      · cases h
      · rename_i h2
        simp only [anyB, Bool.or_eq_true, decide_eq_true_eq, not_or, Nat.not_lt, Nat.le_zero] at h2
        exact ⟨Decidable.not_not.1 hk, h1, List.eq_nil_of_length_eq_zero h2.1.1, List.eq_nil_of_length_eq_zero h2.1.2, List.eq_nil_of_length_eq_zero h2.2⟩
    · cases h
theorem chkR_q {q : Req} {r : Rep} (h : chkR q r = 0) : chkQ q = 0 := by
  by_cases hx : r.x = 0
  · exact (chkR_zero h hx).1
  · exact (chkR_exc h hx).1
theorem rep_lens {q : Req} {r : Rep} (h : chkR q r = 0) (hx : r.x = 0) : (q.c = 1 ∨ q.c = 2 → (r.on.length : Int) = q.n) ∧ (q.c = 3 ∨ q.c = 4 → (r.set.length : Int) = q.n) ∧ (q.c = 20 → q.fl.length / 3 = r.fs.length ∧ ∀ i, i < r.fs.length → (nthF r.fs i).length = lenF q.fl i) := by
  have h2 := (chkR_zero h hx).2
  unfold manyB at h2
  refine ⟨fun hc => ?_, fun hc => ?_, fun hc => ?_⟩
  · rw [if_pos hc] at h2; exact of_decide_eq_true h2
  · rw [if_neg (by omega), if_pos hc] at h2; exact of_decide_eq_true h2
  · rw [if_neg (by omega), if_neg (by omega), if_pos hc] at h2
    obtain ⟨hl, hi⟩ := fits_true h2
    exact ⟨by omega, fun i h => by have := hi i h; rw [lenF]; omega⟩
theorem putL_head {q : Req} (hk : chkQ q = 0) : nth ((putL q).take 5) 0 = q.c := by
  rw [putL, if_pos hk]; rfl
theorem putL_take {q : Req} (hk : chkQ q = 0) (n1 : q.c ≠ 20) : ((putL q).take 5).length = 5 := by
  have := putL_five hk n1
  rw [List.length_take]; omega
/-- The form of a right answer: its size, its code. -/
theorem formR_size {q : Req} {r : Rep} (h : chkR q r = 0) (hx : r.x = 0) : (formR q r).length = sizeR q ∧ nth (formR q r) 0 = q.c ∧ 2 ≤ sizeR q ∧ sizeR q ≤ 253 := by
  have hq := chkR_q h
  obtain ⟨l1, l2, l3⟩ := rep_lens h hx
  unfold formR sizeR
  by_cases h1 : q.c = 1 ∨ q.c = 2
  · have := right_bits hq h1
    have := l1 h1
    rw [if_pos h1, if_pos h1]
    simp only [List.length_cons, pk_length]
    have e : r.on.length = q.n.toNat := by omega
    rw [e]
    refine ⟨by omega, rfl, by omega, by unfold need; omega⟩
  · rw [if_neg h1, if_neg h1]
    by_cases h2 : q.c = 3 ∨ q.c = 4
    · have := right_words hq h2
      have := l2 h2
      rw [if_pos h2, if_pos h2]
      simp only [List.length_cons, wbytes_length]
      exact ⟨by omega, rfl, by omega, by omega⟩
    · rw [if_neg h2, if_neg h2]
      by_cases h3 : q.c = 20
      · obtain ⟨f1, f2, f3⟩ := right_files hq h3
        obtain ⟨e, hl⟩ := l3 h3
        have hb := fbytes_len q.fl r.fs r.fs.length hl
        rw [if_pos h3, if_pos h3, e]
        simp only [List.length_cons]
        have := posF_two q.fl r.fs.length
        rw [e] at f3
        exact ⟨by omega, h3.symm, by omega, by omega⟩
      · rw [if_neg h3, if_neg h3]
        exact ⟨putL_take hq h3, putL_head hq, by omega, by omega⟩
theorem rd_formR {q : Req} {r : Rep} (h : chkR q r = 0) (hx : r.x = 0) (hset : ∀ x ∈ r.set, (Lit.int .u16 x).wf = true) (hfs : ∀ xs ∈ r.fs, ∀ x ∈ xs, (Lit.int .u16 x).wf = true) : rdOkR q (formR q r) = true ∧ rdR q (formR q r) = r := by
  have hq := chkR_q h
  obtain ⟨l1, l2, l3⟩ := rep_lens h hx
  obtain ⟨s1, s2, s3⟩ := repN_stray h hx
  obtain ⟨x, on, set, fs⟩ := r
  simp only at hx l1 l2 l3 s1 s2 s3 hset hfs
  subst hx
  unfold rdOkR rdR formR
  by_cases h1 : q.c = 1 ∨ q.c = 2
  · have := right_bits hq h1
    have := l1 h1
    have e : q.n.toNat = on.length := by omega
    obtain rfl := s2 (by omega)
    obtain rfl := s3 (by omega)
    simp only [if_pos h1, e]
    rw [List.drop_succ_cons, List.drop_succ_cons, List.drop_zero, unpk_pk]
    refine ⟨?_, rfl⟩
    rw [Bool.and_eq_true]
    refine ⟨decide_eq_true rfl, ?_⟩
    have hn := no_spare_pk on
    rw [← spareB_iff] at hn
    simpa using hn
  · simp only [if_neg h1]
    by_cases h2 : q.c = 3 ∨ q.c = 4
    · have := right_words hq h2
      have := l2 h2
      obtain rfl := s1 h1
      obtain rfl := s3 (by omega)
      simp only [if_pos h2]
      rw [List.drop_succ_cons, List.drop_succ_cons, List.drop_zero, wwords_wbytes _ hset]
      exact ⟨decide_eq_true (by show 2 * (set.length : Int) = _; omega), rfl⟩
    · simp only [if_neg h2]
      by_cases h3 : q.c = 20
      · obtain rfl := s1 h1
        obtain rfl := s2 h2
        obtain ⟨e, hl⟩ := l3 h3
        obtain ⟨g1, g2⟩ := filesR_fbytes q.fl fs fs.length 20 (((fbytes fs fs.length).length : Nat) : Int) rfl hl hfs
        simp only [if_pos h3, e]
        rw [g1, g2]
        refine ⟨?_, rfl⟩
        rw [Bool.and_true]
        exact decide_eq_true (by simp only [List.length_cons]; rfl)
      · obtain rfl := s1 h1
        obtain rfl := s2 h2
        obtain rfl := s3 h3
        simp only [if_neg h3]
        exact ⟨by simp, rfl⟩

/-- What was made of an answer is read as that answer. -/
theorem getR_putR {q : Req} {r : Rep} (h : chkR q r = 0) (hset : ∀ x ∈ r.set, (Lit.int .u16 x).wf = true) (hfs : ∀ xs ∈ r.fs, ∀ x ∈ xs, (Lit.int .u16 x).wf = true) : getRE q (putR q r) = 0 ∧ getR q (putR q r) = r ∧ 2 ≤ (putR q r).length ∧ (putR q r).length ≤ 253 := by
  have hq := chkR_q h
  by_cases hx : r.x = 0
  · obtain ⟨f1, f2, f3, f4⟩ := formR_size h hx
    obtain ⟨g1, g2⟩ := rd_formR h hx hset hfs
    have hP : putR q r = formR q r := by unfold putR; rw [if_neg (by rw [h]; simp), if_neg (by simp [hx])]
    rw [hP]
    have hE : getRE q (formR q r) = 0 := by
      unfold getRE
      rw [if_neg (by rw [hq]; simp), if_neg (by omega), if_neg (by omega), if_pos f2, if_neg (by omega), if_neg (by omega), if_pos g1]
    refine ⟨hE, ?_, by omega, by omega⟩
    unfold getR
    rw [if_neg (by rw [hE]; simp), if_neg (by omega), g2]
  · obtain ⟨_, e1, e2, e3, e4⟩ := chkR_exc h hx
    have hP : putR q r = [q.c + 128, r.x] := by unfold putR; rw [if_neg (by rw [h]; simp), if_pos hx]
    rw [hP]
    have hE : getRE q [q.c + 128, r.x] = 0 := by
      unfold getRE
      rw [if_neg (by rw [hq]; simp), if_neg (by simp), if_pos (show nth [q.c + 128, r.x] 0 = q.c + 128 from rfl), if_neg (by simp), if_neg (by simp), if_pos (show 1 ≤ nth [q.c + 128, r.x] 1 ∧ nth [q.c + 128, r.x] 1 ≤ 127 from e1)]
    refine ⟨hE, ?_, by simp, by simp⟩
    unfold getR
    rw [if_neg (by rw [hE]; simp), if_pos (show nth [q.c + 128, r.x] 0 = q.c + 128 from rfl)]
    obtain ⟨x, on, set, fs⟩ := r
    simp only at e2 e3 e4
    subst e2 e3 e4
    rfl
/-- The code of a right answer's bytes says how many there are. -/
theorem putR_head {q : Req} {r : Rep} (h : chkR q r = 0) : (nth (putR q r) 0 = q.c + 128 ∧ (putR q r).length = 2) ∨ (nth (putR q r) 0 = q.c ∧ (putR q r).length = sizeR q) := by
  by_cases hx : r.x = 0
  · obtain ⟨f1, f2, _⟩ := formR_size h hx
    have hP : putR q r = formR q r := by unfold putR; rw [if_neg (by rw [h]; simp), if_neg (by simp [hx])]
    rw [hP]; exact .inr ⟨f2, f1⟩
  · have hP : putR q r = [q.c + 128, r.x] := by unfold putR; rw [if_neg (by rw [h]; simp), if_pos hx]
    rw [hP]; exact .inl ⟨rfl, rfl⟩
theorem getRE_take {q : Req} {r : Rep} (h : chkR q r = 0) (k : Nat) (hk : k < (putR q r).length) : getRE q ((putR q r).take k) = 1 := by
  have hq := chkR_q h
  have hl : ((putR q r).take k).length = k := by rw [List.length_take]; omega
  unfold getRE
  rw [if_neg (by rw [hq]; simp), hl]
  by_cases k0 : k = 0
  · rw [if_pos k0]
  · rw [if_neg k0, nth_pre _ _ _ (by omega)]
    rcases putR_head h with ⟨e1, e2⟩ | ⟨e1, e2⟩
    · rw [if_pos e1, if_pos (by omega)]
    · rw [if_neg (by omega), if_pos e1, if_pos (by omega)]
theorem getRE_more {q : Req} {r : Rep} (h : chkR q r = 0) (hp : 2 ≤ (putR q r).length) (x : Int) : getRE q (putR q r ++ [x]) = 2 := by
  have hq := chkR_q h
  have hl : (putR q r ++ [x]).length = (putR q r).length + 1 := by simp
  unfold getRE
  rw [if_neg (by rw [hq]; simp), hl, if_neg (by omega), nth_left _ _ _ (by omega)]
  rcases putR_head h with ⟨e1, e2⟩ | ⟨e1, e2⟩
  · rw [if_pos e1, if_neg (by omega), if_pos (by omega)]
  · rw [if_neg (by omega), if_pos e1, if_neg (by omega), if_pos (by omega)]

theorem zeroR_lists : (Rep.zero).on = [] ∧ (Rep.zero).set = [] ∧ (Rep.zero).fs = [] ∧ (Rep.zero).x = 0 := ⟨rfl, rfl, rfl, rfl⟩
/-- What bytes of the right size say may be an answer. -/
theorem chkR_rdR {q : Req} {ys : List Int} (hq : chkQ q = 0) (h3 : q.fl.length % 3 = 0) (hl : ys.length = sizeR q) : chkR q (rdR q ys) = 0 := by
  unfold chkR rdR manyB
  rw [if_neg (by rw [hq]; simp)]
  unfold sizeR at hl
  by_cases h1 : q.c = 1 ∨ q.c = 2
  · have := right_bits hq h1
    simp only [if_pos h1, unpk_length]
    rw [if_neg (by simp), if_neg (by simp [strayB, anyB, h1]), if_neg (by simp; omega)]
  · simp only [if_neg h1] at hl ⊢
    by_cases h2 : q.c = 3 ∨ q.c = 4
    · have := right_words hq h2
      simp only [if_pos h2, wwords_length, List.length_drop] at hl ⊢
      rw [if_neg (by simp), if_neg (by simp [strayB, anyB, h2]), if_neg (by simp; omega)]
    · simp only [if_neg h2] at hl ⊢
      by_cases h20 : q.c = 20
      · obtain ⟨f1, f2, f3⟩ := right_files hq h20
        simp only [if_pos h20] at hl ⊢
        rw [if_neg (by simp), if_neg (by simp [strayB, anyB, h20]), if_neg]
        rw [fitsB_yes (by rw [filesR_length]; omega) (fun i hi => ?_)]
        · simp
        · rw [filesR_length] at hi
          have := posF_lt q.fl hi
          have := f2 i hi
          rw [filesR_nth _ _ _ _ hi, fileAt_length _ _ _ (by omega), lenF]
          omega
      · simp only [if_neg h20]
        rw [if_neg (by simp [Rep.zero]), if_neg (by simp [strayB, anyB, Rep.zero]), if_neg (by simp)]
/-- What right bytes say becomes these bytes. -/
theorem formR_rdR {q : Req} {ys : List Int} (hw : ∀ x ∈ ys, (Lit.int .u8 x).wf = true) (hq : chkQ q = 0) (hl : ys.length = sizeR q) (hc : nth ys 0 = q.c) (hok : rdOkR q ys = true) : formR q (rdR q ys) = ys := by
  unfold rdOkR at hok
  unfold formR rdR
  unfold sizeR at hl
  by_cases h1 : q.c = 1 ∨ q.c = 2
  · have := right_bits hq h1
    simp only [if_pos h1, unpk_length] at hl hok ⊢
    rw [Bool.and_eq_true, decide_eq_true_eq] at hok
    have hd := drop_two (ys := ys) (p := 0) (by omega)
    rw [List.drop_zero, hc, hok.1] at hd
    rw [pk_unpk (ys.drop 2) _ (fun x hx => hw x (List.mem_of_mem_drop hx)) (by rw [List.length_drop]; omega) (by rw [← spareB_iff]; simpa using hok.2)]
    exact hd.symm
  · simp only [if_neg h1] at hl hok ⊢
    by_cases h2 : q.c = 3 ∨ q.c = 4
    · have := right_words hq h2
      simp only [if_pos h2, wwords_length] at hl hok ⊢
      have hok := of_decide_eq_true hok
      have hd := drop_two (ys := ys) (p := 0) (by omega)
      rw [List.drop_zero, hc, hok] at hd
      rw [wbytes_wwords _ (fun x hx => hw x (List.mem_of_mem_drop hx)) (by rw [List.length_drop]; omega), List.length_drop, show 2 * (((ys.length - 2) / 2 : Nat) : Int) = ((2 * q.n.toNat : Nat) : Int) by omega]
      exact hd.symm
    · simp only [if_neg h2] at hl hok ⊢
      by_cases h20 : q.c = 20
      · obtain ⟨f1, f2, f3⟩ := right_files hq h20
        simp only [if_pos h20, filesR_length] at hl hok ⊢
        rw [Bool.and_eq_true, decide_eq_true_eq] at hok
        have h2' := posF_two q.fl (q.fl.length / 3)
        have hd := drop_two (ys := ys) (p := 0) (by omega)
        rw [List.drop_zero, hc, hok.1, h20] at hd
        rw [fbytes_filesR q.fl ys hw _ _ (Nat.le_refl _) hok.2 (by omega), ← hl, List.take_of_length_le (by rw [List.length_drop]; omega), List.length_drop]
        exact hd.symm
      · simp only [if_neg h20] at hok ⊢
        exact (of_decide_eq_true hok).symm
theorem getRE_zero {q : Req} {ys : List Int} (h : getRE q ys = 0) : chkQ q = 0 ∧ ys.length ≠ 0 ∧ ((nth ys 0 = q.c + 128 ∧ ys.length = 2 ∧ 1 ≤ nth ys 1 ∧ nth ys 1 ≤ 127) ∨ (nth ys 0 = q.c ∧ ys.length = sizeR q ∧ rdOkR q ys = true)) := by
  unfold getRE at h
  split at h
  · rename_i h1; exact absurd h h1
  · rename_i h1
    split at h
    · cases h
    · rename_i h2
      refine ⟨Decidable.not_not.1 h1, h2, ?_⟩
      split at h
      · rename_i h3
        split at h
        · cases h
        · split at h
          · cases h
          · split at h
            · rename_i h6; exact .inl ⟨h3, by omega, h6⟩
            · cases h
      · split at h
        · rename_i h4
          split at h
          · cases h
          · split at h
            · cases h
            · split at h
              · rename_i h7; exact .inr ⟨h4, by omega, h7⟩
              · cases h
        · cases h
/-- What is read of any bytes may be an answer, and becomes these bytes. -/
theorem putR_getR {q : Req} {ys : List Int} (hw : ∀ x ∈ ys, (Lit.int .u8 x).wf = true) (h3 : q.fl.length % 3 = 0) (h : getRE q ys = 0) : chkR q (getR q ys) = 0 ∧ putR q (getR q ys) = ys := by
  obtain ⟨hq, h0, hh⟩ := getRE_zero h
  unfold getR
  rw [if_neg (by rw [h]; simp)]
  rcases hh with ⟨e1, e2, e3, e4⟩ | ⟨e1, e2, e3⟩
  · rw [if_pos e1]
    have hk : chkR q ⟨nth ys 1, [], [], []⟩ = 0 := by
      unfold chkR
      rw [if_neg (by rw [hq]; simp), if_pos (show nth ys 1 ≠ 0 by omega), if_pos ⟨e3, e4⟩]
      rfl
    refine ⟨hk, ?_⟩
    unfold putR
    rw [if_neg (by rw [hk]; simp), if_pos (show nth ys 1 ≠ 0 by omega)]
    have hd := drop_two (ys := ys) (p := 0) (by omega)
    rw [List.drop_zero, e1, List.drop_eq_nil_of_le (by omega)] at hd
    exact hd.symm
  · rw [if_neg (by omega)]
    have hk := chkR_rdR hq h3 e2
    have hx : (rdR q ys).x = 0 := by
      unfold rdR
      repeat (first | rfl | split)
    refine ⟨hk, ?_⟩
    unfold putR
    rw [if_neg (by rw [hk]; simp), if_neg (by rw [hx]; simp)]
    exact formR_rdR hw hq e2 e1 e3
/-- Bytes of the right code and size are right just if what they say becomes them. -/
theorem rdOkR_iff {q : Req} {ys : List Int} (hw : ∀ x ∈ ys, (Lit.int .u8 x).wf = true) (hq : chkQ q = 0) (h3 : q.fl.length % 3 = 0) (hl : ys.length = sizeR q) (hc : nth ys 0 = q.c) : putR q (rdR q ys) = ys ↔ rdOkR q ys = true := by
  have hk := chkR_rdR hq h3 hl
  have hx : (rdR q ys).x = 0 := by
    unfold rdR
    repeat (first | rfl | split)
  have hP : putR q (rdR q ys) = formR q (rdR q ys) := by unfold putR; rw [if_neg (by rw [hk]; simp), if_neg (by rw [hx]; simp)]
  rw [hP]
  refine ⟨fun h => ?_, fun h => formR_rdR hw hq hl hc h⟩
  have hset : ∀ x ∈ (rdR q ys).set, (Lit.int .u16 x).wf = true := by
    unfold rdR
    intro x hx
    split at hx
    · cases hx
    · split at hx
      · exact wwords_wf _ (fun y hy => hw y (List.mem_of_mem_drop hy)) x hx
      · split at hx <;> cases hx
  have hfs : ∀ xs ∈ (rdR q ys).fs, ∀ x ∈ xs, (Lit.int .u16 x).wf = true := by
    unfold rdR
    intro xs hxs
    split at hxs
    · cases hxs
    · split at hxs
      · cases hxs
      · split at hxs
        · simp only [filesR, List.mem_map] at hxs
          obtain ⟨i, _, rfl⟩ := hxs
          exact wwords_wf _ (fun y hy => hw y (List.mem_of_mem_drop (List.mem_of_mem_take hy)))
        · cases hxs
  have := (rd_formR hk hx hset hfs).1
  rw [h] at this
  exact this
theorem rdR_wf {q : Req} {ys : List Int} (hw : ∀ x ∈ ys, (Lit.int .u8 x).wf = true) : (∀ x ∈ (rdR q ys).set, (Lit.int .u16 x).wf = true) ∧ ∀ xs ∈ (rdR q ys).fs, ∀ x ∈ xs, (Lit.int .u16 x).wf = true := by
  refine ⟨?_, ?_⟩
  · unfold rdR
    intro x hx
    split at hx
    · cases hx
    · split at hx
      · exact wwords_wf _ (fun y hy => hw y (List.mem_of_mem_drop hy)) x hx
      · split at hx <;> cases hx
  · unfold rdR
    intro xs hxs
    split at hxs
    · cases hxs
    · split at hxs
      · cases hxs
      · split at hxs
        · simp only [filesR, List.mem_map] at hxs
          obtain ⟨i, _, rfl⟩ := hxs
          exact wwords_wf _ (fun y hy => hw y (List.mem_of_mem_drop (List.mem_of_mem_take hy)))
        · cases hxs
end Go.Proofs.YtcmbdhmhkfhjfaaGreat
namespace Go.Proofs.YtcmbdhmhkfhjfaaGreat
open Go.RowKit
set_option linter.unusedVariables false

def clB (c : Int) : Bool := decide (c = 1 ∨ c = 2)
def clW (c : Int) : Bool := decide (c = 3 ∨ c = 4)
def clF (c : Int) : Bool := decide (c = 20)
theorem refKindBits_any (c a n : Int) (Ao As Ap : Option Addr) (lo co ls cs lp cp : Nat) (w : World) :
    Calls Tryz.prog 58 #[.agg #[.int .i64 c, .int .i64 a, .int .i64 n, .slice Ao lo co, .slice As ls cs, .slice Ap lp cp]] w fun e w' => e = .returned (.bool (clB c)) ∧ Below w.heap.size w w' := by
  have h : clB c = (c == 1 || c == 2) := by by_cases h1 : c = 1 <;> by_cases h2 : c = 2 <;> simp [clB, h1, h2]
  rw [h]
  clear h
  go_enter Tryz.func58, Tryz.ntmps58
  go_wp2
  all_goals (go_ret; refine ⟨?_, bel_alloc _ _⟩; first | rfl | simp [*])
theorem refWords_kind (c a n : Int) (Ao As Ap : Option Addr) (lo co ls cs lp cp : Nat) (w : World) :
    Calls Tryz.prog 59 #[.agg #[.int .i64 c, .int .i64 a, .int .i64 n, .slice Ao lo co, .slice As ls cs, .slice Ap lp cp]] w fun e w' => e = .returned (.bool (clW c)) ∧ Below w.heap.size w w' := by
  have h : clW c = (c == 3 || c == 4) := by by_cases h1 : c = 3 <;> by_cases h2 : c = 4 <;> simp [clW, h1, h2]
  rw [h]
  clear h
  go_enter Tryz.func59, Tryz.ntmps59
  go_wp2
  all_goals (go_ret; refine ⟨?_, bel_alloc _ _⟩; first | rfl | simp [*])
theorem refFiles_kind (c a n : Int) (Ao As Ap : Option Addr) (lo co ls cs lp cp : Nat) (w : World) :
    Calls Tryz.prog 60 #[.agg #[.int .i64 c, .int .i64 a, .int .i64 n, .slice Ao lo co, .slice As ls cs, .slice Ap lp cp]] w fun e w' => e = .returned (.bool (clF c)) ∧ Below w.heap.size w w' := by
  have h : clF c = (c == 20) := by by_cases h1 : c = 20 <;> simp [clF, h1]
  rw [h]
  clear h
  go_enter Tryz.func60, Tryz.ntmps60
  go_wp2
  all_goals (go_ret; refine ⟨?_, bel_alloc _ _⟩; first | rfl | simp [*])

set_option maxHeartbeats 4000000 in
set_option maxRecDepth 100000 in
theorem refRp_bad (q : Req) (r : Rep) (Ao As Ap Bo Bs Bf : Option Addr) (lo ls lp co cs cp mo ms mf eo es ef : Nat) (w : World) (h : Asked w w.heap.size q Ao As Ap lo ls lp) (hr : Repd w w.heap.size r Bo Bs Bf mo ms mf) (hb : lp ≤ 100000) (hk : chkQ q ≠ 0) :
    Calls Tryz.prog 30 #[.agg #[.int .i64 q.c, .int .i64 q.a, .int .i64 q.n, .slice Ao lo co, .slice As ls cs, .slice Ap lp cp], .agg #[.int .i64 r.x, .slice Bo mo eo, .slice Bs ms es, .slice Bf mf ef]] w fun e w' => e = .returned (.int .i64 (chkR q r)) ∧ Below w.heap.size w w' := by
  have tb := TB.new2 w #[.int .i64 q.c, .int .i64 q.a, .int .i64 q.n, .slice Ao lo co, .slice As ls cs, .slice Ap lp cp] #[.int .i64 r.x, .slice Bo mo eo, .slice Bs ms es, .slice Bf mf ef] 68 30
  have hsz : w.heap.size ≤ ((w.alloc (.cells #[.int .i64 q.c, .int .i64 q.a, .int .i64 q.n, .slice Ao lo co, .slice As ls cs, .slice Ap lp cp] 68)).alloc (.cells #[.int .i64 r.x, .slice Bo mo eo, .slice Bs ms es, .slice Bf mf ef] 30)).heap.size := tb.bel.size
  have H0 := Lib.hid h
  have HR0 := Lib.hid hr
  have H := Lib.hid ((h.below tb.bel).more hsz)
  obtain ⟨E, hE⟩ : ∃ E, Hid (chkR q r = E) := ⟨_, Lib.hid rfl⟩
  rw [hE.out]
  have HMO := Lib.hid hr.mo
  have HMS := Lib.hid hr.ms
  have HMF := Lib.hid hr.mf
  obtain ⟨k, hk2⟩ : ∃ k, Hid (chkQ q = k) := ⟨_, Lib.hid rfl⟩
  have HC := Lib.hid (refCheck_any q Ao As Ap lo ls lp co cs cp _ H.out)
  rw [chkQ_of H.out, hk2.out] at HC
  have HE : Hid (E = k) := Lib.hid (by rw [← hE.out]; unfold chkR; rw [if_pos hk]; exact hk2.out)
  rw [hk2.out] at hk
  have u1 : (k != 0) = true := by simpa using hk
  have u2 : (k == 0) = false := beq_false_of_ne hk
  clear h hr hk
  go_enter Tryz.func30, Tryz.ntmps30
  go_wp2_with fail
  refine HC.out.mono ?_
  rintro e w1 ⟨rfl, b1⟩
  have tb := tb.below b1
  clear b1
  obtain ⟨d0, d1, d2, d3, d4⟩ := tb.c4; obtain ⟨r0, r1, r2, r3, r4, r5, r6⟩ := tb.r6
  go_wp2
  go_ret
  exact ⟨by rw [HE.out]; rfl, tb.bel⟩

set_option maxHeartbeats 4000000 in
set_option maxRecDepth 100000 in
theorem refRp_exc (q : Req) (r : Rep) (Ao As Ap Bo Bs Bf : Option Addr) (lo ls lp co cs cp mo ms mf eo es ef : Nat) (w : World) (h : Asked w w.heap.size q Ao As Ap lo ls lp) (hr : Repd w w.heap.size r Bo Bs Bf mo ms mf) (hb : lp ≤ 100000) (hk : chkQ q = 0) (hx : r.x ≠ 0) :
    Calls Tryz.prog 30 #[.agg #[.int .i64 q.c, .int .i64 q.a, .int .i64 q.n, .slice Ao lo co, .slice As ls cs, .slice Ap lp cp], .agg #[.int .i64 r.x, .slice Bo mo eo, .slice Bs ms es, .slice Bf mf ef]] w fun e w' => e = .returned (.int .i64 (chkR q r)) ∧ Below w.heap.size w w' := by
  have tb := TB.new2 w #[.int .i64 q.c, .int .i64 q.a, .int .i64 q.n, .slice Ao lo co, .slice As ls cs, .slice Ap lp cp] #[.int .i64 r.x, .slice Bo mo eo, .slice Bs ms es, .slice Bf mf ef] 68 30
  have hsz : w.heap.size ≤ ((w.alloc (.cells #[.int .i64 q.c, .int .i64 q.a, .int .i64 q.n, .slice Ao lo co, .slice As ls cs, .slice Ap lp cp] 68)).alloc (.cells #[.int .i64 r.x, .slice Bo mo eo, .slice Bs ms es, .slice Bf mf ef] 30)).heap.size := tb.bel.size
  have H0 := Lib.hid h
  have HR0 := Lib.hid hr
  have H := Lib.hid ((h.below tb.bel).more hsz)
  obtain ⟨E, hE⟩ : ∃ E, Hid (chkR q r = E) := ⟨_, Lib.hid rfl⟩
  rw [hE.out]
  have HMO := Lib.hid hr.mo
  have HMS := Lib.hid hr.ms
  have HMF := Lib.hid hr.mf
  have HC := Lib.hid (refCheck_any q Ao As Ap lo ls lp co cs cp _ H.out)
  rw [chkQ_of H.out, hk] at HC
  have HE : Hid ((if 1 ≤ r.x ∧ r.x ≤ 127 then (if anyB mo ms mf = true then 23 else 0) else 3) = E) := Lib.hid (by
    rw [← hE.out]; unfold chkR; rw [if_neg (show ¬ chkQ q ≠ 0 by rw [hk]; simp), if_pos hx, HMO.out, HMS.out, HMF.out])
  have u1 : (r.x != 0) = true := by simpa using hx
  have u2 : (r.x == 0) = false := beq_false_of_ne hx
  clear h hr hk hx
  by_cases h1 : r.x < 1
  · have h1' : Hid (E = 3) := Lib.hid (by rw [← HE.out, if_neg (by omega)])
    go_enter Tryz.func30, Tryz.ntmps30
    go_wp2_with fail
    refine HC.out.mono ?_
    rintro e w1 ⟨rfl, b1⟩
    have tb := tb.below b1
    clear b1
    obtain ⟨d0, d1, d2, d3, d4⟩ := tb.c4; obtain ⟨r0, r1, r2, r3, r4, r5, r6⟩ := tb.r6
    go_wp2
    go_ret
    exact ⟨by rw [h1'.out]; rfl, tb.bel⟩
  by_cases h2 : 127 < r.x
  · have h1' : Hid (E = 3) := Lib.hid (by rw [← HE.out, if_neg (by omega)])
    go_enter Tryz.func30, Tryz.ntmps30
    go_wp2_with fail
    refine HC.out.mono ?_
    rintro e w1 ⟨rfl, b1⟩
    have tb := tb.below b1
    clear b1
    obtain ⟨d0, d1, d2, d3, d4⟩ := tb.c4; obtain ⟨r0, r1, r2, r3, r4, r5, r6⟩ := tb.r6
    go_wp2
    go_ret
    exact ⟨by rw [h1'.out]; rfl, tb.bel⟩
  have HE2 : Hid ((if anyB mo ms mf = true then 23 else 0) = E) := Lib.hid (by rw [← HE.out, if_pos (show 1 ≤ r.x ∧ r.x ≤ 127 from ⟨by omega, by omega⟩)])
  clear HE hE
  by_cases g1 : 0 < mo
  · have g1' : (0 : Int) < (mo : Int) := by omega
    have hl : Hid (E = 23) := Lib.hid (by rw [← HE2.out]; simp [anyB]; omega)
    clear HE2
    go_enter Tryz.func30, Tryz.ntmps30
    go_wp2_with fail
    refine HC.out.mono ?_
    rintro e w1 ⟨rfl, b1⟩
    have tb := tb.below b1
    clear b1
    obtain ⟨d0, d1, d2, d3, d4⟩ := tb.c4; obtain ⟨r0, r1, r2, r3, r4, r5, r6⟩ := tb.r6
    go_wp2
    go_ret
    exact ⟨by rw [hl.out]; rfl, tb.bel⟩
  have g1' : ¬ (0 : Int) < (mo : Int) := by omega
  by_cases g2 : 0 < ms
  · have g2' : (0 : Int) < (ms : Int) := by omega
    have hl : Hid (E = 23) := Lib.hid (by rw [← HE2.out]; simp [anyB]; omega)
    clear HE2
    go_enter Tryz.func30, Tryz.ntmps30
    go_wp2_with fail
    refine HC.out.mono ?_
    rintro e w1 ⟨rfl, b1⟩
    have tb := tb.below b1
    clear b1
    obtain ⟨d0, d1, d2, d3, d4⟩ := tb.c4; obtain ⟨r0, r1, r2, r3, r4, r5, r6⟩ := tb.r6
    go_wp2
    go_ret
    exact ⟨by rw [hl.out]; rfl, tb.bel⟩
  have g2' : ¬ (0 : Int) < (ms : Int) := by omega
  by_cases g3 : 0 < mf
  · have g3' : (0 : Int) < (mf : Int) := by omega
    have hl : Hid (E = 23) := Lib.hid (by rw [← HE2.out]; simp [anyB]; omega)
    clear HE2
    go_enter Tryz.func30, Tryz.ntmps30
    go_wp2_with fail
    refine HC.out.mono ?_
    rintro e w1 ⟨rfl, b1⟩
    have tb := tb.below b1
    clear b1
    obtain ⟨d0, d1, d2, d3, d4⟩ := tb.c4; obtain ⟨r0, r1, r2, r3, r4, r5, r6⟩ := tb.r6
    go_wp2
    go_ret
    exact ⟨by rw [hl.out]; rfl, tb.bel⟩
  · have g3' : ¬ (0 : Int) < (mf : Int) := by omega
    have hl : Hid (E = 0) := Lib.hid (by rw [← HE2.out]; simp [anyB]; omega)
    clear HE2
    go_enter Tryz.func30, Tryz.ntmps30
    go_wp2_with fail
    refine HC.out.mono ?_
    rintro e w1 ⟨rfl, b1⟩
    have tb := tb.below b1
    clear b1
    obtain ⟨d0, d1, d2, d3, d4⟩ := tb.c4; obtain ⟨r0, r1, r2, r3, r4, r5, r6⟩ := tb.r6
    go_wp2
    go_ret
    exact ⟨by rw [hl.out]; rfl, tb.bel⟩
end Go.Proofs.YtcmbdhmhkfhjfaaGreat
namespace Go.Proofs.YtcmbdhmhkfhjfaaGreat
open Go.RowKit
set_option linter.unusedVariables false
/-- A list with each byte written over, up to a place. -/
def spoil8 (k : Nat) (l : List Int) : List Int := (l.take k).map (bits .xor .u8 · 90) ++ l.drop k
theorem spoil8_length (k : Nat) (l : List Int) : (spoil8 k l).length = l.length := by simp [spoil8]; omega
theorem xor90_wf (x : Int) (h : (Lit.int .u8 x).wf = true) : (Lit.int .u8 (bits .xor .u8 x 90)).wf = true := by
  have hx := wf_u8 h
  obtain ⟨n, rfl⟩ := Int.eq_ofNat_of_zero_le hx.1
  have hn : n < 256 := by omega
  have := u8_xor_nat n 90 hn (by omega)
  show (Lit.int .u8 (bits .xor .u8 (n : Int) ((90 : Nat) : Int))).wf = true
  rw [this]
  have hlt : n ^^^ 90 < 256 := Nat.xor_lt_two_pow (n := 8) hn (by omega)
  simp [Lit.wf, IntKind.min, IntKind.max, IntKind.signed, IntKind.bits]; omega
theorem spoil8_wf (k : Nat) (l : List Int) (h : ∀ x ∈ l, (Lit.int .u8 x).wf = true) : ∀ x ∈ spoil8 k l, (Lit.int .u8 x).wf = true := by
  intro x hx
  rcases List.mem_append.1 hx with hx | hx
  · obtain ⟨y, hy, rfl⟩ := List.mem_map.1 hx
    exact xor90_wf y (h y (List.mem_of_mem_take hy))
  · exact h x (List.mem_of_mem_drop hx)
theorem spoil8_at (k : Nat) (l : List Int) (hk : k < l.length) : nth (spoil8 k l) k = nth l k := by
  have hl : ((l.take k).map (bits .xor .u8 · 90)).length = k := by simp; omega
  have := nth_right ((l.take k).map (bits .xor .u8 · 90)) (l.drop k) 0
  rw [hl, Nat.add_zero] at this
  rw [spoil8, this, nth, nth, List.getD_eq_getElem?_getD, List.getD_eq_getElem?_getD, List.getElem?_drop, Nat.add_zero]
theorem spoil8_set (k : Nat) (l : List Int) (hk : k < l.length) : (spoil8 k l).set k (bits .xor .u8 (nth l k) 90) = spoil8 (k + 1) l := by
  have hl : ((l.take k).map (bits .xor .u8 · 90)).length = k := by simp; omega
  have hd := List.drop_eq_getElem_cons hk
  rw [spoil8, List.set_append_right _ _ (by omega), hl, Nat.sub_self, spoil8, take_step l k hk]
  simp
  rw [hd]
  rfl
theorem spoil8_zero (l : List Int) : spoil8 0 l = l := by simp [spoil8]

end Go.Proofs.YtcmbdhmhkfhjfaaGreat
namespace Go.Proofs.YtcmbdhmhkfhjfaaGreat
open Go.RowKit
set_option linter.unusedVariables false
/-- Rows that lie in blocks of their own, each known whole (or nil), their slices in the array of block gl. -/
structure Parts (w : World) (B gl m : Nat) (A : Nat → Option Addr) (n c : Nat → Nat) (l r : Nat → List Int) : Prop where
  at_ : ∀ k, k < m → w.cell? ⟨gl, k, none⟩ = some (.slice (A k) (n k) (c k))
  size : ∀ k, k < m → n k ≤ c k ∧ c k ≤ 140737488355328 ∧ (l k).length = c k
  wf : ∀ k, k < m → ∀ x ∈ l k, (Lit.int .u8 x).wf = true
  lies : ∀ k, k < m → (A k = none ∧ n k = 0 ∧ c k = 0) ∨ ∃ g, A k = some ⟨g, 0, none⟩ ∧ B ≤ g ∧ g ≠ gl ∧ w.heap[g]? = some (.cells (blk .u8 (l k ++ r k)) 5 (0, 0))
  apart : ∀ i k, i < m → k < m → i ≠ k → ∀ g, A i = some ⟨g, 0, none⟩ → A k ≠ some ⟨g, 0, none⟩
  gl_lt : gl < w.heap.size

theorem Parts.row {w : World} {B gl m : Nat} {A : Nat → Option Addr} {n c : Nat → Nat} {l r : Nat → List Int} (h : Parts w B gl m A n c l r) {k : Nat} (hk : k < m) :
    Row .u8 w w.heap.size (A k) ((l k).take (n k)) ∧ ((l k).take (n k)).length = n k := by
  have hs := h.size k hk
  refine ⟨?_, by simp; omega⟩
  rcases h.lies k hk with ⟨ha, hn, hc⟩ | ⟨g, ha, _, _, hg⟩
  · rw [hn, List.take_zero]; exact Row.nil _ _ _ _
  · rw [ha]
    exact (Row.of_block hg _ (fun x hx => h.wf k hk x (List.mem_of_mem_take hx)) ((List.take_prefix _ _).trans (List.prefix_append _ _))).more (block_lt hg)
/-- A step that leaves all old blocks leaves the parts. -/
theorem Parts.below {w w' : World} {B gl m : Nat} {A : Nat → Option Addr} {n c : Nat → Nat} {l r : Nat → List Int} (h : Parts w B gl m A n c l r) (hb : Below w.heap.size w w') : Parts w' B gl m A n c l r where
  at_ := fun k hk => (hb.cell (p := ⟨gl, k, none⟩) h.gl_lt).trans (h.at_ k hk)
  size := h.size
  wf := h.wf
  lies := fun k hk => by
    rcases h.lies k hk with h0 | ⟨g, ha, hB, hne, hg⟩
    · exact .inl h0
    · exact .inr ⟨g, ha, hB, hne, (hb.block g (block_lt hg)).trans hg⟩
  apart := h.apart
  gl_lt := Nat.lt_of_lt_of_le h.gl_lt hb.size
/-- One part is written over. -/
theorem Parts.spoil {w w' : World} {B gl m : Nat} {A : Nat → Option Addr} {n c : Nat → Nat} {l r : Nat → List Int} (h : Parts w B gl m A n c l r) {i g : Nat} (hi : i < m) (ha : A i = some ⟨g, 0, none⟩)
    (hg : w'.heap[g]? = some (.cells (blk .u8 (spoil8 (c i) (l i) ++ r i)) 5 (0, 0))) (hgr : w.grownBy w' (some g)) : Parts w' B gl m A n c (fun k => if k = i then spoil8 (c i) (l i) else l k) r where
  at_ := fun k hk => by
    rcases h.lies i hi with ⟨h0, _⟩ | ⟨g', ha', _, hne, _⟩
    · rw [ha] at h0; cases h0
    · rw [ha] at ha'
      injection ha' with ha'
      injection ha' with ha'
      subst ha'
      exact (World.cell?_of_block (hgr.block gl h.gl_lt (fun e => hne (by injection e with e; exact e.symm)))).trans (h.at_ k hk)
  size := fun k hk => by
    have := h.size k hk
    refine ⟨this.1, this.2.1, ?_⟩
    split
    · rename_i e; subst e; rw [spoil8_length]; exact this.2.2
    · exact this.2.2
  wf := fun k hk => by
    show ∀ x ∈ (if k = i then spoil8 (c i) (l i) else l k), _
    split
    · exact spoil8_wf _ _ (h.wf i hi)
    · exact h.wf k hk
  lies := fun k hk => by
    by_cases e : k = i
    · subst e
      rcases h.lies k hi with ⟨h0, _⟩ | ⟨g', ha', hB, hne, _⟩
      · rw [ha] at h0; cases h0
      · rw [ha] at ha'
        injection ha' with ha'
        injection ha' with ha'
        subst ha'
        exact .inr ⟨g, ha, hB, hne, by rw [if_pos rfl]; exact hg⟩
    · rcases h.lies k hk with h0 | ⟨g', ha', hB, hne, hg'⟩
      · exact .inl h0
      · refine .inr ⟨g', ha', hB, hne, ?_⟩
        rw [if_neg e, hgr.block g' (block_lt hg') (fun e' => ?_)]
        · exact hg'
        · injection e' with e'
          subst e'
          exact h.apart k i hk hi e _ ha' ha
  apart := h.apart
  gl_lt := Nat.lt_of_lt_of_le h.gl_lt hgr.size

/-- A slice that is handed to ApartBytes: nil, or the beginning of a block that is known whole. -/
structure Ent where
  a : Option Nat
  n : Nat
  c : Nat
  l : List Int
  r : List Int
def Ent.none_ : Ent := ⟨none, 0, 0, [], []⟩
def Ent.adr (e : Ent) : Option Addr := e.a.map fun g => ⟨g, 0, none⟩
def Ent.val (e : Ent) : Value := .slice e.adr e.n e.c
structure Ent.Ok (w : World) (B : Nat) (e : Ent) : Prop where
  size : e.n ≤ e.c ∧ e.c ≤ 140737488355328 ∧ e.l.length = e.c
  wf : ∀ x ∈ e.l, (Lit.int .u8 x).wf = true
  lies : (e.a = none ∧ e.n = 0 ∧ e.c = 0) ∨ ∃ g, e.a = some g ∧ B ≤ g ∧ w.heap[g]? = some (.cells (blk .u8 (e.l ++ e.r)) 5 (0, 0))
def Ent.Far (e e' : Ent) : Prop := ∀ g, e.a = some g → e'.a ≠ some g
theorem Ent.adr_some {e : Ent} {g : Nat} (h : e.adr = some ⟨g, 0, none⟩) : e.a = some g := by
  unfold Ent.adr at h
  cases ha : e.a with
  | none => rw [ha] at h; cases h
  | some q => rw [ha] at h; simp at h; rw [h]

theorem parts_of_list (w : World) (B : Nat) (L : List Ent) (t : TypeId) (hok : ∀ e ∈ L, e.Ok w B) (hfar : L.Pairwise Ent.Far) :
    Parts (w.alloc (.cells (L.map Ent.val).toArray t)) B w.heap.size L.length (fun k => (L.getD k Ent.none_).adr) (fun k => (L.getD k Ent.none_).n) (fun k => (L.getD k Ent.none_).c) (fun k => (L.getD k Ent.none_).l) (fun k => (L.getD k Ent.none_).r) where
  at_ := fun k hk => by
    rw [World.cell?_alloc_at _ _ _ _ rfl]
    simp [List.getElem?_eq_getElem hk, List.getD_eq_getElem?_getD, Ent.val]
  size := fun k hk => by
    simp only [List.getD_eq_getElem?_getD, List.getElem?_eq_getElem hk, Option.getD_some]
    exact (hok _ (List.getElem_mem hk)).size
  wf := fun k hk => by
    simp only [List.getD_eq_getElem?_getD, List.getElem?_eq_getElem hk, Option.getD_some]
    exact (hok _ (List.getElem_mem hk)).wf
  lies := fun k hk => by
    simp only [List.getD_eq_getElem?_getD, List.getElem?_eq_getElem hk, Option.getD_some]
    rcases (hok _ (List.getElem_mem hk)).lies with ⟨h1, h2⟩ | ⟨g, h1, h2, h3⟩
    · exact .inl ⟨by rw [Ent.adr, h1]; rfl, h2⟩
    · have := block_lt h3
      exact .inr ⟨g, by rw [Ent.adr, h1]; rfl, h2, by omega, (Below.heap_alloc w _ g this).trans h3⟩
  apart := fun i k hi hk hne g h1 h2 => by
    simp only [List.getD_eq_getElem?_getD, List.getElem?_eq_getElem hi, List.getElem?_eq_getElem hk, Option.getD_some] at h1 h2
    have h1 := Ent.adr_some h1
    have h2 := Ent.adr_some h2
    rcases Nat.lt_or_gt_of_ne hne with h | h
    · exact List.pairwise_iff_getElem.1 hfar i k hi hk h g h1 h2
    · exact List.pairwise_iff_getElem.1 hfar k i hk hi h g h2 h1
  gl_lt := by simp

end Go.Proofs.YtcmbdhmhkfhjfaaGreat
namespace Go.Proofs.YtcmbdhmhkfhjfaaGreat
open Go.RowKit
set_option linter.unusedVariables false
theorem pow_256 (n : Nat) : (2 : Nat) ^ (8 * n) = 256 ^ n := by rw [Nat.pow_mul]
theorem div_zero_iff (v n : Nat) : v / 256 ^ n = 0 ↔ v < 256 ^ n := by
  rw [Nat.div_eq_zero_iff]
  have : (256 : Nat) ^ n ≠ 0 := Nat.ne_of_gt (Nat.pow_pos (by omega))
  omega
end Go.Proofs.YtcmbdhmhkfhjfaaGreat
namespace Go.Proofs.YtcmbdhmhkfhjfaaGreat
open Go.RowKit
set_option linter.unusedVariables false

end Go.Proofs.YtcmbdhmhkfhjfaaGreat
namespace Go.Proofs.YtcmbdhmhkfhjfaaGreat
open Go.RowKit
set_option linter.unusedVariables false
theorem be_take_step (n v k : Nat) (h : k < n) : (be n v).take (k + 1) = (be n v).take k ++ [((v / 256 ^ (n - 1 - k) % 256 : Nat) : Int)] := by
  rw [take_step _ _ (by rw [be_length]; exact h), be_nth n v k h]
end Go.Proofs.YtcmbdhmhkfhjfaaGreat
namespace Go.Proofs.YtcmbdhmhkfhjfaaGreat.L
open Go.RowKit
set_option linter.unusedVariables false
set_option linter.unusedVariables false
/-- Rows that lie in blocks of their own, each known whole (or nil), their slices in the array of block gl. -/
structure Parts (w : World) (B gl m : Nat) (A : Nat → Option Addr) (n c : Nat → Nat) (l r : Nat → List Bool) : Prop where
  at_ : ∀ k, k < m → w.cell? ⟨gl, k, none⟩ = some (.slice (A k) (n k) (c k))
  size : ∀ k, k < m → n k ≤ c k ∧ c k ≤ 140737488355328 ∧ (l k).length = c k
  wf : ∀ k, k < m → ∀ x ∈ l k, (Lit.bool x).wf = true
  lies : ∀ k, k < m → (A k = none ∧ n k = 0 ∧ c k = 0) ∨ ∃ g, A k = some ⟨g, 0, none⟩ ∧ B ≤ g ∧ g ≠ gl ∧ w.heap[g]? = some (.cells (blk () (l k ++ r k)) 4 (0, 0))
  apart : ∀ i k, i < m → k < m → i ≠ k → ∀ g, A i = some ⟨g, 0, none⟩ → A k ≠ some ⟨g, 0, none⟩
  gl_lt : gl < w.heap.size

theorem Parts.row {w : World} {B gl m : Nat} {A : Nat → Option Addr} {n c : Nat → Nat} {l r : Nat → List Bool} (h : Parts w B gl m A n c l r) {k : Nat} (hk : k < m) :
    Row () w w.heap.size (A k) ((l k).take (n k)) ∧ ((l k).take (n k)).length = n k := by
  have hs := h.size k hk
  refine ⟨?_, by simp; omega⟩
  rcases h.lies k hk with ⟨ha, hn, hc⟩ | ⟨g, ha, _, _, hg⟩
  · rw [hn, List.take_zero]; exact Row.nil _ _ _ _
  · rw [ha]
    exact (Row.of_block hg _ (fun x hx => h.wf k hk x (List.mem_of_mem_take hx)) ((List.take_prefix _ _).trans (List.prefix_append _ _))).more (block_lt hg)
/-- A step that leaves all old blocks leaves the parts. -/
theorem Parts.below {w w' : World} {B gl m : Nat} {A : Nat → Option Addr} {n c : Nat → Nat} {l r : Nat → List Bool} (h : Parts w B gl m A n c l r) (hb : Below w.heap.size w w') : Parts w' B gl m A n c l r where
  at_ := fun k hk => (hb.cell (p := ⟨gl, k, none⟩) h.gl_lt).trans (h.at_ k hk)
  size := h.size
  wf := h.wf
  lies := fun k hk => by
    rcases h.lies k hk with h0 | ⟨g, ha, hB, hne, hg⟩
    · exact .inl h0
    · exact .inr ⟨g, ha, hB, hne, (hb.block g (block_lt hg)).trans hg⟩
  apart := h.apart
  gl_lt := Nat.lt_of_lt_of_le h.gl_lt hb.size
/-- One part is written over. -/
theorem Parts.spoil {w w' : World} {B gl m : Nat} {A : Nat → Option Addr} {n c : Nat → Nat} {l r : Nat → List Bool} (h : Parts w B gl m A n c l r) {i g : Nat} (hi : i < m) (ha : A i = some ⟨g, 0, none⟩)
    (hg : w'.heap[g]? = some (.cells (blk () (spoilL (c i) (l i) ++ r i)) 4 (0, 0))) (hgr : w.grownBy w' (some g)) : Parts w' B gl m A n c (fun k => if k = i then spoilL (c i) (l i) else l k) r where
  at_ := fun k hk => by
    rcases h.lies i hi with ⟨h0, _⟩ | ⟨g', ha', _, hne, _⟩
    · rw [ha] at h0; cases h0
    · rw [ha] at ha'
      injection ha' with ha'
      injection ha' with ha'
      subst ha'
      exact (World.cell?_of_block (hgr.block gl h.gl_lt (fun e => hne (by injection e with e; exact e.symm)))).trans (h.at_ k hk)
  size := fun k hk => by
    have := h.size k hk
    refine ⟨this.1, this.2.1, ?_⟩
    split
    · rename_i e; subst e; rw [spoilL_length]; exact this.2.2
    · exact this.2.2
  wf := fun k hk => by
    show ∀ x ∈ (if k = i then spoilL (c i) (l i) else l k), _
    split
    · exact spoilL_wf _ _ (h.wf i hi)
    · exact h.wf k hk
  lies := fun k hk => by
    by_cases e : k = i
    · subst e
      rcases h.lies k hi with ⟨h0, _⟩ | ⟨g', ha', hB, hne, _⟩
      · rw [ha] at h0; cases h0
      · rw [ha] at ha'
        injection ha' with ha'
        injection ha' with ha'
        subst ha'
        exact .inr ⟨g, ha, hB, hne, by rw [if_pos rfl]; exact hg⟩
    · rcases h.lies k hk with h0 | ⟨g', ha', hB, hne, hg'⟩
      · exact .inl h0
      · refine .inr ⟨g', ha', hB, hne, ?_⟩
        rw [if_neg e, hgr.block g' (block_lt hg') (fun e' => ?_)]
        · exact hg'
        · injection e' with e'
          subst e'
          exact h.apart k i hk hi e _ ha' ha
  apart := h.apart
  gl_lt := Nat.lt_of_lt_of_le h.gl_lt hgr.size

/-- A slice that is handed to ApartBools: nil, or the beginning of a block that is known whole. -/
structure Ent where
  a : Option Nat
  n : Nat
  c : Nat
  l : List Bool
  r : List Bool
def Ent.none_ : Ent := ⟨none, 0, 0, [], []⟩
def Ent.adr (e : Ent) : Option Addr := e.a.map fun g => ⟨g, 0, none⟩
def Ent.val (e : Ent) : Value := .slice e.adr e.n e.c
structure Ent.Ok (w : World) (B : Nat) (e : Ent) : Prop where
  size : e.n ≤ e.c ∧ e.c ≤ 140737488355328 ∧ e.l.length = e.c
  wf : ∀ x ∈ e.l, (Lit.bool x).wf = true
  lies : (e.a = none ∧ e.n = 0 ∧ e.c = 0) ∨ ∃ g, e.a = some g ∧ B ≤ g ∧ w.heap[g]? = some (.cells (blk () (e.l ++ e.r)) 4 (0, 0))
def Ent.Far (e e' : Ent) : Prop := ∀ g, e.a = some g → e'.a ≠ some g
theorem Ent.adr_some {e : Ent} {g : Nat} (h : e.adr = some ⟨g, 0, none⟩) : e.a = some g := by
  unfold Ent.adr at h
  cases ha : e.a with
  | none => rw [ha] at h; cases h
  | some q => rw [ha] at h; simp at h; rw [h]

theorem parts_of_list (w : World) (B : Nat) (L : List Ent) (t : TypeId) (hok : ∀ e ∈ L, e.Ok w B) (hfar : L.Pairwise Ent.Far) :
    Parts (w.alloc (.cells (L.map Ent.val).toArray t)) B w.heap.size L.length (fun k => (L.getD k Ent.none_).adr) (fun k => (L.getD k Ent.none_).n) (fun k => (L.getD k Ent.none_).c) (fun k => (L.getD k Ent.none_).l) (fun k => (L.getD k Ent.none_).r) where
  at_ := fun k hk => by
    rw [World.cell?_alloc_at _ _ _ _ rfl]
    simp [List.getElem?_eq_getElem hk, List.getD_eq_getElem?_getD, Ent.val]
  size := fun k hk => by
    simp only [List.getD_eq_getElem?_getD, List.getElem?_eq_getElem hk, Option.getD_some]
    exact (hok _ (List.getElem_mem hk)).size
  wf := fun k hk => by
    simp only [List.getD_eq_getElem?_getD, List.getElem?_eq_getElem hk, Option.getD_some]
    exact (hok _ (List.getElem_mem hk)).wf
  lies := fun k hk => by
    simp only [List.getD_eq_getElem?_getD, List.getElem?_eq_getElem hk, Option.getD_some]
    rcases (hok _ (List.getElem_mem hk)).lies with ⟨h1, h2⟩ | ⟨g, h1, h2, h3⟩
    · exact .inl ⟨by rw [Ent.adr, h1]; rfl, h2⟩
    · have := block_lt h3
      exact .inr ⟨g, by rw [Ent.adr, h1]; rfl, h2, by omega, (Below.heap_alloc w _ g this).trans h3⟩
  apart := fun i k hi hk hne g h1 h2 => by
    simp only [List.getD_eq_getElem?_getD, List.getElem?_eq_getElem hi, List.getElem?_eq_getElem hk, Option.getD_some] at h1 h2
    have h1 := Ent.adr_some h1
    have h2 := Ent.adr_some h2
    rcases Nat.lt_or_gt_of_ne hne with h | h
    · exact List.pairwise_iff_getElem.1 hfar i k hi hk h g h1 h2
    · exact List.pairwise_iff_getElem.1 hfar k i hk hi h g h2 h1
  gl_lt := by simp

end Go.Proofs.YtcmbdhmhkfhjfaaGreat.L
namespace Go.Proofs.YtcmbdhmhkfhjfaaGreat.L
open Go.RowKit
set_option linter.unusedVariables false
set_option linter.unusedVariables false
/-- A slice that is nil or the beginning of a block, as an entry. -/
theorem Li.ent {w : World} {A : Option Addr} {m g B : Nat} {l r : List Bool} (h : Li w A m g l r) (hm : l.length = m) (hw : ∀ x ∈ l, (Lit.bool x).wf = true) (hB : B ≤ g) (hmm : m ≤ 140737488351232) :
    ∃ E : Ent, E.val = .slice A m m ∧ E.Ok w B ∧ (E.a = none ∨ E.a = some g) ∧ (A = none → E.a = none) := by
  rcases h with ⟨h1, h2⟩ | ⟨h1, h2⟩
  · subst h1 h2
    exact ⟨⟨none, 0, 0, l, r⟩, rfl, ⟨⟨Nat.le_refl _, by show 0 ≤ _; omega, hm⟩, hw, .inl ⟨rfl, rfl, rfl⟩⟩, .inl rfl, fun _ => rfl⟩
  · subst h1
    exact ⟨⟨some g, m, m, l, r⟩, rfl, ⟨⟨Nat.le_refl _, by show m ≤ _; omega, hm⟩, hw, .inr ⟨g, rfl, hB, h2⟩⟩, .inr rfl, fun h => by cases h⟩

end Go.Proofs.YtcmbdhmhkfhjfaaGreat.L
namespace Go.Proofs.YtcmbdhmhkfhjfaaGreat
open Go.RowKit
set_option linter.unusedVariables false

end Go.Proofs.YtcmbdhmhkfhjfaaGreat
namespace Go.Proofs.YtcmbdhmhkfhjfaaGreat
open Go.RowKit
set_option linter.unusedVariables false

end Go.Proofs.YtcmbdhmhkfhjfaaGreat
namespace Go.Proofs.YtcmbdhmhkfhjfaaGreat
open Go.RowKit
set_option linter.unusedVariables false

end Go.Proofs.YtcmbdhmhkfhjfaaGreat
namespace Go.Proofs.YtcmbdhmhkfhjfaaGreat
open Go.RowKit
set_option linter.unusedVariables false

def exA : Req := ⟨3, 0, 2, [], [], []⟩
def exR : Rep := ⟨0, [], [1, 512], []⟩
theorem exA_chk : chkQ exA = 0 := by decide
theorem exR_chk : chkR exA exR = 0 := by decide

set_option maxHeartbeats 1000000 in
/-- SameFiles, of two lists of none. -/
theorem SameFiles_nil (A A' : Option Addr) (c c' : Nat) (w : World) : Calls Tryz.prog 38 #[.slice A 0 c, .slice A' 0 c'] w fun e w' => e = .returned (.bool true) ∧ w' = w := by
  go_enter Tryz.func38, Tryz.ntmps38
  go_wp2
  go_loopw [5] (fun i wr => i = .int .i64 0 ∧ wr = w) (fun _ _ => 0)
  case atStart => exact ⟨rfl, rfl⟩
  case round =>
    obtain ⟨rfl, rfl⟩ := hrel
    go_wp2
    go_ret
    exact ⟨rfl, rfl⟩

set_option maxHeartbeats 1000000 in
set_option maxRecDepth 100000 in
/-- SameReply, of two answers that are the same and have no files. -/
theorem SameReply_flat (x : Int) (on : List Bool) (set : List Int) (Bo Bs Bf Bo' Bs' Bf' : Option Addr) (mo ms eo es ef eo' es' ef' : Nat) (w : World) (h1 : L.Row () w w.heap.size Bo on) (h2 : Row .u16 w w.heap.size Bs set) (h1' : L.Row () w w.heap.size Bo' on) (h2' : Row .u16 w w.heap.size Bs' set) (l1 : on.length = mo) (l2 : set.length = ms) (c1 : mo ≤ 1000000) (c2 : ms ≤ 1000000) :
    Calls Tryz.prog 15 #[.agg #[.int .i64 x, .slice Bo mo eo, .slice Bs ms es, .slice Bf 0 ef], .agg #[.int .i64 x, .slice Bo' mo eo', .slice Bs' ms es', .slice Bf' 0 ef']] w fun e w' => e = .returned (.bool true) ∧ Below w.heap.size w w' := by
  have t0 := TB.new2 w #[.int .i64 x, .slice Bo mo eo, .slice Bs ms es, .slice Bf 0 ef] #[.int .i64 x, .slice Bo' mo eo', .slice Bs' ms es', .slice Bf' 0 ef'] 30 30
  have bel := t0.bel
  have H1 := Lib.hid (h1.below bel)
  have H2 := Lib.hid (h2.below bel)
  have H1' := Lib.hid (h1'.below bel)
  have H2' := Lib.hid (h2'.below bel)
  have L1 := Lib.hid l1
  have L2 := Lib.hid l2
  have ex : (x == x) = true := by simp
  clear h1 h2 h1' h2' l1 l2 t0
  go_enter Tryz.func15, Tryz.ntmps15
  go_wp2_with fail
  refine (L.same_yes_bool _ _ _ _ _ on _ _ _ H1.out H1'.out L1.out (by omega)).mono ?_
  rintro e w' ⟨rfl, m1, rfl⟩
  go_wp2_with fail
  refine (W.same_yes_u16 _ _ _ _ _ set _ _ _ (H2.out.drewN m1) (H2'.out.drewN m1) L2.out (by omega)).mono ?_
  rintro e w' ⟨rfl, m2, rfl⟩
  rw [World.drewN_drewN]
  go_wp2_with fail
  refine (SameFiles_nil _ _ _ _ _).mono ?_
  rintro e w' ⟨rfl, rfl⟩
  go_wp2
  go_ret
  exact ⟨rfl, below_drewN bel _⟩

abbrev exAO : Obj := .cells #[.int .i64 3, .int .i64 0, .int .i64 2, .slice none 0 0, .slice none 0 0, .slice none 0 0] 68 (0, 0)
end Go.Proofs.YtcmbdhmhkfhjfaaGreat
namespace Go.Proofs.YtcmbdhmhkfhjfaaGreat
open Go.RowKit
set_option linter.unusedVariables false

set_option maxHeartbeats 1000000 in
set_option maxRecDepth 100000 in
/-- SameReply, of two answers that are the same. -/
theorem SameReply_yes (x : Int) (on : List Bool) (set : List Int) (fs : List (List Int)) (Bo Bs Bf Bo' Bs' Bf' : Option Addr) (mo ms mf eo es ef eo' es' ef' : Nat) (w : World) (h1 : L.Row () w w.heap.size Bo on) (h2 : Row .u16 w w.heap.size Bs set) (h1' : L.Row () w w.heap.size Bo' on) (h2' : Row .u16 w w.heap.size Bs' set) (h3 : FRow w w.heap.size Bf fs) (h3' : FRow w w.heap.size Bf' fs) (l1 : on.length = mo) (l2 : set.length = ms) (l3 : fs.length = mf) (c1 : mo ≤ 70368744177664) (c2 : ms ≤ 70368744177664) (c3 : mf ≤ 1000000) (c4 : ∀ i, i < mf → (nthF fs i).length ≤ 70368744177664) :
    Calls Tryz.prog 15 #[.agg #[.int .i64 x, .slice Bo mo eo, .slice Bs ms es, .slice Bf mf ef], .agg #[.int .i64 x, .slice Bo' mo eo', .slice Bs' ms es', .slice Bf' mf ef']] w fun e w' => e = .returned (.bool true) ∧ Below w.heap.size w w' := by
  have t0 := TB.new2 w #[.int .i64 x, .slice Bo mo eo, .slice Bs ms es, .slice Bf mf ef] #[.int .i64 x, .slice Bo' mo eo', .slice Bs' ms es', .slice Bf' mf ef'] 30 30
  have bel := t0.bel
  have H1 := Lib.hid (h1.below bel)
  have H2 := Lib.hid (h2.below bel)
  have H3 := Lib.hid (h3.below bel)
  have H3' := Lib.hid (h3'.below bel)
  have L3 := Lib.hid l3
  have C4 := Lib.hid c4
  have H1' := Lib.hid (h1'.below bel)
  have H2' := Lib.hid (h2'.below bel)
  have L1 := Lib.hid l1
  have L2 := Lib.hid l2
  have ex : (x == x) = true := by simp
  clear h1 h2 h1' h2' h3 h3' l1 l2 l3 c4 t0
  go_enter Tryz.func15, Tryz.ntmps15
  go_wp2_with fail
  refine (L.same_yes_bool _ _ _ _ _ on _ _ _ H1.out H1'.out L1.out (by omega)).mono ?_
  rintro e w' ⟨rfl, m1, rfl⟩
  go_wp2_with fail
  refine (W.same_yes_u16 _ _ _ _ _ set _ _ _ (H2.out.drewN m1) (H2'.out.drewN m1) L2.out (by omega)).mono ?_
  rintro e w' ⟨rfl, m2, rfl⟩
  rw [World.drewN_drewN]
  go_wp2_with fail
  refine (SameFiles_yes _ _ mf _ _ fs _ _ _ (H3.out.drewN (m1 + m2)) (H3'.out.drewN (m1 + m2)) L3.out c3 C4.out).mono ?_
  rintro e w' ⟨rfl, m3, rfl⟩
  rw [World.drewN_drewN]
  go_wp2
  go_ret
  exact ⟨rfl, below_drewN bel _⟩

end Go.Proofs.YtcmbdhmhkfhjfaaGreat
namespace Go.Proofs.YtcmbdhmhkfhjfaaGreat
open Go.RowKit
set_option linter.unusedVariables false

theorem info_words : (Tryz.prog.info? 27).map (fun i => (i.zero, i.size, i.bytes)) = some (some (.slice none 0 0), 1, 24) := by kernel_rfl

/-- The slice v owns the lists fs, each of which is a slice of the call's own. -/
def WOwn (w : World) (base : Nat) (v : Value) (fs : List (List Int)) : Prop :=
  ∃ L : List (List Int × Value), L.map Prod.fst = fs ∧ w.ownsRow base 27 1 v L.length (L.map Prod.snd) ∧ ∀ p ∈ L, Own .u16 58 w base p.2 p.1
theorem WOwn.nil (w : World) (base : Nat) : WOwn w base (.slice none 0 0) [] := ⟨[], rfl, World.ownsRow_nil _ _ _ _, fun p hp => by cases hp⟩
theorem Own.keep {k : IntKind} {e : TypeId} {w w' : World} {base : Nat} {v : Value} {xs : List Int} {row : Option Nat} (h : Own k e w base v xs) (hg : w.grownBy w' row) (hr : v.ownBlock = none ∨ v.ownBlock ≠ row) : Own k e w' base v xs := World.ownsRow.kept h hg hr
theorem rowW_below {w w' : World} {base B n : Nat} {v : Value} {xs : List Value} (h : w.ownsRow base 27 1 v n xs) (hb : Below B w w') (hB : w.heap.size ≤ B) : w'.ownsRow base 27 1 v n xs := by
  refine h.kept (row := none) ⟨hb.os, hb.tape, hb.output, hb.size, fun i hi _ => hb.block i (by omega)⟩ ?_
  cases hv : v.ownBlock with
  | none => exact .inl rfl
  | some g => exact .inr (by simp)
theorem WOwn.below {w w' : World} {base B : Nat} {v : Value} {fs : List (List Int)} (h : WOwn w base v fs) (hb : Below B w w') (hB : w.heap.size ≤ B) : WOwn w' base v fs := by
  obtain ⟨L, h1, h2, h3⟩ := h
  exact ⟨L, h1, rowW_below h2 hb hB, fun p hp => (h3 p hp).below hb hB⟩
theorem WOwn.block {w : World} {base : Nat} {v : Value} {fs : List (List Int)} (h : WOwn w base v fs) : ∀ g, v.ownBlock = some g → base ≤ g ∧ g < w.heap.size := by
  obtain ⟨L, h1, h2, h3⟩ := h
  exact World.ownsRow.lt h2
theorem WOwn.set {w : World} {base : Nat} {v : Value} {fs : List (List Int)} (h : WOwn w base v fs) {g : Nat} (hg : g < base) (i : Nat) (u : Value) : WOwn (w.setCell ⟨g, i, none⟩ u) base v fs := by
  obtain ⟨L, h1, h2, h3⟩ := h
  exact ⟨L, h1, h2.kept (grown_setCell (World.grownBy.refl _ _) i u) (.inr fun hv => by have := (World.ownsRow.lt h2 g hv).1; omega), fun p hp => (h3 p hp).set hg i u⟩
/-- The block of a list of lists is none of its lists' own. -/
theorem words_far {w : World} {base base' : Nat} {v u : Value} {n : Nat} {xs : List Value} {ys : List Int} (h : w.ownsRow base 27 1 v n xs) (k : Own .u16 58 w base' u ys) : u.ownBlock = none ∨ u.ownBlock ≠ v.ownBlock := by
  rcases k.2 with ⟨rfl, _⟩ | ⟨g, cap, cur0, rfl, _, hg, _⟩
  · exact .inl rfl
  · refine .inr fun e => ?_
    rcases h.2 with ⟨rfl, _⟩ | ⟨g', cap', cur, rfl, _, hg', _⟩
    · cases e
    · have e : some g = some g' := e
      injection e with e
      subst e
      rw [hg] at hg'
      injection hg' with hg'
      injection hg' with _ ht
      exact absurd ht (by decide)
theorem WOwn.len {w : World} {base : Nat} {v : Value} {fs : List (List Int)} (h : WOwn w base v fs) : ∃ A c, v = .slice A fs.length c ∧ fs.length ≤ c := by
  obtain ⟨L, rfl, h2, h3⟩ := h
  rw [List.length_map]
  rcases h2.2 with ⟨rfl, h0⟩ | ⟨g, cap, cur, rfl, _, _, h4, _⟩
  · rw [h0]; exact ⟨none, 0, rfl, Nat.le_refl _⟩
  · exact ⟨_, cap, rfl, h4⟩
/-- As a list of lists that is read. -/
theorem WOwn.frow {w : World} {base : Nat} {A : Option Addr} {n c : Nat} {fs : List (List Int)} (h : WOwn w base (.slice A n c) fs) (hw : ∀ xs ∈ fs, ∀ x ∈ xs, (Lit.int .u16 x).wf = true) : FRow w w.heap.size A fs := by
  obtain ⟨L, rfl, h2, h3⟩ := h
  intro h0
  rw [List.length_map] at h0
  rcases h2.2 with ⟨e, h9⟩ | ⟨g, cap, cur, e, hb, hg, h4, h5, h6, h7⟩
  · omega
  · injection e with e1 e2 e3
    subst e1 e2 e3
    refine ⟨g, 0, rfl, block_lt hg, fun i hi => ?_⟩
    rw [List.length_map] at hi
    have hown := h3 _ (List.getElem_mem hi)
    have hfst : nthF (L.map Prod.fst) i = (L[i]).1 := by simp [nthF, List.getD_eq_getElem?_getD, List.getElem?_eq_getElem hi]
    obtain ⟨Ai, ci, hv, hrow, hle, _⟩ := hown.row (hw _ (List.mem_map.2 ⟨_, List.getElem_mem hi, rfl⟩))
    refine ⟨Ai, ci, ?_, by rw [hfst]; exact hrow, by rw [hfst]; exact hle⟩
    rw [Nat.zero_add, cell_of_row w g i cur _ _ hg, hfst, ← hv, ← Array.getElem?_toList]
    have : (cur.toList.take (L.length * 1))[i]? = (L.map Prod.snd)[i]? := by rw [h7]
    rw [List.getElem?_take_of_lt (by omega)] at this
    rw [this, List.getElem?_map, List.getElem?_eq_getElem hi]
    rfl

section
variable {P : Program}
/-- 'append(v, xs)' of a list of words in a box. -/
theorem wpList_append_words {ops : Array Oper} {rest : List Oper} {o : Oper} {a : Act} {Q : Exit → Act → World → Prop} (w : World) (hgd : o.guard = none) (s x : Operand) (t : TypeId)
    (ho : o.op = .call { callee := .builtin .append, args := #[s, x], argTypes := #[t, t] }) (base : Nat) (ht : P.underlying t = some (.slice 27)) (hi : (P.info? 27).map (fun i => (i.zero, i.size, i.bytes)) = some (some (.slice none 0 0), 1, 24))
    (v : Value) (fs : List (List Int)) (hs : a.eval s = v) (hown : WOwn w base v fs) (ad : Addr) (c : Nat) (xs : List Int) (A : Option Addr) (m cc : Nat) (hx : a.eval x = .slice (some ad) 1 c)
    (hk : Own .u16 58 w base (.slice A m cc) xs) (hnews : ∀ j u, [Value.slice A m cc][j]? = some u → w.cell? (ad.add j) = some u) (hb : fs.length ≤ 1000000) (hbase : base ≤ w.heap.size)
    (h : ∀ v' w', WOwn w' base v' (fs ++ [xs]) → w.grownBy w' v.ownBlock → wpList P ops Q rest (a.put o.dst v') w') : wpList P ops Q (o :: rest) a w := by
  obtain ⟨i, hi1, hz, hsz, hby⟩ := info_parts hi
  obtain ⟨L, rfl, h2, h3⟩ := hown
  rw [List.length_map] at hb
  refine wpList_append_own w hgd s x t ho base 27 i _ 1 24 ht hi1 hz hsz hby rfl (by omega) v L.length (L.map Prod.snd) hs h2 ad 1 c [.slice A m cc] hx rfl hnews (by simp [Value.oneCell']) (by simp only [maxLen]; omega) (by omega) hbase fun v' w' h4 h5 _ => h v' w' ?_ h5
  refine ⟨L ++ [(xs, .slice A m cc)], by simp, ?_, fun p hp => ?_⟩
  · rw [List.map_append, List.length_append]
    exact h4
  · rcases List.mem_append.1 hp with hp | hp
    · exact (h3 p hp).keep h5 (words_far h2 (h3 p hp))
    · simp only [List.mem_singleton] at hp
      subst hp
      exact hk.keep h5 (words_far h2 hk)
end
/-- The cell of a list in a new box. -/
theorem box_words (w : World) (t : TypeId) (x : Value) : ∀ j u, [x][j]? = some u → (w.alloc (.cells #[x] t)).cell? ((⟨w.heap.size, 0, none⟩ : Addr).add j) = some u := by
  intro j u hu
  rw [Go.WideShapes.add_plain, Nat.zero_add, World.cell?_alloc_at _ _ _ _ rfl]
  simpa using hu
theorem TB.set1 {w0 w : World} {B : Nat} {o2 : Obj} {cs : Array Value} {t : TypeId} (h : TB w0 B (.cells cs t (0, 0)) o2 w) (i : Nat) (v : Value) : TB w0 B (.cells (cs.setIfInBounds i v) t (0, 0)) o2 (w.setCell ⟨B, i, none⟩ v) :=
  ⟨box_set h.ret i v, (Below.heap_setCell w ⟨B, i, none⟩ v (B + 1) (by simp)).trans h.box, below_setCell h.bel (Nat.le_refl _) i v⟩
theorem TB.r4 {w0 w : World} {B : Nat} {o2 : Obj} {t : TypeId} {v0 v1 v2 v3 : Value} (h : TB w0 B (.cells #[v0, v1, v2, v3] t (0, 0)) o2 w) :
    w.cell? ⟨B, 0, none⟩ = some v0 ∧ w.cell? ⟨B, 1, none⟩ = some v1 ∧ w.cell? ⟨B, 2, none⟩ = some v2 ∧ w.cell? ⟨B, 3, none⟩ = some v3 ∧ ∀ i, w.frozen? ⟨B, i, none⟩ = false :=
  ⟨cell_of_row w B 0 _ _ _ h.ret, cell_of_row w B 1 _ _ _ h.ret, cell_of_row w B 2 _ _ _ h.ret, cell_of_row w B 3 _ _ _ h.ret, fun i => block_frozen w B i _ _ h.ret⟩
theorem Own.put4 {k : IntKind} {e : TypeId} {w : World} {base : Nat} {v : Value} {xs : List Int} (h : Own k e w base v xs) {g : Nat} (hg : g < base) (v0 v1 v2 v3 : Value) : Own k e (put4 w g v0 v1 v2 v3) base v xs :=
  (((h.set hg 0 v0).set hg 1 v1).set hg 2 v2).set hg 3 v3
theorem L.Own.put4 {k : Unit} {e : TypeId} {w : World} {base : Nat} {v : Value} {xs : List Bool} (h : L.Own k e w base v xs) {g : Nat} (hg : g < base) (v0 v1 v2 v3 : Value) : L.Own k e (put4 w g v0 v1 v2 v3) base v xs :=
  (((h.set hg 0 v0).set hg 1 v1).set hg 2 v2).set hg 3 v3
theorem WOwn.put4 {w : World} {base : Nat} {v : Value} {fs : List (List Int)} (h : WOwn w base v fs) {g : Nat} (hg : g < base) (v0 v1 v2 v3 : Value) : WOwn (put4 w g v0 v1 v2 v3) base v fs :=
  (((h.set hg 0 v0).set hg 1 v1).set hg 2 v2).set hg 3 v3
theorem takeF_step (fs : List (List Int)) (k : Nat) (h : k < fs.length) : fs.take (k + 1) = fs.take k ++ [nthF fs k] := by
  rw [List.take_succ_eq_append_getElem h]
  simp [nthF, List.getD_eq_getElem?_getD, List.getElem?_eq_getElem h]
/-- The words of an answer's files are words. -/
theorem FRow.wf {w : World} {B : Nat} {A : Option Addr} {fs : List (List Int)} (h : FRow w B A fs) : ∀ xs ∈ fs, ∀ x ∈ xs, (Lit.int .u16 x).wf = true := by
  intro xs hxs
  obtain ⟨i, hi, rfl⟩ := List.mem_iff_getElem.1 hxs
  obtain ⟨b, o, _, _, hc⟩ := h (by omega)
  obtain ⟨Ai, ci, _, h2, _⟩ := hc i hi
  have : nthF fs i = fs[i] := by simp [nthF, List.getD_eq_getElem?_getD, List.getElem?_eq_getElem hi]
  rw [this] at h2
  exact h2.1

theorem farW {w : World} {base base' : Nat} {v u : Value} {fs : List (List Int)} {ys : List Int} (k : Own .u16 58 w base' u ys) (h : WOwn w base v fs) : u.ownBlock = none ∨ u.ownBlock ≠ v.ownBlock := by
  obtain ⟨L, _, h2, _⟩ := h
  exact words_far h2 k
theorem farB {w : World} {base base' : Nat} {v u : Value} {fs : List (List Int)} {ys : List Bool} (k : L.Own () 4 w base' u ys) (h : WOwn w base v fs) : u.ownBlock = none ∨ u.ownBlock ≠ v.ownBlock := by
  obtain ⟨L, _, h2, _⟩ := h
  rcases k.2 with ⟨rfl, _⟩ | ⟨g, cap, cur0, rfl, _, hg, _⟩
  · exact .inl rfl
  · refine .inr fun e => ?_
    rcases h2.2 with ⟨rfl, _⟩ | ⟨g', cap', cur, rfl, _, hg', _⟩
    · cases e
    · have e : some g = some g' := e
      injection e with e
      subst e
      rw [hg] at hg'
      injection hg' with hg'
      injection hg' with _ ht
      exact absurd ht (by decide)
theorem L.Own.view3 {k : Unit} {e : TypeId} {w : World} {base : Nat} {v : Value} {xs : List Bool} (h : L.Own k e w base v xs) : ∃ A n c, v = .slice A n c ∧ L.Row k w w.heap.size A xs ∧ xs.length = n := by
  obtain ⟨A, c, e, hr, _⟩ := h.row (fun _ _ => rfl)
  exact ⟨A, _, c, e, hr, rfl⟩
theorem Own.view3 {k : IntKind} {e : TypeId} {w : World} {base : Nat} {v : Value} {xs : List Int} (h : Own k e w base v xs) (hw : ∀ x ∈ xs, (Lit.int k x).wf = true) : ∃ A n c, v = .slice A n c ∧ Row k w w.heap.size A xs ∧ xs.length = n := by
  obtain ⟨A, c, e, hr, _⟩ := h.row hw
  exact ⟨A, _, c, e, hr, rfl⟩
set_option maxHeartbeats 4000000 in
set_option maxRecDepth 100000 in
theorem CopyReply_any (r : Rep) (Bo Bs Bf : Option Addr) (mo ms mf eo es ef : Nat) (w : World) (hr : Repd w w.heap.size r Bo Bs Bf mo ms mf) (b1 : mo ≤ 70000) (b2 : ms ≤ 70000) (b3 : mf ≤ 1000) (b4 : ∀ i, i < mf → (nthF r.fs i).length ≤ 70368744175616) :
    Calls Tryz.prog 9 #[.agg #[.int .i64 r.x, .slice Bo mo eo, .slice Bs ms es, .slice Bf mf ef]] w
      fun e w' => ∃ Co Cs Cf ko ks kf, e = .returned (.agg #[.int .i64 r.x, .slice Co mo ko, .slice Cs ms ks, .slice Cf mf kf]) ∧ Repd w' w'.heap.size r Co Cs Cf mo ms mf ∧ Below w.heap.size w w' := by
  have HR := Lib.hid hr
  have HWF := Lib.hid hr.fs.wf
  have HMF := Lib.hid hr.mf
  have HL4 := Lib.hid b4
  have t0 := TB.new w #[.int .i64 r.x, .slice Bo mo eo, .slice Bs ms es, .slice Bf mf ef] #[.int .i64 0, .slice none 0 0, .slice none 0 0, .slice none 0 0] 30
  clear hr b4
  go_enter Tryz.func9, Tryz.ntmps9
  go_wp2_with fail
  refine (L.copy_bool _ _ _ r.on _ ((HR.out.on.below t0.bel).more t0.bel.size) HR.out.mo (by omega)).mono ?_
  rintro e w1 ⟨vo, rfl, own1, b⟩
  obtain ⟨A1, c1, rfl, _, _, _⟩ := own1.row (fun _ _ => rfl)
  rw [HR.out.mo] at own1 ⊢
  have t1 := t0.below b
  have own1 := own1.mono (base' := w.heap.size + 2) (by have := t0.lt; omega)
  clear t0 b
  obtain ⟨d0, d1, d2, d3, d4⟩ := t1.r4
  have t2 := t1.set1 1 (.slice A1 mo c1)
  have own2 := Lib.hid (own1.set (g := w.heap.size) (by omega) 1 (.slice A1 mo c1))
  clear own1 t1
  go_wp2_with fail
  clear d0 d1 d2 d3 d4
  generalize w1.setCell ⟨w.heap.size, 1, none⟩ (.slice A1 mo c1) = w2 at *
  refine (W.copy_u16 _ _ _ r.set _ ((HR.out.set.below t2.bel).more t2.bel.size) HR.out.ms (by omega)).mono ?_
  rintro e w3 ⟨vs, rfl, own3, b⟩
  obtain ⟨A3, c3, rfl, _, _, _⟩ := own3.row HR.out.set.1
  rw [HR.out.ms] at own3 ⊢
  have t3 := t2.below b
  have own4 := own2.out.below b (Nat.le_refl _)
  have own3 := own3.mono (base' := w.heap.size + 2) (by have := t2.lt; omega)
  clear own2 t2 b
  obtain ⟨d0, d1, d2, d3, d4⟩ := t3.r4
  have t4 := t3.set1 2 (.slice A3 ms c3)
  have own5 := own3.set (g := w.heap.size) (by omega) 2 (.slice A3 ms c3)
  have own6 := own4.set (g := w.heap.size) (by omega) 2 (.slice A3 ms c3)
  clear own3 own4 t3
  go_wp2_with fail
  clear d0 d1 d2 d3 d4
  generalize w3.setCell ⟨w.heap.size, 2, none⟩ (.slice A3 ms c3) = w4 at *
  go_loopw [3, 4] (fun v i wr => ∃ k : Nat, k ≤ mf ∧ i = .int .i64 k ∧ WOwn wr (w.heap.size + 2) v (r.fs.take k) ∧ Hid (L.Own () 4 wr (w.heap.size + 2) (.slice A1 mo c1) r.on ∧ Own .u16 58 wr (w.heap.size + 2) (.slice A3 ms c3) r.set) ∧ TB w w.heap.size (.cells #[.int .i64 r.x, .slice A1 mo c1, .slice A3 ms c3, .slice Bf mf ef] 30 (0, 0)) (.cells #[.int .i64 0, .slice none 0 0, .slice none 0 0, .slice none 0 0] 30 (0, 0)) wr) (fun _ i _ => mf - (intOf i).toNat)
  case atStart => exact ⟨0, by omega, rfl, WOwn.nil _ _, Lib.hid ⟨own6, own5⟩, t4⟩
  case round =>
    clear own5 own6 t4
    obtain ⟨k, hk, rfl, fown, two, t5⟩ := hrel
    obtain ⟨d0, d1, d2, d3, d4⟩ := t5.r4
    have hlt5 := t5.lt
    by_cases hlt : k < mf
    · obtain ⟨b, o, Ai, ci, rfl, hb1, hc0, rw0, hle⟩ := HR.out.fs.at_ (i := k) (by rw [HMF.out]; exact hlt)
      have hc1 := (t5.bel.cell (p := ⟨b, o + k, none⟩) hb1).trans hc0
      have hlen := HL4.out k hlt
      have HT := Lib.hid (takeF_step r.fs k (by rw [HMF.out]; exact hlt))
      have HTL : Hid ((r.fs.take k).length = k) := Lib.hid (by rw [List.length_take, HMF.out]; omega)
      have hwx := Lib.hid rw0.1
      generalize nthF r.fs k = xs at *
      obtain ⟨z, hz⟩ : ∃ z, Hid (xs.length = z) := ⟨_, Lib.hid rfl⟩
      rw [hz.out] at hc1 hlen hle
      have R0 := Lib.hid ((rw0.below t5.bel).more t5.bel.size)
      have hklt : (k : Int) < (mf : Int) := by omega
      clear hc0 rw0
      go_wp2_with fail
      refine (W.copy_u16 _ _ _ xs _ R0.out hz.out (by omega)).mono ?_
      rintro e w5 ⟨vx, rfl, ownx, b5⟩
      obtain ⟨Ax, cx, rfl, _, _, _⟩ := ownx.row hwx.out
      rw [hz.out] at ownx ⊢
      have t6 := t5.below b5
      have fown6 := fown.below b5 (Nat.le_refl _)
      have o1 := two.out.1.below b5 (Nat.le_refl _)
      have o2 := two.out.2.below b5 (Nat.le_refl _)
      have ownx := ownx.mono (base' := w.heap.size + 2) (by omega)
      have hlt6 := t6.lt
      clear t5 b5 fown two d0 d1 d2 d3 d4 hc1
      have bA := bel_alloc w5 (.cells #[.slice Ax z cx] 27)
      have t7 := t6.below bA
      have fown7 := fown6.below bA (Nat.le_refl _)
      have ownx7 := ownx.below bA (Nat.le_refl _)
      have o17 := Lib.hid (o1.below bA (Nat.le_refl _))
      have o27 := Lib.hid (o2.below bA (Nat.le_refl _))
      obtain ⟨Av, cv, hv, _⟩ := fown7.len
      rw [HTL.out] at hv
      subst hv
      have HNEWS := Lib.hid (box_words w5 27 (.slice Ax z cx))
      clear t6 fown6 ownx o1 o2 bA
      go_wp2_with (at_builtin; refine wpList_append_words _ rfl (.tmp 20) (.tmp 27) 28 rfl (w.heap.size + 2) Tryz.underlying28 info_words (.slice Av k cv) (r.fs.take k) rfl fown7 ⟨w5.heap.size, 0, none⟩ 1 xs Ax z cx rfl ownx7 HNEWS.out (by rw [HTL.out]; omega) (by simp; omega) ?_; intro v8 w8 fown8 hg8)
      have t8 := t7.grown hg8 (fun g e => (fown7.block g e).1)
      have far1 : L.Own () 4 w8 (w.heap.size + 2) (.slice A1 mo c1) r.on := o17.out.kept hg8 (farB o17.out fown7)
      have far2 : Own .u16 58 w8 (w.heap.size + 2) (.slice A3 ms c3) r.set := o27.out.keep hg8 (farW o27.out fown7)
      have two8 := Lib.hid (And.intro far1 far2)
      rw [← HT.out] at fown8
      clear t7 fown7 ownx7 o17 o27 far1 far2 hg8
      go_wp2
      go_roundw
      case rel => exact ⟨k + 1, by omega, by go_num, fown8, two8, t8⟩
      case measure => simp [intOf]; omega
    · obtain rfl : k = mf := by omega
      have hx : r.fs.take k = r.fs := List.take_of_length_le (by rw [HMF.out]; omega)
      rw [hx] at fown
      clear hx
      obtain ⟨Av, cv, hv, _⟩ := fown.len
      rw [HMF.out] at hv
      subst hv
      have t6 := t5.set1 3 (.slice Av k cv)
      have fown6 := fown.set (g := w.heap.size) (by omega) 3 (.slice Av k cv)
      have o1 := two.out.1.set (g := w.heap.size) (by omega) 3 (.slice Av k cv)
      have o2 := two.out.2.set (g := w.heap.size) (by omega) 3 (.slice Av k cv)
      obtain ⟨k0, k1, k2, k3, k4⟩ := t5.c4
      have P5 := Lib.hid (t6.put4 (.int .i64 r.x) (.slice A1 mo c1) (.slice A3 ms c3) (.slice Av k cv))
      have F5 := Lib.hid (fown6.put4 (g := w.heap.size + 1) (by omega) (.int .i64 r.x) (.slice A1 mo c1) (.slice A3 ms c3) (.slice Av k cv))
      have F1 := Lib.hid (o1.put4 (g := w.heap.size + 1) (by omega) (.int .i64 r.x) (.slice A1 mo c1) (.slice A3 ms c3) (.slice Av k cv))
      have F2 := Lib.hid (o2.put4 (g := w.heap.size + 1) (by omega) (.int .i64 r.x) (.slice A1 mo c1) (.slice A3 ms c3) (.slice Av k cv))
      clear t5 t6 fown fown6 two o1 o2
      go_wp2

      (try simp only [Exit.inBlock, Exit.then])
      show bodyPost _ _ _ _ _ (put4 (wr.setCell ⟨w.heap.size, 3, none⟩ (.slice Av k cv)) (w.heap.size + 1) (.int .i64 r.x) (.slice A1 mo c1) (.slice A3 ms c3) (.slice Av k cv))
      generalize put4 (wr.setCell ⟨w.heap.size, 3, none⟩ (.slice Av k cv)) (w.heap.size + 1) (.int .i64 r.x) (.slice A1 mo c1) (.slice A3 ms c3) (.slice Av k cv) = w6 at *
      clear d0 d1 d2 d3 d4 k0 k1 k2 k3 k4
      have c0 := cell_of_row w6 (w.heap.size + 1) 0 _ _ _ P5.out.1
      have c1' := cell_of_row w6 (w.heap.size + 1) 1 _ _ _ P5.out.1
      have c2 := cell_of_row w6 (w.heap.size + 1) 2 _ _ _ P5.out.1
      have c3' := cell_of_row w6 (w.heap.size + 1) 3 _ _ _ P5.out.1
      refine bodyPost_ret (v := .agg #[.int .i64 r.x, .slice A1 mo c1, .slice A3 ms c3, .slice Av k cv]) (by simp [results, Tryz.results9, go_sem, *]) rfl ?_
      refine ⟨A1, A3, Av, c1, c3, cv, rfl, ⟨?_, ?_, F5.out.frow HWF.out, HR.out.mo, HR.out.ms, HMF.out⟩, P5.out.2⟩
      · obtain ⟨A, n, c, e, hrow, _⟩ := F1.out.view3
        injection e with e1 e2 e3
        subst e1
        exact hrow
      · obtain ⟨A, n, c, e, hrow, _⟩ := F2.out.view3 HR.out.set.1
        injection e with e1 e2 e3
        subst e1
        exact hrow
end Go.Proofs.YtcmbdhmhkfhjfaaGreat
namespace Go.Proofs.YtcmbdhmhkfhjfaaGreat.W
open Go.RowKit
set_option linter.unusedVariables false
/-- Rows that lie in blocks of their own, each known whole (or nil), their slices in the array of block gl. -/
structure Parts (w : World) (B gl m : Nat) (A : Nat → Option Addr) (n c : Nat → Nat) (l r : Nat → List Int) : Prop where
  at_ : ∀ k, k < m → w.cell? ⟨gl, k, none⟩ = some (.slice (A k) (n k) (c k))
  size : ∀ k, k < m → n k ≤ c k ∧ c k ≤ 70368744177664 ∧ (l k).length = c k
  wf : ∀ k, k < m → ∀ x ∈ l k, (Lit.int .u16 x).wf = true
  lies : ∀ k, k < m → (A k = none ∧ n k = 0 ∧ c k = 0) ∨ ∃ g, A k = some ⟨g, 0, none⟩ ∧ B ≤ g ∧ g ≠ gl ∧ w.heap[g]? = some (.cells (blk .u16 (l k ++ r k)) 58 (0, 0))
  apart : ∀ i k, i < m → k < m → i ≠ k → ∀ g, A i = some ⟨g, 0, none⟩ → A k ≠ some ⟨g, 0, none⟩
  gl_lt : gl < w.heap.size

theorem Parts.row {w : World} {B gl m : Nat} {A : Nat → Option Addr} {n c : Nat → Nat} {l r : Nat → List Int} (h : Parts w B gl m A n c l r) {k : Nat} (hk : k < m) :
    Row .u16 w w.heap.size (A k) ((l k).take (n k)) ∧ ((l k).take (n k)).length = n k := by
  have hs := h.size k hk
  refine ⟨?_, by simp; omega⟩
  rcases h.lies k hk with ⟨ha, hn, hc⟩ | ⟨g, ha, _, _, hg⟩
  · rw [hn, List.take_zero]; exact Row.nil _ _ _ _
  · rw [ha]
    exact (Row.of_block hg _ (fun x hx => h.wf k hk x (List.mem_of_mem_take hx)) ((List.take_prefix _ _).trans (List.prefix_append _ _))).more (block_lt hg)
/-- A step that leaves all old blocks leaves the parts. -/
theorem Parts.below {w w' : World} {B gl m : Nat} {A : Nat → Option Addr} {n c : Nat → Nat} {l r : Nat → List Int} (h : Parts w B gl m A n c l r) (hb : Below w.heap.size w w') : Parts w' B gl m A n c l r where
  at_ := fun k hk => (hb.cell (p := ⟨gl, k, none⟩) h.gl_lt).trans (h.at_ k hk)
  size := h.size
  wf := h.wf
  lies := fun k hk => by
    rcases h.lies k hk with h0 | ⟨g, ha, hB, hne, hg⟩
    · exact .inl h0
    · exact .inr ⟨g, ha, hB, hne, (hb.block g (block_lt hg)).trans hg⟩
  apart := h.apart
  gl_lt := Nat.lt_of_lt_of_le h.gl_lt hb.size
/-- One part is written over. -/
theorem Parts.spoil {w w' : World} {B gl m : Nat} {A : Nat → Option Addr} {n c : Nat → Nat} {l r : Nat → List Int} (h : Parts w B gl m A n c l r) {i g : Nat} (hi : i < m) (ha : A i = some ⟨g, 0, none⟩)
    (hg : w'.heap[g]? = some (.cells (blk .u16 (spoil16 (c i) (l i) ++ r i)) 58 (0, 0))) (hgr : w.grownBy w' (some g)) : Parts w' B gl m A n c (fun k => if k = i then spoil16 (c i) (l i) else l k) r where
  at_ := fun k hk => by
    rcases h.lies i hi with ⟨h0, _⟩ | ⟨g', ha', _, hne, _⟩
    · rw [ha] at h0; cases h0
    · rw [ha] at ha'
      injection ha' with ha'
      injection ha' with ha'
      subst ha'
      exact (World.cell?_of_block (hgr.block gl h.gl_lt (fun e => hne (by injection e with e; exact e.symm)))).trans (h.at_ k hk)
  size := fun k hk => by
    have := h.size k hk
    refine ⟨this.1, this.2.1, ?_⟩
    split
    · rename_i e; subst e; rw [spoil16_length]; exact this.2.2
    · exact this.2.2
  wf := fun k hk => by
    show ∀ x ∈ (if k = i then spoil16 (c i) (l i) else l k), _
    split
    · exact spoil16_wf _ _ (h.wf i hi)
    · exact h.wf k hk
  lies := fun k hk => by
    by_cases e : k = i
    · subst e
      rcases h.lies k hi with ⟨h0, _⟩ | ⟨g', ha', hB, hne, _⟩
      · rw [ha] at h0; cases h0
      · rw [ha] at ha'
        injection ha' with ha'
        injection ha' with ha'
        subst ha'
        exact .inr ⟨g, ha, hB, hne, by rw [if_pos rfl]; exact hg⟩
    · rcases h.lies k hk with h0 | ⟨g', ha', hB, hne, hg'⟩
      · exact .inl h0
      · refine .inr ⟨g', ha', hB, hne, ?_⟩
        rw [if_neg e, hgr.block g' (block_lt hg') (fun e' => ?_)]
        · exact hg'
        · injection e' with e'
          subst e'
          exact h.apart k i hk hi e _ ha' ha
  apart := h.apart
  gl_lt := Nat.lt_of_lt_of_le h.gl_lt hgr.size

/-- A slice that is handed to ApartWords: nil, or the beginning of a block that is known whole. -/
structure Ent where
  a : Option Nat
  n : Nat
  c : Nat
  l : List Int
  r : List Int
def Ent.none_ : Ent := ⟨none, 0, 0, [], []⟩
def Ent.adr (e : Ent) : Option Addr := e.a.map fun g => ⟨g, 0, none⟩
def Ent.val (e : Ent) : Value := .slice e.adr e.n e.c
structure Ent.Ok (w : World) (B : Nat) (e : Ent) : Prop where
  size : e.n ≤ e.c ∧ e.c ≤ 70368744177664 ∧ e.l.length = e.c
  wf : ∀ x ∈ e.l, (Lit.int .u16 x).wf = true
  lies : (e.a = none ∧ e.n = 0 ∧ e.c = 0) ∨ ∃ g, e.a = some g ∧ B ≤ g ∧ w.heap[g]? = some (.cells (blk .u16 (e.l ++ e.r)) 58 (0, 0))
def Ent.Far (e e' : Ent) : Prop := ∀ g, e.a = some g → e'.a ≠ some g
theorem Ent.adr_some {e : Ent} {g : Nat} (h : e.adr = some ⟨g, 0, none⟩) : e.a = some g := by
  unfold Ent.adr at h
  cases ha : e.a with
  | none => rw [ha] at h; cases h
  | some q => rw [ha] at h; simp at h; rw [h]

theorem parts_of_list (w : World) (B : Nat) (L : List Ent) (t : TypeId) (hok : ∀ e ∈ L, e.Ok w B) (hfar : L.Pairwise Ent.Far) :
    Parts (w.alloc (.cells (L.map Ent.val).toArray t)) B w.heap.size L.length (fun k => (L.getD k Ent.none_).adr) (fun k => (L.getD k Ent.none_).n) (fun k => (L.getD k Ent.none_).c) (fun k => (L.getD k Ent.none_).l) (fun k => (L.getD k Ent.none_).r) where
  at_ := fun k hk => by
    rw [World.cell?_alloc_at _ _ _ _ rfl]
    simp [List.getElem?_eq_getElem hk, List.getD_eq_getElem?_getD, Ent.val]
  size := fun k hk => by
    simp only [List.getD_eq_getElem?_getD, List.getElem?_eq_getElem hk, Option.getD_some]
    exact (hok _ (List.getElem_mem hk)).size
  wf := fun k hk => by
    simp only [List.getD_eq_getElem?_getD, List.getElem?_eq_getElem hk, Option.getD_some]
    exact (hok _ (List.getElem_mem hk)).wf
  lies := fun k hk => by
    simp only [List.getD_eq_getElem?_getD, List.getElem?_eq_getElem hk, Option.getD_some]
    rcases (hok _ (List.getElem_mem hk)).lies with ⟨h1, h2⟩ | ⟨g, h1, h2, h3⟩
    · exact .inl ⟨by rw [Ent.adr, h1]; rfl, h2⟩
    · have := block_lt h3
      exact .inr ⟨g, by rw [Ent.adr, h1]; rfl, h2, by omega, (Below.heap_alloc w _ g this).trans h3⟩
  apart := fun i k hi hk hne g h1 h2 => by
    simp only [List.getD_eq_getElem?_getD, List.getElem?_eq_getElem hi, List.getElem?_eq_getElem hk, Option.getD_some] at h1 h2
    have h1 := Ent.adr_some h1
    have h2 := Ent.adr_some h2
    rcases Nat.lt_or_gt_of_ne hne with h | h
    · exact List.pairwise_iff_getElem.1 hfar i k hi hk h g h1 h2
    · exact List.pairwise_iff_getElem.1 hfar k i hk hi h g h2 h1
  gl_lt := by simp

end Go.Proofs.YtcmbdhmhkfhjfaaGreat.W
namespace Go.Proofs.YtcmbdhmhkfhjfaaGreat.W
open Go.RowKit
set_option linter.unusedVariables false
/-- A slice that is nil or the beginning of a block, as an entry. -/
theorem Li.ent {w : World} {A : Option Addr} {m g B : Nat} {l r : List Int} (h : Li w A m g l r) (hm : l.length = m) (hw : ∀ x ∈ l, (Lit.int .u16 x).wf = true) (hB : B ≤ g) (hmm : m ≤ 70368744173568) :
    ∃ E : Ent, E.val = .slice A m m ∧ E.Ok w B ∧ (E.a = none ∨ E.a = some g) ∧ (A = none → E.a = none) := by
  rcases h with ⟨h1, h2⟩ | ⟨h1, h2⟩
  · subst h1 h2
    exact ⟨⟨none, 0, 0, l, r⟩, rfl, ⟨⟨Nat.le_refl _, by show 0 ≤ _; omega, hm⟩, hw, .inl ⟨rfl, rfl, rfl⟩⟩, .inl rfl, fun _ => rfl⟩
  · subst h1
    exact ⟨⟨some g, m, m, l, r⟩, rfl, ⟨⟨Nat.le_refl _, by show m ≤ _; omega, hm⟩, hw, .inr ⟨g, rfl, hB, h2⟩⟩, .inr rfl, fun h => by cases h⟩

end Go.Proofs.YtcmbdhmhkfhjfaaGreat.W
namespace Go.Proofs.YtcmbdhmhkfhjfaaGreat
open Go.RowKit
set_option linter.unusedVariables false
/-- A call returns a pair: a list of words of its own, and no error. -/
def MakesW (w : World) (xs : List Int) (e : Ending) (w' : World) : Prop := ∃ v, e = .returned (.tuple #[v, .int .i64 0]) ∧ Own .u16 58 w' w.heap.size v xs ∧ Below w.heap.size w w'
end Go.Proofs.YtcmbdhmhkfhjfaaGreat
namespace Go.Proofs.YtcmbdhmhkfhjfaaGreat
open Go.RowKit
set_option linter.unusedVariables false

def TB3 (w0 : World) (B : Nat) (o1 o2 o3 : Obj) (w : World) : Prop := TB w0 B o1 o2 w ∧ w.heap[B + 2]? = some o3
section
variable {w0 w w' : World} {B : Nat} {o1 o2 o3 : Obj}
theorem TB3.new (w : World) (c1 c2 c3 : Array Value) (t u v : TypeId) : TB3 w w.heap.size (.cells c1 t (0, 0)) (.cells c2 u (0, 0)) (.cells c3 v (0, 0)) (((w.alloc (.cells c1 t)).alloc (.cells c2 u)).alloc (.cells c3 v)) :=
  ⟨(TB.new2 w c1 c2 t u).alloc _, heap_new_at _ _ (by simp)⟩
theorem TB3.bel (h : TB3 w0 B o1 o2 o3 w) : Below B w0 w := h.1.bel
theorem TB3.lt (h : TB3 w0 B o1 o2 o3 w) : B + 2 < w.heap.size := block_lt h.2
theorem TB3.below (h : TB3 w0 B o1 o2 o3 w) (hb : Below w.heap.size w w') : TB3 w0 B o1 o2 o3 w' := ⟨h.1.below hb, (hb.block _ (block_lt h.2)).trans h.2⟩
theorem TB3.alloc (h : TB3 w0 B o1 o2 o3 w) (o : Obj) : TB3 w0 B o1 o2 o3 (w.alloc o) := h.below (bel_alloc w o)
theorem TB3.grown {row : Option Nat} (h : TB3 w0 B o1 o2 o3 w) (hg : w.grownBy w' row) (hr : ∀ g, row = some g → B + 3 ≤ g) : TB3 w0 B o1 o2 o3 w' :=
  ⟨h.1.grown hg (fun g e => by have := hr g e; omega), (hg.block (B + 2) h.lt (fun e => by have := hr _ e.symm; omega)).trans h.2⟩
theorem TB3.set {cs : Array Value} {t : TypeId} (h : TB3 w0 B o1 o2 (.cells cs t (0, 0)) w) (i : Nat) (v : Value) : TB3 w0 B o1 o2 (.cells (cs.setIfInBounds i v) t (0, 0)) (w.setCell ⟨B + 2, i, none⟩ v) :=
  ⟨h.1.far (by omega) i v, box_set h.2 i v⟩
theorem TB3.c4 {t : TypeId} {v0 v1 v2 v3 : Value} (h : TB3 w0 B o1 o2 (.cells #[v0, v1, v2, v3] t (0, 0)) w) :
    w.cell? ⟨B + 2, 0, none⟩ = some v0 ∧ w.cell? ⟨B + 2, 1, none⟩ = some v1 ∧ w.cell? ⟨B + 2, 2, none⟩ = some v2 ∧ w.cell? ⟨B + 2, 3, none⟩ = some v3 ∧ ∀ i, w.frozen? ⟨B + 2, i, none⟩ = false :=
  ⟨cell_of_row w _ 0 _ _ _ h.2, cell_of_row w _ 1 _ _ _ h.2, cell_of_row w _ 2 _ _ _ h.2, cell_of_row w _ 3 _ _ _ h.2, fun i => block_frozen w _ i _ _ h.2⟩
end
theorem ownsRow_stays {w w' : World} {base n size : Nat} {t : TypeId} {v : Value} {xs : List Value} (h : w.ownsRow base t size v n xs) (hk : ∀ j, base ≤ j → j < w.heap.size → w'.heap[j]? = w.heap[j]?) : w'.ownsRow base t size v n xs := by
  rcases h with ⟨h0, h1 | ⟨g, cap, cur, hv, hb, hg, h2⟩⟩
  · exact ⟨h0, .inl h1⟩
  · exact ⟨h0, .inr ⟨g, cap, cur, hv, hb, (hk g hb (block_lt hg)).trans hg, h2⟩⟩
theorem Own.stays {k : IntKind} {e : TypeId} {w w' : World} {base : Nat} {v : Value} {xs : List Int} (h : Own k e w base v xs) (hk : ∀ j, base ≤ j → j < w.heap.size → w'.heap[j]? = w.heap[j]?) : Own k e w' base v xs := ownsRow_stays h hk
theorem L.Own.stays {k : Unit} {e : TypeId} {w w' : World} {base : Nat} {v : Value} {xs : List Bool} (h : L.Own k e w base v xs) (hk : ∀ j, base ≤ j → j < w.heap.size → w'.heap[j]? = w.heap[j]?) : L.Own k e w' base v xs := ownsRow_stays h hk
theorem WOwn.stays {w w' : World} {base : Nat} {v : Value} {fs : List (List Int)} (h : WOwn w base v fs) (hk : ∀ j, base ≤ j → j < w.heap.size → w'.heap[j]? = w.heap[j]?) : WOwn w' base v fs := by
  obtain ⟨L, h1, h2, h3⟩ := h
  exact ⟨L, h1, ownsRow_stays h2 hk, fun p hp => (h3 p hp).stays hk⟩
/-- A call returns an answer, whose lists are the call's own: they stay where the call's own blocks stay. -/
def OneR (w : World) (r : Rep) (e : Ending) (w' : World) : Prop :=
  ∃ (Bo Bs Bf : Option Addr) (mo ms mf eo es ef : Nat), e = .returned (.agg #[.int .i64 r.x, .slice Bo mo eo, .slice Bs ms es, .slice Bf mf ef]) ∧ (∀ w2 : World, (∀ j, w.heap.size ≤ j → j < w'.heap.size → w2.heap[j]? = w'.heap[j]?) → Repd w2 w2.heap.size r Bo Bs Bf mo ms mf) ∧ Below w.heap.size w w'
theorem wpk_files_wf {fl ys : List Int} (hw : ∀ x ∈ ys, (Lit.int .u8 x).wf = true) (k : Nat) : ∀ xs ∈ filesR fl ys k, ∀ x ∈ xs, (Lit.int .u16 x).wf = true := by
  intro xs hxs
  simp only [filesR, List.mem_map] at hxs
  obtain ⟨i, _, rfl⟩ := hxs
  exact wwords_wf _ (fun y hy => hw y (List.mem_of_mem_drop (List.mem_of_mem_take hy)))
theorem filesR_step (fl ys : List Int) (k : Nat) : filesR fl ys (k + 1) = filesR fl ys k ++ [fileAt fl ys k] := by simp [filesR, List.range_succ]
end Go.Proofs.YtcmbdhmhkfhjfaaGreat
namespace Go.Proofs.YtcmbdhmhkfhjfaaGreat
open Go.RowKit
set_option linter.unusedVariables false
set_option maxRecDepth 100000
attribute [local go_sem ↓] ldTag_fold stTag_fold bxTag_fold
attribute [local go_sem] bxTag_run

/-- Does a tag lie within addresses of a unit? -/
def inP (t : Tg) (un ki ad ct : Int) : Bool := decide (t.un = un ∧ t.ki = ki ∧ ad ≤ t.ad ∧ t.ad + widT t ≤ ad + ct)
theorem inP_iff {t : Tg} {un ki ad ct : Int} : inP t un ki ad ct = true ↔ t.un = un ∧ t.ki = ki ∧ ad ≤ t.ad ∧ t.ad + widT t ≤ ad + ct := decide_eq_true_iff
theorem inP_no {t : Tg} {un ki ad ct : Int} (h : ¬ (t.un = un ∧ t.ki = ki ∧ ad ≤ t.ad ∧ t.ad + widT t ≤ ad + ct)) : inP t un ki ad ct = false := decide_eq_false h

set_option maxHeartbeats 2000000 in
theorem refWithin_any (pu pk pa pc pe : Int) (Pt : Option Addr) (pn pm : Nat) (t : Tg) (w : World) (hpa : 0 ≤ pa ∧ pa ≤ 65536) (hpc : 0 ≤ pc ∧ pc ≤ 65536) (hta : 0 ≤ t.ad ∧ t.ad ≤ 65536) :
    Calls Tryz.prog 31 #[tgV t, .agg #[.int .i64 pu, .int .i64 pk, .int .i64 pa, .int .i64 pc, .int .i64 pe, .slice Pt pn pm]] w fun e w' => e = .returned (.bool (inP t pu pk pa pc)) ∧ Below w.heap.size w w' := by
  have hx0 := two_fst w (.cells (tgC t).toArray 51) (.cells #[.int .i64 pu, .int .i64 pk, .int .i64 pa, .int .i64 pc, .int .i64 pe, .slice Pt pn pm] 25)
  have hx1 := heap_alloc_two w (.cells (tgC t).toArray 51) (.cells #[.int .i64 pu, .int .i64 pk, .int .i64 pa, .int .i64 pc, .int .i64 pe, .slice Pt pn pm] 25)
  have bel0 := (bel_alloc w (.cells (tgC t).toArray 51)).alloc (by simp) (.cells #[.int .i64 pu, .int .i64 pk, .int .i64 pa, .int .i64 pc, .int .i64 pe, .slice Pt pn pm] 25)
  obtain ⟨a0, a1, a2, a3, a4⟩ := tgBox hx0
  obtain ⟨p0, p1, p2, p3, p4, p5⟩ := of6 hx1
  by_cases h1 : t.un = pu
  case neg =>
    have HB : Hid (inP t pu pk pa pc = false) := Lib.hid (inP_no (fun h => h1 h.1))
    have f1 : (t.un == pu) = false := beq_false_of_ne h1
    have g1 : (t.un != pu) = true := by simpa using h1
    have g2 : decide (t.un = pu) = false := decide_eq_false h1
    clear h1
    go_enter Tryz.func31, Tryz.ntmps31
    go_wp2
    go_quiet (fail)
    go_wp2
    go_ret
    exact ⟨by rw [HB.out]; rfl, below_drewN bel0 _⟩
  have f1 : (t.un == pu) = true := by simp [h1]
  by_cases h2 : t.ki = pk
  case neg =>
    have HB : Hid (inP t pu pk pa pc = false) := Lib.hid (inP_no (fun h => h2 h.2.1))
    have f2 : (t.ki == pk) = false := beq_false_of_ne h2
    have g2 : decide (t.ki = pk) = false := decide_eq_false h2
    clear h1 h2
    go_enter Tryz.func31, Tryz.ntmps31
    go_wp2
    go_quiet (fail)
    go_wp2
    go_ret
    exact ⟨by rw [HB.out]; rfl, below_drewN bel0 _⟩
  have f2 : (t.ki == pk) = true := by simp [h2]
  by_cases h3 : t.ad ≥ pa
  case neg =>
    have HB : Hid (inP t pu pk pa pc = false) := Lib.hid (inP_no (fun h => h3 h.2.2.1))
    have g3 : decide (t.ad ≥ pa) = false := decide_eq_false h3
    have g3' : decide (pa ≤ t.ad) = false := decide_eq_false h3
    clear h1 h2
    go_enter Tryz.func31, Tryz.ntmps31
    go_wp2
    go_quiet (fail)
    go_wp2
    go_ret
    exact ⟨by rw [HB.out]; rfl, below_drewN bel0 _⟩
  have hw := widT_le t
  have hwr1 : IntKind.i64.wrap (t.ad + widT t) = t.ad + widT t := by rw [IntKind.wrap_i64]; omega
  have hwr4 : IntKind.i64.wrap (pa + pc) = pa + pc := by rw [IntKind.wrap_i64]; omega
  have HB : Hid (inP t pu pk pa pc = decide (t.ad + widT t ≤ pa + pc)) := Lib.hid (by
    unfold inP
    by_cases h4 : t.ad + widT t ≤ pa + pc
    · rw [decide_eq_true h4, decide_eq_true ⟨h1, h2, h3, h4⟩]
    · rw [decide_eq_false h4, decide_eq_false (fun h => h4 h.2.2.2)])
  have HW : Hid (∀ W : World, Calls Tryz.prog 61 #[tgV t] W fun e w' => e = .returned (.int .i64 (widT t)) ∧ Below W.heap.size W w') := Lib.hid fun W => refWidth_t t W
  generalize widT t = wd at *
  clear h1 h2
  go_enter Tryz.func31, Tryz.ntmps31
  go_wp2
  clear a0 a1 a2 a3 a4 p0 p1 p2 p3 p4 p5
  have HK : Hid (∀ w9 : World, Below ((w.alloc (.cells (tgC t).toArray 51)).alloc (.cells #[.int .i64 pu, .int .i64 pk, .int .i64 pa, .int .i64 pc, .int .i64 pe, .slice Pt pn pm] 25)).heap.size ((w.alloc (.cells (tgC t).toArray 51)).alloc (.cells #[.int .i64 pu, .int .i64 pk, .int .i64 pa, .int .i64 pc, .int .i64 pe, .slice Pt pn pm] 25)) w9 → (Below ((w.alloc (.cells (tgC t).toArray 51)).alloc (.cells #[.int .i64 pu, .int .i64 pk, .int .i64 pa, .int .i64 pc, .int .i64 pe, .slice Pt pn pm] 25)).heap.size ((w.alloc (.cells (tgC t).toArray 51)).alloc (.cells #[.int .i64 pu, .int .i64 pk, .int .i64 pa, .int .i64 pc, .int .i64 pe, .slice Pt pn pm] 25)) w9 ∧ (w9.cell? ⟨w.heap.size, 1, none⟩ = some (.int .i64 t.un) ∧ w9.cell? ⟨w.heap.size, 2, none⟩ = some (.int .i64 t.ki) ∧ w9.cell? ⟨w.heap.size, 3, none⟩ = some (.int .i64 t.ad)) ∧ (ldTag (.pointer (some ⟨w.heap.size, 0, none⟩))).run Tryz.prog w9 = .ok (tgV t) w9 ∧ (w9.cell? ⟨w.heap.size + 1, 0, none⟩ = some (.int .i64 pu) ∧ w9.cell? ⟨w.heap.size + 1, 1, none⟩ = some (.int .i64 pk) ∧ w9.cell? ⟨w.heap.size + 1, 2, none⟩ = some (.int .i64 pa) ∧ w9.cell? ⟨w.heap.size + 1, 3, none⟩ = some (.int .i64 pc)))) := Lib.hid fun w9 hw => ⟨hw, ⟨(tgBox (keepB hw hx0)).2.1, (tgBox (keepB hw hx0)).2.2.1, (tgBox (keepB hw hx0)).2.2.2.1⟩, tgBox_ld (keepB hw hx0), ⟨(of6 (keepB hw hx1)).1, (of6 (keepB hw hx1)).2.1, (of6 (keepB hw hx1)).2.2.1, (of6 (keepB hw hx1)).2.2.2.1⟩⟩
  generalize (w.alloc (.cells (tgC t).toArray 51)).alloc (.cells #[.int .i64 pu, .int .i64 pk, .int .i64 pa, .int .i64 pc, .int .i64 pe, .slice Pt pn pm] 25) = w0 at *
  have belh : ∀ w9 : World, (Below w0.heap.size w0 w9 ∧ (w9.cell? ⟨w.heap.size, 1, none⟩ = some (.int .i64 t.un) ∧ w9.cell? ⟨w.heap.size, 2, none⟩ = some (.int .i64 t.ki) ∧ w9.cell? ⟨w.heap.size, 3, none⟩ = some (.int .i64 t.ad)) ∧ (ldTag (.pointer (some ⟨w.heap.size, 0, none⟩))).run Tryz.prog w9 = .ok (tgV t) w9 ∧ (w9.cell? ⟨w.heap.size + 1, 0, none⟩ = some (.int .i64 pu) ∧ w9.cell? ⟨w.heap.size + 1, 1, none⟩ = some (.int .i64 pk) ∧ w9.cell? ⟨w.heap.size + 1, 2, none⟩ = some (.int .i64 pa) ∧ w9.cell? ⟨w.heap.size + 1, 3, none⟩ = some (.int .i64 pc))) → Below w0.heap.size w0 w9 := fun w9 h => h.1
  go_region_held3 (fun w9 => Below w0.heap.size w0 w9 ∧ (w9.cell? ⟨w.heap.size, 1, none⟩ = some (.int .i64 t.un) ∧ w9.cell? ⟨w.heap.size, 2, none⟩ = some (.int .i64 t.ki) ∧ w9.cell? ⟨w.heap.size, 3, none⟩ = some (.int .i64 t.ad)) ∧ (ldTag (.pointer (some ⟨w.heap.size, 0, none⟩))).run Tryz.prog w9 = .ok (tgV t) w9 ∧ (w9.cell? ⟨w.heap.size + 1, 0, none⟩ = some (.int .i64 pu) ∧ w9.cell? ⟨w.heap.size + 1, 1, none⟩ = some (.int .i64 pk) ∧ w9.cell? ⟨w.heap.size + 1, 2, none⟩ = some (.int .i64 pa) ∧ w9.cell? ⟨w.heap.size + 1, 3, none⟩ = some (.int .i64 pc)))
    ((refine HK.out _ ?_
      repeat' (first
        | with_reducible exact Below.refl _ _
        | with_reducible exact bel5
        | with_reducible exact belh _ (by assumption)
        | with_reducible apply below_drew
        | with_reducible apply below_drewN
        | fail)))
    (first
      | (go_at_call 61; refine (HW.out _).mono ?_; rintro e w5 ⟨rfl, b5⟩; have bel5 : Below w0.heap.size w0 w5 := Below.trans (belh _ (by assumption)) (b5.mono (Below.size (belh _ (by assumption)))))
      | fail)
  have BEL := Lib.hid (bel0.trans (bel5.mono bel0.size))
  clear HK belh bel5 hx0 hx1 bel0 HW
  go_wp2
  go_ret
  exact ⟨by rw [HB.out]; try rfl, BEL.out⟩
end Go.Proofs.YtcmbdhmhkfhjfaaGreat
namespace Go.Proofs.YtcmbdhmhkfhjfaaGreat
open Go.RowKit
set_option linter.unusedVariables false
set_option maxRecDepth 100000
attribute [local go_sem ↓] ldTag_fold stTag_fold bxTag_fold
attribute [local go_sem] bxTag_run

def bitK (k : Int) : Bool := decide (k = 1 ∨ k = 2)
theorem bitK_yes {k : Int} (h : k = 1 ∨ k = 2) : bitK k = true := decide_eq_true h
theorem bitK_no {k : Int} (h : ¬ (k = 1 ∨ k = 2)) : bitK k = false := decide_eq_false h
theorem bits_any (k : Int) (w : World) : Calls Tryz.prog 52 #[.int .i64 k] w fun e w' => e = .returned (.bool (bitK k)) ∧ w' = w := by
  by_cases h1 : k = 1
  · subst h1
    rw [show bitK 1 = true from rfl]
    go_enter Tryz.func52, Tryz.ntmps52
    go_wp2
    go_ret
    exact ⟨rfl, rfl⟩
  · have e1 : (k == 1) = false := beq_false_of_ne h1
    by_cases h2 : k = 2
    · subst h2
      rw [show bitK 2 = true from rfl]
      go_enter Tryz.func52, Tryz.ntmps52
      go_wp2
      go_ret
      exact ⟨rfl, rfl⟩
    · have e2 : (k == 2) = false := beq_false_of_ne h2
      rw [bitK_no (by omega)]
      go_enter Tryz.func52, Tryz.ntmps52
      go_wp2
      go_ret
      exact ⟨rfl, rfl⟩
theorem most_any (k : Int) (w : World) : Calls Tryz.prog 75 #[.int .i64 k] w fun e w' => e = .returned (.int .i64 (mostK k)) ∧ w' = w := by
  have hb := bits_any k w
  by_cases h : k = 1 ∨ k = 2
  · rw [bitK_yes h] at hb
    rw [show mostK k = 2000 from if_pos h]
    clear h
    go_enter Tryz.func75, Tryz.ntmps75
    go_wp2_with (go_at_call 52; refine hb.mono ?_; rintro e w' ⟨rfl, rfl⟩)
    go_ret
    exact ⟨rfl, rfl⟩
  · rw [bitK_no h] at hb
    rw [show mostK k = 125 from if_neg h]
    clear h
    go_enter Tryz.func75, Tryz.ntmps75
    go_wp2_with (go_at_call 52; refine hb.mono ?_; rintro e w' ⟨rfl, rfl⟩)
    go_ret
    exact ⟨rfl, rfl⟩
theorem bitValue_any (b : Bool) (w : World) : Calls Tryz.prog 53 #[.bool b] w fun e w' => e = .returned (.int .i64 (if b then 1 else 0)) ∧ w' = w := by
  cases b <;> (go_enter Tryz.func53, Tryz.ntmps53; go_wp2; go_ret; exact ⟨rfl, rfl⟩)

/-- Does a tag stand where a poll reads? -/
def bankB (t : Tg) (pu pk : Int) : Bool := decide (t.un = pu ∧ t.ki = pk)
theorem bankB_no {t : Tg} {pu pk : Int} (h : ¬ (t.un = pu ∧ t.ki = pk)) : bankB t pu pk = false := decide_eq_false h
theorem bankB_yes {t : Tg} {pu pk : Int} (h1 : t.un = pu) (h2 : t.ki = pk) : bankB t pu pk = true := decide_eq_true ⟨h1, h2⟩
theorem inBank_any (pu pk pa pc pe : Int) (Pt : Option Addr) (pn pm : Nat) (t : Tg) (w : World) : Calls Tryz.prog 51 #[tgV t, .agg #[.int .i64 pu, .int .i64 pk, .int .i64 pa, .int .i64 pc, .int .i64 pe, .slice Pt pn pm]] w fun e w' => e = .returned (.bool (bankB t pu pk)) ∧ Below w.heap.size w w' := by
  have hx0 := two_fst w (.cells (tgC t).toArray 51) (.cells #[.int .i64 pu, .int .i64 pk, .int .i64 pa, .int .i64 pc, .int .i64 pe, .slice Pt pn pm] 25)
  have hx1 := heap_alloc_two w (.cells (tgC t).toArray 51) (.cells #[.int .i64 pu, .int .i64 pk, .int .i64 pa, .int .i64 pc, .int .i64 pe, .slice Pt pn pm] 25)
  have bel0 := (bel_alloc w (.cells (tgC t).toArray 51)).alloc (by simp) (.cells #[.int .i64 pu, .int .i64 pk, .int .i64 pa, .int .i64 pc, .int .i64 pe, .slice Pt pn pm] 25)
  obtain ⟨a0, a1, a2, a3, a4⟩ := tgBox hx0
  obtain ⟨p0, p1, p2, p3, p4, p5⟩ := of6 hx1
  clear hx0 hx1 a0 a3 a4 p2 p3 p4 p5
  by_cases h1 : t.un = pu
  · by_cases h2 : t.ki = pk
    · rw [bankB_yes h1 h2]
      have f1 : (t.un == pu) = true := by simp [h1]
      have f2 : (t.ki == pk) = true := by simp [h2]
      clear h1 h2
      go_enter Tryz.func51, Tryz.ntmps51
      go_wp2
      go_ret
      exact ⟨rfl, bel0⟩
    · rw [bankB_no (fun h => h2 h.2)]
      have f1 : (t.un == pu) = true := by simp [h1]
      have f2 : (t.ki == pk) = false := beq_false_of_ne h2
      clear h1 h2
      go_enter Tryz.func51, Tryz.ntmps51
      go_wp2
      go_ret
      exact ⟨rfl, bel0⟩
  · rw [bankB_no (fun h => h1 h.1)]
    have f1 : (t.un == pu) = false := beq_false_of_ne h1
    clear h1
    go_enter Tryz.func51, Tryz.ntmps51
    go_wp2
    go_ret
    exact ⟨rfl, bel0⟩
end Go.Proofs.YtcmbdhmhkfhjfaaGreat
namespace Go.Proofs.YtcmbdhmhkfhjfaaGreat
open Go.RowKit
set_option linter.unusedVariables false
set_option maxRecDepth 100000
attribute [local go_sem ↓] ldTag_fold stTag_fold bxTag_fold
attribute [local go_sem] bxTag_run

/-- A tag's scale is loaded in one step. -/
def ldSc (v : Value) : Sem Value := Instr.loadAt 45 v
theorem ldSc_fold (v : Value) : Instr.loadAt 45 v = ldSc v := rfl
def scC (t : Tg) : List Value := [.bool t.we, .bool t.sg, .bool t.sw, .int .i64 t.mu, .int .i64 t.di, .int .i64 t.aa]
theorem size_sc : (Tryz.prog.info? 45).map (·.size) = some 6 := by kernel_rfl
theorem ldSc_run {w : World} {g : Nat} {t : Tg} {T : TypeId} (h : w.heap[g]? = some (.cells (tgC t).toArray T (0, 0))) : (ldSc (.pointer (some ⟨g, 5, none⟩))).run Tryz.prog w = .ok (.agg #[.bool t.we, .bool t.sg, .bool t.sw, .int .i64 t.mu, .int .i64 t.di, .int .i64 t.aa]) w := by
  refine run_loadAt_mid w g 5 _ (scC t) _ (fun j v hv => ?_) Tryz.underlying45 rfl size_sc
  have hr := rangeB h
  have hj : j < 6 := (List.getElem?_eq_some_iff.1 hv).1
  rw [← hr (5 + j) v (by obtain ⟨nm, un, ki, ad, ev, we, sg, sw, mu, di, aa, de, qu, ul, uh, la, lo, hi, hy⟩ := t; rcases j with _ | _ | _ | _ | _ | _ | j <;> first | exact hv | omega)]
  rw [Nat.zero_add]
attribute [local go_sem ↓] ldSc_fold

/-- What an answer says of a tag. -/
def valT (t : Tg) (pa : Int) (on : List Bool) (set : List Int) : Int :=
  if t.ki = 1 ∨ t.ki = 2 then (if L.nth on (t.ad - pa).toNat = true then 1 else 0) else valN t.sc (rawN t.sc ((set.drop (t.ad - pa).toNat).take (widT t).toNat))

set_option maxHeartbeats 2000000 in
theorem refValue10_bits (pu pk pa pc pe : Int) (Pt : Option Addr) (pn pm : Nat) (x : Int) (Bo Bs Bf : Option Addr) (mo ms mf eo es ef : Nat) (on : List Bool) (t : Tg) (k : Nat) (w : World) (hr : L.Row () w w.heap.size Bo on) (hm : on.length = mo) (hk : t.ad - pa = k) (hlt : k < on.length) (hki : t.ki = 1 ∨ t.ki = 2) (hb : mo ≤ 4611686018427387904) :
    Calls Tryz.prog 32 #[tgV t, .agg #[.int .i64 pu, .int .i64 pk, .int .i64 pa, .int .i64 pc, .int .i64 pe, .slice Pt pn pm], .agg #[.int .i64 x, .slice Bo mo eo, .slice Bs ms es, .slice Bf mf ef]] w fun e w' => e = .returned (.int .i64 (if L.nth on k = true then 1 else 0)) ∧ Below w.heap.size w w' := by
  have t3 := Box3.new w (.cells (tgC t).toArray 51) (.cells #[.int .i64 pu, .int .i64 pk, .int .i64 pa, .int .i64 pc, .int .i64 pe, .slice Pt pn pm] 25) (.cells #[.int .i64 x, .slice Bo mo eo, .slice Bs ms es, .slice Bf mf ef] 30)
  obtain ⟨b, o, rfl, hb1, hc1⟩ := (hr.below t3.bel).at_ hlt
  obtain ⟨a0, a1, a2, a3, a4⟩ := tgBox t3.1
  obtain ⟨p0, p1, p2, p3, p4, p5⟩ := of6 t3.2.1
  have r1 := cell_of_row _ _ 1 _ _ _ t3.2.2.1
  have bel := t3.bel
  have hwr : IntKind.i64.wrap (t.ad - pa) = k := by rw [IntKind.wrap_i64]; omega
  have hkm : (k : Int) < mo := by omega
  have hk0 : (0 : Int) ≤ k := by omega
  generalize L.nth on k = v at *
  clear t3 hr hlt hm hk
  have hk1 : ((t.ki == 1) = true) ∨ ((t.ki == 1) = false ∧ (t.ki == 2) = true) := by
    rcases hki with h | h
    · exact .inl (by simp [h])
    · exact .inr (by simp [h])
  clear hki
  rcases hk1 with hk1 | ⟨hk1, hk2⟩
  · cases v
    · go_enter Tryz.func32, Tryz.ntmps32
      go_wp2
      go_ret
      exact ⟨rfl, bel⟩
    · go_enter Tryz.func32, Tryz.ntmps32
      go_wp2
      go_ret
      exact ⟨rfl, bel⟩
  · cases v
    · go_enter Tryz.func32, Tryz.ntmps32
      go_wp2
      go_ret
      exact ⟨rfl, bel⟩
    · go_enter Tryz.func32, Tryz.ntmps32
      go_wp2
      go_ret
      exact ⟨rfl, bel⟩

theorem refRaw_t (t : Tg) (A : Option Addr) (n c : Nat) (xs : List Int) (w : World) (hr : Row .u16 w w.heap.size A xs) (hn : xs.length = n) (hb : n ≤ 1000000) : Calls Tryz.prog 62 #[.agg #[.bool t.we, .bool t.sg, .bool t.sw, .int .i64 t.mu, .int .i64 t.di, .int .i64 t.aa], .slice A n c] w fun e w' => e = .returned (.tuple #[.int .i64 (rawN t.sc xs), .int .i64 (rawE t.sc xs)]) ∧ Below w.heap.size w w' :=
  refRaw_any t.we t.sg t.sw t.mu t.di t.aa A n c xs w hr hn hb
theorem refValue_t (t : Tg) (n : Int) (w : World) : Calls Tryz.prog 63 #[.agg #[.bool t.we, .bool t.sg, .bool t.sw, .int .i64 t.mu, .int .i64 t.di, .int .i64 t.aa], .int .i64 n] w fun e w' => e = .returned (.tuple #[.int .i64 (valN t.sc n), .int .i64 (valE t.sc n)]) ∧ Below w.heap.size w w' :=
  refValue_any t.we t.sg t.sw t.mu t.di t.aa n w
/-- A piece of a row. -/
theorem Row.piece {k : IntKind} {w : World} {B b o : Nat} {xs : List Int} (h : Row k w B (some ⟨b, o, none⟩) xs) (i m : Nat) : Row k w B (some ⟨b, o + i, none⟩) ((xs.drop i).take m) := (h.drop i).front m
set_option maxHeartbeats 4000000 in
theorem refValue10_words (pu pk pa pc pe : Int) (Pt : Option Addr) (pn pm : Nat) (x : Int) (Bo Bs Bf : Option Addr) (mo ms mf eo es ef : Nat) (set : List Int) (t : Tg) (k m : Nat) (w : World) (hr : Row .u16 w w.heap.size Bs set) (hm : set.length = ms) (hk : t.ad - pa = k) (hwd : widT t = m) (hlt : k + m ≤ set.length) (hms : ms ≤ es) (h1 : t.ki ≠ 1) (h2 : t.ki ≠ 2) (hb : es ≤ 9223372036854775807) :
    Calls Tryz.prog 32 #[tgV t, .agg #[.int .i64 pu, .int .i64 pk, .int .i64 pa, .int .i64 pc, .int .i64 pe, .slice Pt pn pm], .agg #[.int .i64 x, .slice Bo mo eo, .slice Bs ms es, .slice Bf mf ef]] w fun e w' => e = .returned (.int .i64 (valN t.sc (rawN t.sc ((set.drop k).take m)))) ∧ Below w.heap.size w w' := by
  have hm12 := widT_le t
  have t3 := Box3.new w (.cells (tgC t).toArray 51) (.cells #[.int .i64 pu, .int .i64 pk, .int .i64 pa, .int .i64 pc, .int .i64 pe, .slice Pt pn pm] 25) (.cells #[.int .i64 x, .slice Bo mo eo, .slice Bs ms es, .slice Bf mf ef] 30)
  have HR := Lib.hid ((hr.below t3.bel).more t3.bel.size)
  obtain ⟨b, o, rfl, hb1, hc1⟩ := hr.at_ (i := k) (by omega)
  obtain ⟨a0, a1, a2, a3, a4⟩ := tgBox t3.1
  obtain ⟨p0, p1, p2, p3, p4, p5⟩ := of6 t3.2.1
  have hwr : IntKind.i64.wrap (t.ad - pa) = k := by rw [IntKind.wrap_i64]; omega
  have hwr2 : IntKind.i64.wrap ((k : Int) + (m : Int)) = (k : Int) + m := by rw [IntKind.wrap_i64]; omega
  have f1 : (t.ki == 1) = false := beq_false_of_ne h1
  have f2 : (t.ki == 2) = false := beq_false_of_ne h2
  have HW : Hid (∀ W : World, Calls Tryz.prog 61 #[tgV t] W fun e w' => e = .returned (.int .i64 (m : Int)) ∧ Below W.heap.size W w') := Lib.hid fun W => by rw [← hwd]; exact refWidth_t t W
  have HL : Hid (((set.drop k).take m).length = m) := Lib.hid (by rw [List.length_take, List.length_drop]; omega)
  have hkm : (k : Int) + m ≤ es := by omega
  have hk0 : (0 : Int) ≤ k := by omega
  have hm1 : (1 : Int) ≤ m := by omega
  have hkm2 : (k : Int) ≤ (k : Int) + m := by omega
  have hkm3 : (0 : Int) ≤ (k : Int) + m := by omega
  have hkm4 : ((k : Int) + m).toNat = k + m := by omega
  have hke : (k : Int) ≤ es := by omega
  have hke2 : ¬ es = k := by omega
  have hm2 : m ≤ 2 := by omega
  have hkes : k < es := by omega
  have hkmn : k + m ≤ es := by omega
  clear hr hc1 hb1 hm hk hwd hlt hms hm12 h1 h2
  have t3' := Lib.hid t3
  clear t3
  go_enter Tryz.func32, Tryz.ntmps32
  go_wp2
  clear a0 a1 a2 a3 a4 p0 p1 p2 p3 p4 p5
  generalize ((w.alloc (.cells (tgC t).toArray 51)).alloc (.cells #[.int .i64 pu, .int .i64 pk, .int .i64 pa, .int .i64 pc, .int .i64 pe, .slice Pt pn pm] 25)).alloc (.cells #[.int .i64 x, .slice Bo mo eo, .slice (some ⟨b, o, none⟩) ms es, .slice Bf mf ef] 30) = w0 at *
  have HK : Hid (∀ w9 : World, Below w0.heap.size w0 w9 → (Below w0.heap.size w0 w9 ∧ (ldSc (.pointer (some ⟨w.heap.size, 5, none⟩))).run Tryz.prog w9 = .ok (.agg #[.bool t.we, .bool t.sg, .bool t.sw, .int .i64 t.mu, .int .i64 t.di, .int .i64 t.aa]) w9 ∧ (ldTag (.pointer (some ⟨w.heap.size, 0, none⟩))).run Tryz.prog w9 = .ok (tgV t) w9 ∧ w9.cell? ⟨w.heap.size + 1 + 1, 2, none⟩ = some (.slice (some ⟨b, o, none⟩) ms es))) := Lib.hid fun w9 hw => ⟨hw, ldSc_run (keepB hw t3'.out.1), tgBox_ld (keepB hw t3'.out.1), cell_of_row _ _ 2 _ _ _ (keepB hw t3'.out.2.2.1)⟩
  have belh : ∀ w9 : World, (Below w0.heap.size w0 w9 ∧ (ldSc (.pointer (some ⟨w.heap.size, 5, none⟩))).run Tryz.prog w9 = .ok (.agg #[.bool t.we, .bool t.sg, .bool t.sw, .int .i64 t.mu, .int .i64 t.di, .int .i64 t.aa]) w9 ∧ (ldTag (.pointer (some ⟨w.heap.size, 0, none⟩))).run Tryz.prog w9 = .ok (tgV t) w9 ∧ w9.cell? ⟨w.heap.size + 1 + 1, 2, none⟩ = some (.slice (some ⟨b, o, none⟩) ms es)) → Below w0.heap.size w0 w9 := fun w9 h => h.1
  go_region_held3 (fun w9 => Below w0.heap.size w0 w9 ∧ (ldSc (.pointer (some ⟨w.heap.size, 5, none⟩))).run Tryz.prog w9 = .ok (.agg #[.bool t.we, .bool t.sg, .bool t.sw, .int .i64 t.mu, .int .i64 t.di, .int .i64 t.aa]) w9 ∧ (ldTag (.pointer (some ⟨w.heap.size, 0, none⟩))).run Tryz.prog w9 = .ok (tgV t) w9 ∧ w9.cell? ⟨w.heap.size + 1 + 1, 2, none⟩ = some (.slice (some ⟨b, o, none⟩) ms es))
    ((refine HK.out _ ?_
      repeat' (first
        | with_reducible exact Below.refl _ _
        | with_reducible exact bel7
        | with_reducible exact bel6
        | with_reducible exact bel5
        | with_reducible exact belh _ (by assumption)
        | with_reducible apply below_drew
        | with_reducible apply below_drewN
        | fail)))
    (first
      | (go_at_call 61; refine (HW.out _).mono ?_; rintro e w5 ⟨rfl, b5⟩; have bel5 : Below w0.heap.size w0 w5 := Below.trans (belh _ (by assumption)) (b5.mono (Below.size (belh _ (by assumption)))))
      | (go_at_call 24; have bh := belh _ (by assumption); refine (W.copy_u16 _ m _ ((set.drop k).take m) _ (((HR.out.below bh).more bh.size).piece k m) HL.out (by omega)).mono ?_; rintro e w6 ⟨v6, rfl, o6, b6⟩; have bel6 : Below w0.heap.size w0 w6 := Below.trans bh (b6.mono bh.size); obtain ⟨A6, c6, rfl, r6, _, _⟩ := o6.row (((HR.out.piece k m)).1); rw [HL.out])
      | (go_at_call 62; refine (refRaw_t t A6 m c6 _ _ (by assumption) HL.out (by omega)).mono ?_; rintro e w7 ⟨rfl, b7⟩; have bel7 : Below w0.heap.size w0 w7 := Below.trans (belh _ (by assumption)) (b7.mono (Below.size (belh _ (by assumption)))))
      | fail)
  have h7 := keepB bel7 t3'.out.1
  have hsc := ldSc_run h7
  have BEL := Lib.hid (t3'.out.bel.trans (bel7.mono t3'.out.bel.size))
  go_wp2_with fail
  refine (refValue_t t _ _).mono ?_
  rintro e w8 ⟨rfl, b8⟩
  go_wp2
  go_ret
  exact ⟨rfl, BEL.out.trans (b8.mono BEL.out.size)⟩
end Go.Proofs.YtcmbdhmhkfhjfaaGreat
