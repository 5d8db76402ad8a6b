/-
  Texts of the proof of PlanReads, joined.
-/
import Derived.Test.YtcmbdhmhkfhjfaaJPlanReadsE
import Derived.Test.YtcmbdhmhkfhjfaaJPlanReadsC
import Derived.Test.YtcmbdhmhkfhjfaaProg
import Derived.Test.YtcmbdhmhkfhjfaaJPlanReadsA
import Derived.Test.YtcmbdhmhkfhjfaaJPlanReadsB
import Derived.Laws.CopyOwn
import Derived.IntWalk
import Derived.Deep.RegionLaw
import Derived.Deep.RegionWith
import Derived.StillTailTactics
import Derived.Deep.RegionHeld3
import Derived.Deep.AppendLies
import Derived.Laws.StructEq
import Derived.Laws.AppendOwn
import Derived.Test.YtcmbdhmhkfhjfaaRows
import Derived.Shelf.SlGeneric
import Derived.Shelf.SlSortCmp.NoneTotal
import Derived.Shelf.SlicesG.Cmp
import Derived.Ground.SlsfProg
import Derived.Ground.SlgcProg
namespace Go.Proofs.Ytcmbdhmhkfhjfaa
open Go.RowKit
set_option linter.unusedVariables false

/-- How many words the i-th part asks for, and where its head stands in the answer. -/
def lenF (fl : List Int) (i : Nat) : Nat := (nth fl (3 * i + 2)).toNat
def posF (fl : List Int) : Nat → Nat
  | 0 => 2
  | k + 1 => posF fl k + (2 + 2 * lenF fl k)
def fileAt (fl ys : List Int) (i : Nat) : List Int := wwords ((ys.drop (posF fl i + 2)).take (2 * lenF fl i))
def headAt (fl ys : List Int) (i : Nat) : Bool := decide (nth ys (posF fl i) = ((1 + 2 * lenF fl i : Nat) : Int)) && decide (nth ys (posF fl i + 1) = 6)
def filesR (fl ys : List Int) (k : Nat) : List (List Int) := (List.range k).map (fileAt fl ys)
def headsR (fl ys : List Int) : Nat → Bool
  | 0 => true
  | k + 1 => headsR fl ys k && headAt fl ys k
/-- How many bytes each answer to a right request has that is no exception. -/
def sizeR (q : Req) : Nat := if q.c = 1 ∨ q.c = 2 then 2 + need q.n.toNat else if q.c = 3 ∨ q.c = 4 then 2 + 2 * q.n.toNat else if q.c = 20 then posF q.fl (q.fl.length / 3) else 5
/-- Are bytes of the right code and size an answer, and which one? -/
def rdOkR (q : Req) (ys : List Int) : Bool :=
  if q.c = 1 ∨ q.c = 2 then decide (nth ys 1 = ((need q.n.toNat : Nat) : Int)) && !spareB (ys.drop 2) q.n.toNat
  else if q.c = 3 ∨ q.c = 4 then decide (nth ys 1 = ((2 * q.n.toNat : Nat) : Int))
  else if q.c = 20 then decide (nth ys 1 = ((ys.length - 2 : Nat) : Int)) && headsR q.fl ys (q.fl.length / 3)
  else decide (ys = (putL q).take 5)
def rdR (q : Req) (ys : List Int) : Rep :=
  if q.c = 1 ∨ q.c = 2 then ⟨0, unpk (ys.drop 2) q.n.toNat, [], []⟩
  else if q.c = 3 ∨ q.c = 4 then ⟨0, [], wwords (ys.drop 2), []⟩
  else if q.c = 20 then ⟨0, [], [], filesR q.fl ys (q.fl.length / 3)⟩
  else Rep.zero
/-- What is wrong with bytes as an answer, and what they say. -/
def getRE (q : Req) (ys : List Int) : Int :=
  if chkQ q ≠ 0 then chkQ q else if ys.length = 0 then 1
  else if nth ys 0 = q.c + 128 then (if ys.length < 2 then 1 else if 2 < ys.length then 2 else if 1 ≤ nth ys 1 ∧ nth ys 1 ≤ 127 then 0 else 3)
  else if nth ys 0 = q.c then (if ys.length < sizeR q then 1 else if sizeR q < ys.length then 2 else if rdOkR q ys = true then 0 else 4)
  else 20
def getR (q : Req) (ys : List Int) : Rep := if getRE q ys ≠ 0 then Rep.zero else if nth ys 0 = q.c + 128 then ⟨nth ys 1, [], [], []⟩ else rdR q ys

theorem right_bits {q : Req} (hk : chkQ q = 0) (hc : q.c = 1 ∨ q.c = 2) : 1 ≤ q.n ∧ q.n ≤ 2000 := by
  have hz := (chk_zero hk).2.2.2.1
  rcases hc with hc | hc <;> rw [hc] at hz <;> simp [many, mm] at hz <;> omega
theorem right_words {q : Req} (hk : chkQ q = 0) (hc : q.c = 3 ∨ q.c = 4) : 1 ≤ q.n ∧ q.n ≤ 125 := by
  have hz := (chk_zero hk).2.2.2.1
  rcases hc with hc | hc <;> rw [hc] at hz <;> simp [many, mm] at hz <;> omega
theorem posF_sum (fl : List Int) (k : Nat) (h : ∀ i, i < k → 0 ≤ nth fl (3 * i + 2)) : (posF fl k : Int) = 2 + sumTo fl k := by
  induction k with
  | zero => rfl
  | succ k ih =>
    have := ih (fun i hi => h i (by omega))
    have := h k (by omega)
    rw [posF, sumTo, lenF]
    omega
theorem posF_two (fl : List Int) (k : Nat) : 2 ≤ posF fl k := by
  induction k with
  | zero => exact Nat.le_refl _
  | succ k ih => rw [posF]; omega
theorem posF_lt (fl : List Int) {i k : Nat} (h : i < k) : posF fl i + (2 + 2 * lenF fl i) ≤ posF fl k := by
  induction k with
  | zero => omega
  | succ k ih =>
    rw [posF]
    rcases Nat.lt_succ_iff_lt_or_eq.1 h with h1 | h1
    · have := ih h1; omega
    · subst h1; omega
theorem right_files {q : Req} (hk : chkQ q = 0) (hc : q.c = 20) : (1 ≤ q.fl.length / 3 ∧ q.fl.length / 3 ≤ 35) ∧ (∀ i, i < q.fl.length / 3 → 1 ≤ nth q.fl (3 * i + 2)) ∧ posF q.fl (q.fl.length / 3) ≤ 247 := by
  have hz := chk_zero hk
  obtain ⟨hok, hs⟩ := hz.2.2.2.2.1 hc
  have hm := hz.2.2.2.1
  rw [hc] at hm
  have h1 : ∀ i, i < q.fl.length / 3 → 1 ≤ nth q.fl (3 * i + 2) := fun i hi => ((inPl_iff _ _ _).1 (allOk_le hok i hi)).2.2.1
  have h2 := posF_sum q.fl (q.fl.length / 3) (fun i hi => by have := h1 i hi; omega)
  refine ⟨by simp [many, mm] at hm; omega, h1, by omega⟩

theorem filesR_length (fl ys : List Int) (k : Nat) : (filesR fl ys k).length = k := by simp [filesR]
theorem filesR_nth (fl ys : List Int) (k i : Nat) (h : i < k) : nthF (filesR fl ys k) i = fileAt fl ys i := by
  simp [nthF, filesR, List.getD_eq_getElem?_getD, h]
theorem fileAt_length (fl ys : List Int) (i : Nat) (h : posF fl i + (2 + 2 * lenF fl i) ≤ ys.length) : (fileAt fl ys i).length = lenF fl i := by
  rw [fileAt, wwords_length, List.length_take, List.length_drop]; omega
theorem headsR_le {fl ys : List Int} {n : Nat} (h : headsR fl ys n = true) : ∀ i, i < n → headAt fl ys i = true := by
  induction n with
  | zero => intro i hi; omega
  | succ n ih =>
    rw [headsR, Bool.and_eq_true] at h
    intro i hi
    rcases Nat.lt_succ_iff_lt_or_eq.1 hi with h1 | h1
    · exact ih h.1 i h1
    · subst h1; exact h.2
theorem headsR_of {fl ys : List Int} {n : Nat} (h : ∀ i, i < n → headAt fl ys i = true) : headsR fl ys n = true := by
  induction n with
  | zero => rfl
  | succ n ih => rw [headsR, Bool.and_eq_true]; exact ⟨ih fun i hi => h i (by omega), h n (by omega)⟩
theorem headsR_no {fl ys : List Int} {n i : Nat} (hi : i < n) (h : headAt fl ys i = false) : headsR fl ys n = false := by
  cases hh : headsR fl ys n with
  | false => rfl
  | true => rw [headsR_le hh i hi] at h; cases h
theorem headAt_iff {fl ys : List Int} {i : Nat} : headAt fl ys i = true ↔ nth ys (posF fl i) = ((1 + 2 * lenF fl i : Nat) : Int) ∧ nth ys (posF fl i + 1) = 6 := by
  rw [headAt, Bool.and_eq_true, decide_eq_true_eq, decide_eq_true_eq]

theorem drop_two {ys : List Int} {p : Nat} (h : p + 2 ≤ ys.length) : ys.drop p = nth ys p :: nth ys (p + 1) :: ys.drop (p + 2) := by
  rw [List.drop_eq_getElem_cons (by omega), List.drop_eq_getElem_cons (by omega), nth_eq ys p (by omega), nth_eq ys (p + 1) (by omega)]
theorem take_cut (l : List Int) (a b : Nat) : l.take (a + b) = l.take a ++ (l.drop a).take b := by
  rw [List.take_add]
/-- The files that bytes say become these bytes. -/
theorem fbytes_filesR (fl ys : List Int) (hw : ∀ x ∈ ys, (Lit.int .u8 x).wf = true) (n k : Nat) (hk : k ≤ n) (hh : headsR fl ys k = true) (hl : posF fl k ≤ ys.length) : fbytes (filesR fl ys n) k = (ys.drop 2).take (posF fl k - 2) := by
  induction k with
  | zero => rfl
  | succ k ih =>
    rw [posF] at hl
    have h2 := posF_two fl k
    rw [headsR, Bool.and_eq_true] at hh
    obtain ⟨e1, e2⟩ := headAt_iff.1 hh.2
    have hX : wbytes (fileAt fl ys k) = (ys.drop (posF fl k + 2)).take (2 * lenF fl k) := by
      rw [fileAt, wbytes_wwords _ (fun x hx => hw x (List.mem_of_mem_drop (List.mem_of_mem_take hx))) (by rw [List.length_take, List.length_drop]; omega)]
    rw [fbytes, ih (by omega) hh.1 (by omega), filesR_nth _ _ _ _ (by omega), fileAt_length _ _ _ (by omega), hX, posF, show posF fl k + (2 + 2 * lenF fl k) - 2 = (posF fl k - 2) + (2 + 2 * lenF fl k) by omega, take_cut, List.drop_drop, show 2 + (posF fl k - 2) = posF fl k by omega, List.append_assoc, drop_two (p := posF fl k) (by omega), e1, e2,
      show 2 + 2 * lenF fl k = 2 * lenF fl k + 1 + 1 by omega, List.take_succ_cons, List.take_succ_cons]
    rfl
theorem fbytes_len (fl : List Int) (fs : List (List Int)) (k : Nat) (h : ∀ i, i < k → (nthF fs i).length = lenF fl i) : (fbytes fs k).length + 2 = posF fl k := by
  induction k with
  | zero => rfl
  | succ k ih =>
    have := ih (fun i hi => h i (by omega))
    have := h k (by omega)
    rw [fbytes, posF, List.length_append, List.length_append, wbytes_length]
    simp only [List.length_cons, List.length_nil]
    omega
theorem fbytes_split (fs : List (List Int)) (n i : Nat) (h : i < n) : ∃ rest, fbytes fs n = fbytes fs i ++ (((1 + 2 * (nthF fs i).length : Nat) : Int) :: 6 :: (wbytes (nthF fs i) ++ rest)) := by
  induction n with
  | zero => omega
  | succ n ih =>
    rcases Nat.lt_succ_iff_lt_or_eq.1 h with h1 | h1
    · obtain ⟨rest, hr⟩ := ih h1
      exact ⟨rest ++ [((1 + 2 * (nthF fs n).length : Nat) : Int), 6] ++ wbytes (nthF fs n), by rw [fbytes, hr]; simp⟩
    · subst h1
      exact ⟨[], by rw [fbytes]; simp⟩
/-- What files become says these files. -/
theorem filesR_fbytes (fl : List Int) (fs : List (List Int)) (n : Nat) (a b : Int) (hn : fs.length = n) (h : ∀ i, i < n → (nthF fs i).length = lenF fl i) (hw : ∀ xs ∈ fs, ∀ x ∈ xs, (Lit.int .u16 x).wf = true) :
    headsR fl (a :: b :: fbytes fs n) n = true ∧ filesR fl (a :: b :: fbytes fs n) n = fs := by
  have key : ∀ i, i < n → ∃ rest, (a :: b :: fbytes fs n).drop (posF fl i) = ((1 + 2 * lenF fl i : Nat) : Int) :: 6 :: (wbytes (nthF fs i) ++ rest) := by
    intro i hi
    obtain ⟨rest, hr⟩ := fbytes_split fs n i hi
    have hl := fbytes_len fl fs i (fun j hj => h j (by omega))
    refine ⟨rest, ?_⟩
    rw [← hl, hr, h i hi]
    rw [List.drop_succ_cons, List.drop_succ_cons, List.drop_left]
  have hd : ∀ i, i < n → headAt fl (a :: b :: fbytes fs n) i = true := by
    intro i hi
    obtain ⟨rest, hr⟩ := key i hi
    have e0 := nth_drop (a :: b :: fbytes fs n) (posF fl i) 0
    have e1 := nth_drop (a :: b :: fbytes fs n) (posF fl i) 1
    rw [hr] at e0 e1
    exact headAt_iff.2 ⟨e0.symm, e1.symm⟩
  refine ⟨headsR_of hd, ?_⟩
  refine List.ext_getElem (by rw [filesR_length, hn]) fun i h1 h2 => ?_
  have hi : i < n := by rw [filesR_length] at h1; exact h1
  obtain ⟨rest, hr⟩ := key i hi
  have e1 : nthF fs i = fs[i] := by simp [nthF, List.getD_eq_getElem?_getD, List.getElem?_eq_getElem h2]
  simp only [filesR, List.getElem_map, List.getElem_range]
  rw [fileAt, ← List.drop_drop, hr, List.drop_succ_cons, List.drop_succ_cons, List.drop_zero, ← h i hi, List.take_left' (by rw [wbytes_length]), e1, wwords_wbytes _ (hw _ (List.getElem_mem h2))]

/-- An answer's parts lie behind one another: what is wrong first, and what is not. -/
theorem repN_stray {q : Req} {r : Rep} (h : chkR q r = 0) (hx : r.x = 0) : (¬ (q.c = 1 ∨ q.c = 2) → r.on = []) ∧ (¬ (q.c = 3 ∨ q.c = 4) → r.set = []) ∧ (q.c ≠ 20 → r.fs = []) := by
  unfold chkR at h
  by_cases hk : chkQ q ≠ 0
  · rw [if_pos hk] at h; exact absurd h hk
  · rw [if_neg hk, if_neg (show ¬ r.x ≠ 0 by simp [hx])] at h
    by_cases hs : strayB q.c r.on.length r.set.length r.fs.length = true
    · rw [if_pos hs] at h; cases h
    · simp only [strayB, anyB, Bool.or_eq_true, decide_eq_true_eq, not_or, Nat.not_lt, Nat.le_zero] at hs
      obtain ⟨⟨h1, h2⟩, h3⟩ := hs
      refine ⟨fun g => ?_, fun g => ?_, fun g => ?_⟩
      · rw [if_neg g] at h1; exact List.eq_nil_of_length_eq_zero h1
      · rw [if_neg g] at h2; exact List.eq_nil_of_length_eq_zero h2
      · rw [if_neg g] at h3; exact List.eq_nil_of_length_eq_zero h3
theorem chkR_exc {q : Req} {r : Rep} (h : chkR q r = 0) (hx : r.x ≠ 0) : chkQ q = 0 ∧ (1 ≤ r.x ∧ r.x ≤ 127) ∧ r.on = [] ∧ r.set = [] ∧ r.fs = [] := by
  unfold chkR at h
  by_cases hk : chkQ q ≠ 0
  · rw [if_pos hk] at h; exact absurd h hk
  · rw [if_neg hk, if_pos hx] at h
    split at h
    · rename_i h1
      split at h
      · cases h
      · rename_i h2
        simp only [anyB, Bool.or_eq_true, decide_eq_true_eq, not_or, Nat.not_lt, Nat.le_zero] at h2
        exact ⟨Decidable.not_not.1 hk, h1, List.eq_nil_of_length_eq_zero h2.1.1, List.eq_nil_of_length_eq_zero h2.1.2, List.eq_nil_of_length_eq_zero h2.2⟩
    · cases h
theorem chkR_q {q : Req} {r : Rep} (h : chkR q r = 0) : chkQ q = 0 := by
  by_cases hx : r.x = 0
  · exact (chkR_zero h hx).1
  · exact (chkR_exc h hx).1
theorem rep_lens {q : Req} {r : Rep} (h : chkR q r = 0) (hx : r.x = 0) : (q.c = 1 ∨ q.c = 2 → (r.on.length : Int) = q.n) ∧ (q.c = 3 ∨ q.c = 4 → (r.set.length : Int) = q.n) ∧ (q.c = 20 → q.fl.length / 3 = r.fs.length ∧ ∀ i, i < r.fs.length → (nthF r.fs i).length = lenF q.fl i) := by
  have h2 := (chkR_zero h hx).2
  unfold manyB at h2
  refine ⟨fun hc => ?_, fun hc => ?_, fun hc => ?_⟩
  · rw [if_pos hc] at h2; exact of_decide_eq_true h2
  · rw [if_neg (by omega), if_pos hc] at h2; exact of_decide_eq_true h2
  · rw [if_neg (by omega), if_neg (by omega), if_pos hc] at h2
    obtain ⟨hl, hi⟩ := fits_true h2
    exact ⟨by omega, fun i h => by have := hi i h; rw [lenF]; omega⟩
theorem putL_head {q : Req} (hk : chkQ q = 0) : nth ((putL q).take 5) 0 = q.c := by
  rw [putL, if_pos hk]; rfl
theorem putL_take {q : Req} (hk : chkQ q = 0) (n1 : q.c ≠ 20) : ((putL q).take 5).length = 5 := by
  have := putL_five hk n1
  rw [List.length_take]; omega
/-- The form of a right answer: its size, its code. -/
theorem formR_size {q : Req} {r : Rep} (h : chkR q r = 0) (hx : r.x = 0) : (formR q r).length = sizeR q ∧ nth (formR q r) 0 = q.c ∧ 2 ≤ sizeR q ∧ sizeR q ≤ 253 := by
  have hq := chkR_q h
  obtain ⟨l1, l2, l3⟩ := rep_lens h hx
  unfold formR sizeR
  by_cases h1 : q.c = 1 ∨ q.c = 2
  · have := right_bits hq h1
    have := l1 h1
    rw [if_pos h1, if_pos h1]
    simp only [List.length_cons, pk_length]
    have e : r.on.length = q.n.toNat := by omega
    rw [e]
    refine ⟨by omega, rfl, by omega, by unfold need; omega⟩
  · rw [if_neg h1, if_neg h1]
    by_cases h2 : q.c = 3 ∨ q.c = 4
    · have := right_words hq h2
      have := l2 h2
      rw [if_pos h2, if_pos h2]
      simp only [List.length_cons, wbytes_length]
      exact ⟨by omega, rfl, by omega, by omega⟩
    · rw [if_neg h2, if_neg h2]
      by_cases h3 : q.c = 20
      · obtain ⟨f1, f2, f3⟩ := right_files hq h3
        obtain ⟨e, hl⟩ := l3 h3
        have hb := fbytes_len q.fl r.fs r.fs.length hl
        rw [if_pos h3, if_pos h3, e]
        simp only [List.length_cons]
        have := posF_two q.fl r.fs.length
        rw [e] at f3
        exact ⟨by omega, h3.symm, by omega, by omega⟩
      · rw [if_neg h3, if_neg h3]
        exact ⟨putL_take hq h3, putL_head hq, by omega, by omega⟩
theorem rd_formR {q : Req} {r : Rep} (h : chkR q r = 0) (hx : r.x = 0) (hset : ∀ x ∈ r.set, (Lit.int .u16 x).wf = true) (hfs : ∀ xs ∈ r.fs, ∀ x ∈ xs, (Lit.int .u16 x).wf = true) : rdOkR q (formR q r) = true ∧ rdR q (formR q r) = r := by
  have hq := chkR_q h
  obtain ⟨l1, l2, l3⟩ := rep_lens h hx
  obtain ⟨s1, s2, s3⟩ := repN_stray h hx
  obtain ⟨x, on, set, fs⟩ := r
  simp only at hx l1 l2 l3 s1 s2 s3 hset hfs
  subst hx
  unfold rdOkR rdR formR
  by_cases h1 : q.c = 1 ∨ q.c = 2
  · have := right_bits hq h1
    have := l1 h1
    have e : q.n.toNat = on.length := by omega
    obtain rfl := s2 (by omega)
    obtain rfl := s3 (by omega)
    simp only [if_pos h1, e]
    rw [List.drop_succ_cons, List.drop_succ_cons, List.drop_zero, unpk_pk]
    refine ⟨?_, rfl⟩
    rw [Bool.and_eq_true]
    refine ⟨decide_eq_true rfl, ?_⟩
    have hn := no_spare_pk on
    rw [← spareB_iff] at hn
    simpa using hn
  · simp only [if_neg h1]
    by_cases h2 : q.c = 3 ∨ q.c = 4
    · have := right_words hq h2
      have := l2 h2
      obtain rfl := s1 h1
      obtain rfl := s3 (by omega)
      simp only [if_pos h2]
      rw [List.drop_succ_cons, List.drop_succ_cons, List.drop_zero, wwords_wbytes _ hset]
      exact ⟨decide_eq_true (by show 2 * (set.length : Int) = _; omega), rfl⟩
    · simp only [if_neg h2]
      by_cases h3 : q.c = 20
      · obtain rfl := s1 h1
        obtain rfl := s2 h2
        obtain ⟨e, hl⟩ := l3 h3
        obtain ⟨g1, g2⟩ := filesR_fbytes q.fl fs fs.length 20 (((fbytes fs fs.length).length : Nat) : Int) rfl hl hfs
        simp only [if_pos h3, e]
        rw [g1, g2]
        refine ⟨?_, rfl⟩
        rw [Bool.and_true]
        exact decide_eq_true (by simp only [List.length_cons]; rfl)
      · obtain rfl := s1 h1
        obtain rfl := s2 h2
        obtain rfl := s3 h3
        simp only [if_neg h3]
        exact ⟨by simp, rfl⟩

/-- What was made of an answer is read as that answer. -/
theorem getR_putR {q : Req} {r : Rep} (h : chkR q r = 0) (hset : ∀ x ∈ r.set, (Lit.int .u16 x).wf = true) (hfs : ∀ xs ∈ r.fs, ∀ x ∈ xs, (Lit.int .u16 x).wf = true) : getRE q (putR q r) = 0 ∧ getR q (putR q r) = r ∧ 2 ≤ (putR q r).length ∧ (putR q r).length ≤ 253 := by
  have hq := chkR_q h
  by_cases hx : r.x = 0
  · obtain ⟨f1, f2, f3, f4⟩ := formR_size h hx
    obtain ⟨g1, g2⟩ := rd_formR h hx hset hfs
    have hP : putR q r = formR q r := by unfold putR; rw [if_neg (by rw [h]; simp), if_neg (by simp [hx])]
    rw [hP]
    have hE : getRE q (formR q r) = 0 := by
      unfold getRE
      rw [if_neg (by rw [hq]; simp), if_neg (by omega), if_neg (by omega), if_pos f2, if_neg (by omega), if_neg (by omega), if_pos g1]
    refine ⟨hE, ?_, by omega, by omega⟩
    unfold getR
    rw [if_neg (by rw [hE]; simp), if_neg (by omega), g2]
  · obtain ⟨_, e1, e2, e3, e4⟩ := chkR_exc h hx
    have hP : putR q r = [q.c + 128, r.x] := by unfold putR; rw [if_neg (by rw [h]; simp), if_pos hx]
    rw [hP]
    have hE : getRE q [q.c + 128, r.x] = 0 := by
      unfold getRE
      rw [if_neg (by rw [hq]; simp), if_neg (by simp), if_pos (show nth [q.c + 128, r.x] 0 = q.c + 128 from rfl), if_neg (by simp), if_neg (by simp), if_pos (show 1 ≤ nth [q.c + 128, r.x] 1 ∧ nth [q.c + 128, r.x] 1 ≤ 127 from e1)]
    refine ⟨hE, ?_, by simp, by simp⟩
    unfold getR
    rw [if_neg (by rw [hE]; simp), if_pos (show nth [q.c + 128, r.x] 0 = q.c + 128 from rfl)]
    obtain ⟨x, on, set, fs⟩ := r
    simp only at e2 e3 e4
    subst e2 e3 e4
    rfl
/-- The code of a right answer's bytes says how many there are. -/
theorem putR_head {q : Req} {r : Rep} (h : chkR q r = 0) : (nth (putR q r) 0 = q.c + 128 ∧ (putR q r).length = 2) ∨ (nth (putR q r) 0 = q.c ∧ (putR q r).length = sizeR q) := by
  by_cases hx : r.x = 0
  · obtain ⟨f1, f2, _⟩ := formR_size h hx
    have hP : putR q r = formR q r := by unfold putR; rw [if_neg (by rw [h]; simp), if_neg (by simp [hx])]
    rw [hP]; exact .inr ⟨f2, f1⟩
  · have hP : putR q r = [q.c + 128, r.x] := by unfold putR; rw [if_neg (by rw [h]; simp), if_pos hx]
    rw [hP]; exact .inl ⟨rfl, rfl⟩
theorem getRE_take {q : Req} {r : Rep} (h : chkR q r = 0) (k : Nat) (hk : k < (putR q r).length) : getRE q ((putR q r).take k) = 1 := by
  have hq := chkR_q h
  have hl : ((putR q r).take k).length = k := by rw [List.length_take]; omega
  unfold getRE
  rw [if_neg (by rw [hq]; simp), hl]
  by_cases k0 : k = 0
  · rw [if_pos k0]
  · rw [if_neg k0, nth_pre _ _ _ (by omega)]
    rcases putR_head h with ⟨e1, e2⟩ | ⟨e1, e2⟩
    · rw [if_pos e1, if_pos (by omega)]
    · rw [if_neg (by omega), if_pos e1, if_pos (by omega)]
theorem getRE_more {q : Req} {r : Rep} (h : chkR q r = 0) (hp : 2 ≤ (putR q r).length) (x : Int) : getRE q (putR q r ++ [x]) = 2 := by
  have hq := chkR_q h
  have hl : (putR q r ++ [x]).length = (putR q r).length + 1 := by simp
  unfold getRE
  rw [if_neg (by rw [hq]; simp), hl, if_neg (by omega), nth_left _ _ _ (by omega)]
  rcases putR_head h with ⟨e1, e2⟩ | ⟨e1, e2⟩
  · rw [if_pos e1, if_neg (by omega), if_pos (by omega)]
  · rw [if_neg (by omega), if_pos e1, if_neg (by omega), if_pos (by omega)]

theorem zeroR_lists : (Rep.zero).on = [] ∧ (Rep.zero).set = [] ∧ (Rep.zero).fs = [] ∧ (Rep.zero).x = 0 := ⟨rfl, rfl, rfl, rfl⟩
/-- What bytes of the right size say may be an answer. -/
theorem chkR_rdR {q : Req} {ys : List Int} (hq : chkQ q = 0) (h3 : q.fl.length % 3 = 0) (hl : ys.length = sizeR q) : chkR q (rdR q ys) = 0 := by
  unfold chkR rdR manyB
  rw [if_neg (by rw [hq]; simp)]
  unfold sizeR at hl
  by_cases h1 : q.c = 1 ∨ q.c = 2
  · have := right_bits hq h1
    simp only [if_pos h1, unpk_length]
    rw [if_neg (by simp), if_neg (by simp [strayB, anyB, h1]), if_neg (by simp; omega)]
  · simp only [if_neg h1] at hl ⊢
    by_cases h2 : q.c = 3 ∨ q.c = 4
    · have := right_words hq h2
      simp only [if_pos h2, wwords_length, List.length_drop] at hl ⊢
      rw [if_neg (by simp), if_neg (by simp [strayB, anyB, h2]), if_neg (by simp; omega)]
    · simp only [if_neg h2] at hl ⊢
      by_cases h20 : q.c = 20
      · obtain ⟨f1, f2, f3⟩ := right_files hq h20
        simp only [if_pos h20] at hl ⊢
        rw [if_neg (by simp), if_neg (by simp [strayB, anyB, h20]), if_neg]
        rw [fitsB_yes (by rw [filesR_length]; omega) (fun i hi => ?_)]
        · simp
        · rw [filesR_length] at hi
          have := posF_lt q.fl hi
          have := f2 i hi
          rw [filesR_nth _ _ _ _ hi, fileAt_length _ _ _ (by omega), lenF]
          omega
      · simp only [if_neg h20]
        rw [if_neg (by simp [Rep.zero]), if_neg (by simp [strayB, anyB, Rep.zero]), if_neg (by simp)]
/-- What right bytes say becomes these bytes. -/
theorem formR_rdR {q : Req} {ys : List Int} (hw : ∀ x ∈ ys, (Lit.int .u8 x).wf = true) (hq : chkQ q = 0) (hl : ys.length = sizeR q) (hc : nth ys 0 = q.c) (hok : rdOkR q ys = true) : formR q (rdR q ys) = ys := by
  unfold rdOkR at hok
  unfold formR rdR
  unfold sizeR at hl
  by_cases h1 : q.c = 1 ∨ q.c = 2
  · have := right_bits hq h1
    simp only [if_pos h1, unpk_length] at hl hok ⊢
    rw [Bool.and_eq_true, decide_eq_true_eq] at hok
    have hd := drop_two (ys := ys) (p := 0) (by omega)
    rw [List.drop_zero, hc, hok.1] at hd
    rw [pk_unpk (ys.drop 2) _ (fun x hx => hw x (List.mem_of_mem_drop hx)) (by rw [List.length_drop]; omega) (by rw [← spareB_iff]; simpa using hok.2)]
    exact hd.symm
  · simp only [if_neg h1] at hl hok ⊢
    by_cases h2 : q.c = 3 ∨ q.c = 4
    · have := right_words hq h2
      simp only [if_pos h2, wwords_length] at hl hok ⊢
      have hok := of_decide_eq_true hok
      have hd := drop_two (ys := ys) (p := 0) (by omega)
      rw [List.drop_zero, hc, hok] at hd
      rw [wbytes_wwords _ (fun x hx => hw x (List.mem_of_mem_drop hx)) (by rw [List.length_drop]; omega), List.length_drop, show 2 * (((ys.length - 2) / 2 : Nat) : Int) = ((2 * q.n.toNat : Nat) : Int) by omega]
      exact hd.symm
    · simp only [if_neg h2] at hl hok ⊢
      by_cases h20 : q.c = 20
      · obtain ⟨f1, f2, f3⟩ := right_files hq h20
        simp only [if_pos h20, filesR_length] at hl hok ⊢
        rw [Bool.and_eq_true, decide_eq_true_eq] at hok
        have h2' := posF_two q.fl (q.fl.length / 3)
        have hd := drop_two (ys := ys) (p := 0) (by omega)
        rw [List.drop_zero, hc, hok.1, h20] at hd
        rw [fbytes_filesR q.fl ys hw _ _ (Nat.le_refl _) hok.2 (by omega), ← hl, List.take_of_length_le (by rw [List.length_drop]; omega), List.length_drop]
        exact hd.symm
      · simp only [if_neg h20] at hok ⊢
        exact (of_decide_eq_true hok).symm
theorem getRE_zero {q : Req} {ys : List Int} (h : getRE q ys = 0) : chkQ q = 0 ∧ ys.length ≠ 0 ∧ ((nth ys 0 = q.c + 128 ∧ ys.length = 2 ∧ 1 ≤ nth ys 1 ∧ nth ys 1 ≤ 127) ∨ (nth ys 0 = q.c ∧ ys.length = sizeR q ∧ rdOkR q ys = true)) := by
  unfold getRE at h
  split at h
  · rename_i h1; exact absurd h h1
  · rename_i h1
    split at h
    · cases h
    · rename_i h2
      refine ⟨Decidable.not_not.1 h1, h2, ?_⟩
      split at h
      · rename_i h3
        split at h
        · cases h
        · split at h
          · cases h
          · split at h
            · rename_i h6; exact .inl ⟨h3, by omega, h6⟩
            · cases h
      · split at h
        · rename_i h4
          split at h
          · cases h
          · split at h
            · cases h
            · split at h
              · rename_i h7; exact .inr ⟨h4, by omega, h7⟩
              · cases h
        · cases h
/-- What is read of any bytes may be an answer, and becomes these bytes. -/
theorem putR_getR {q : Req} {ys : List Int} (hw : ∀ x ∈ ys, (Lit.int .u8 x).wf = true) (h3 : q.fl.length % 3 = 0) (h : getRE q ys = 0) : chkR q (getR q ys) = 0 ∧ putR q (getR q ys) = ys := by
  obtain ⟨hq, h0, hh⟩ := getRE_zero h
  unfold getR
  rw [if_neg (by rw [h]; simp)]
  rcases hh with ⟨e1, e2, e3, e4⟩ | ⟨e1, e2, e3⟩
  · rw [if_pos e1]
    have hk : chkR q ⟨nth ys 1, [], [], []⟩ = 0 := by
      unfold chkR
      rw [if_neg (by rw [hq]; simp), if_pos (show nth ys 1 ≠ 0 by omega), if_pos ⟨e3, e4⟩]
      rfl
    refine ⟨hk, ?_⟩
    unfold putR
    rw [if_neg (by rw [hk]; simp), if_pos (show nth ys 1 ≠ 0 by omega)]
    have hd := drop_two (ys := ys) (p := 0) (by omega)
    rw [List.drop_zero, e1, List.drop_eq_nil_of_le (by omega)] at hd
    exact hd.symm
  · rw [if_neg (by omega)]
    have hk := chkR_rdR hq h3 e2
    have hx : (rdR q ys).x = 0 := by
      unfold rdR
      repeat (first | rfl | split)
    refine ⟨hk, ?_⟩
    unfold putR
    rw [if_neg (by rw [hk]; simp), if_neg (by rw [hx]; simp)]
    exact formR_rdR hw hq e2 e1 e3
/-- Bytes of the right code and size are right just if what they say becomes them. -/
theorem rdOkR_iff {q : Req} {ys : List Int} (hw : ∀ x ∈ ys, (Lit.int .u8 x).wf = true) (hq : chkQ q = 0) (h3 : q.fl.length % 3 = 0) (hl : ys.length = sizeR q) (hc : nth ys 0 = q.c) : putR q (rdR q ys) = ys ↔ rdOkR q ys = true := by
  have hk := chkR_rdR hq h3 hl
  have hx : (rdR q ys).x = 0 := by
    unfold rdR
    repeat (first | rfl | split)
  have hP : putR q (rdR q ys) = formR q (rdR q ys) := by unfold putR; rw [if_neg (by rw [hk]; simp), if_neg (by rw [hx]; simp)]
  rw [hP]
  refine ⟨fun h => ?_, fun h => formR_rdR hw hq hl hc h⟩
  have hset : ∀ x ∈ (rdR q ys).set, (Lit.int .u16 x).wf = true := by
    unfold rdR
    intro x hx
    split at hx
    · cases hx
    · split at hx
      · exact wwords_wf _ (fun y hy => hw y (List.mem_of_mem_drop hy)) x hx
      · split at hx <;> cases hx
  have hfs : ∀ xs ∈ (rdR q ys).fs, ∀ x ∈ xs, (Lit.int .u16 x).wf = true := by
    unfold rdR
    intro xs hxs
    split at hxs
    · cases hxs
    · split at hxs
      · cases hxs
      · split at hxs
        · simp only [filesR, List.mem_map] at hxs
          obtain ⟨i, _, rfl⟩ := hxs
          exact wwords_wf _ (fun y hy => hw y (List.mem_of_mem_drop (List.mem_of_mem_take hy)))
        · cases hxs
  have := (rd_formR hk hx hset hfs).1
  rw [h] at this
  exact this
theorem rdR_wf {q : Req} {ys : List Int} (hw : ∀ x ∈ ys, (Lit.int .u8 x).wf = true) : (∀ x ∈ (rdR q ys).set, (Lit.int .u16 x).wf = true) ∧ ∀ xs ∈ (rdR q ys).fs, ∀ x ∈ xs, (Lit.int .u16 x).wf = true := by
  refine ⟨?_, ?_⟩
  · unfold rdR
    intro x hx
    split at hx
    · cases hx
    · split at hx
      · exact wwords_wf _ (fun y hy => hw y (List.mem_of_mem_drop hy)) x hx
      · split at hx <;> cases hx
  · unfold rdR
    intro xs hxs
    split at hxs
    · cases hxs
    · split at hxs
      · cases hxs
      · split at hxs
        · simp only [filesR, List.mem_map] at hxs
          obtain ⟨i, _, rfl⟩ := hxs
          exact wwords_wf _ (fun y hy => hw y (List.mem_of_mem_drop (List.mem_of_mem_take hy)))
        · cases hxs
end Go.Proofs.Ytcmbdhmhkfhjfaa
namespace Go.Proofs.Ytcmbdhmhkfhjfaa
open Go.RowKit
set_option linter.unusedVariables false

def clB (c : Int) : Bool := decide (c = 1 ∨ c = 2)
def clW (c : Int) : Bool := decide (c = 3 ∨ c = 4)
def clF (c : Int) : Bool := decide (c = 20)
end Go.Proofs.Ytcmbdhmhkfhjfaa
namespace Go.Proofs.Ytcmbdhmhkfhjfaa
open Go.RowKit
set_option linter.unusedVariables false
/-- A list with each byte written over, up to a place. -/
def spoil8 (k : Nat) (l : List Int) : List Int := (l.take k).map (bits .xor .u8 · 90) ++ l.drop k
theorem spoil8_length (k : Nat) (l : List Int) : (spoil8 k l).length = l.length := by simp [spoil8]; omega
theorem xor90_wf (x : Int) (h : (Lit.int .u8 x).wf = true) : (Lit.int .u8 (bits .xor .u8 x 90)).wf = true := by
  have hx := wf_u8 h
  obtain ⟨n, rfl⟩ := Int.eq_ofNat_of_zero_le hx.1
  have hn : n < 256 := by omega
  have := u8_xor_nat n 90 hn (by omega)
  show (Lit.int .u8 (bits .xor .u8 (n : Int) ((90 : Nat) : Int))).wf = true
  rw [this]
  have hlt : n ^^^ 90 < 256 := Nat.xor_lt_two_pow (n := 8) hn (by omega)
  simp [Lit.wf, IntKind.min, IntKind.max, IntKind.signed, IntKind.bits]; omega
theorem spoil8_wf (k : Nat) (l : List Int) (h : ∀ x ∈ l, (Lit.int .u8 x).wf = true) : ∀ x ∈ spoil8 k l, (Lit.int .u8 x).wf = true := by
  intro x hx
  rcases List.mem_append.1 hx with hx | hx
  · obtain ⟨y, hy, rfl⟩ := List.mem_map.1 hx
    exact xor90_wf y (h y (List.mem_of_mem_take hy))
  · exact h x (List.mem_of_mem_drop hx)
theorem spoil8_at (k : Nat) (l : List Int) (hk : k < l.length) : nth (spoil8 k l) k = nth l k := by
  have hl : ((l.take k).map (bits .xor .u8 · 90)).length = k := by simp; omega
  have := nth_right ((l.take k).map (bits .xor .u8 · 90)) (l.drop k) 0
  rw [hl, Nat.add_zero] at this
  rw [spoil8, this, nth, nth, List.getD_eq_getElem?_getD, List.getD_eq_getElem?_getD, List.getElem?_drop, Nat.add_zero]
theorem spoil8_set (k : Nat) (l : List Int) (hk : k < l.length) : (spoil8 k l).set k (bits .xor .u8 (nth l k) 90) = spoil8 (k + 1) l := by
  have hl : ((l.take k).map (bits .xor .u8 · 90)).length = k := by simp; omega
  have hd := List.drop_eq_getElem_cons hk
  rw [spoil8, List.set_append_right _ _ (by omega), hl, Nat.sub_self, spoil8, take_step l k hk]
  simp
  rw [hd]
  rfl
theorem spoil8_zero (l : List Int) : spoil8 0 l = l := by simp [spoil8]

end Go.Proofs.Ytcmbdhmhkfhjfaa
namespace Go.Proofs.Ytcmbdhmhkfhjfaa
open Go.RowKit
set_option linter.unusedVariables false
/-- Rows that lie in blocks of their own, each known whole (or nil), their slices in the array of block gl. -/
structure Parts (w : World) (B gl m : Nat) (A : Nat → Option Addr) (n c : Nat → Nat) (l r : Nat → List Int) : Prop where
  at_ : ∀ k, k < m → w.cell? ⟨gl, k, none⟩ = some (.slice (A k) (n k) (c k))
  size : ∀ k, k < m → n k ≤ c k ∧ c k ≤ 140737488355328 ∧ (l k).length = c k
  wf : ∀ k, k < m → ∀ x ∈ l k, (Lit.int .u8 x).wf = true
  lies : ∀ k, k < m → (A k = none ∧ n k = 0 ∧ c k = 0) ∨ ∃ g, A k = some ⟨g, 0, none⟩ ∧ B ≤ g ∧ g ≠ gl ∧ w.heap[g]? = some (.cells (blk .u8 (l k ++ r k)) 5 (0, 0))
  apart : ∀ i k, i < m → k < m → i ≠ k → ∀ g, A i = some ⟨g, 0, none⟩ → A k ≠ some ⟨g, 0, none⟩
  gl_lt : gl < w.heap.size

theorem Parts.row {w : World} {B gl m : Nat} {A : Nat → Option Addr} {n c : Nat → Nat} {l r : Nat → List Int} (h : Parts w B gl m A n c l r) {k : Nat} (hk : k < m) :
    Row .u8 w w.heap.size (A k) ((l k).take (n k)) ∧ ((l k).take (n k)).length = n k := by
  have hs := h.size k hk
  refine ⟨?_, by simp; omega⟩
  rcases h.lies k hk with ⟨ha, hn, hc⟩ | ⟨g, ha, _, _, hg⟩
  · rw [hn, List.take_zero]; exact Row.nil _ _ _ _
  · rw [ha]
    exact (Row.of_block hg _ (fun x hx => h.wf k hk x (List.mem_of_mem_take hx)) ((List.take_prefix _ _).trans (List.prefix_append _ _))).more (block_lt hg)
/-- A step that leaves all old blocks leaves the parts. -/
theorem Parts.below {w w' : World} {B gl m : Nat} {A : Nat → Option Addr} {n c : Nat → Nat} {l r : Nat → List Int} (h : Parts w B gl m A n c l r) (hb : Below w.heap.size w w') : Parts w' B gl m A n c l r where
  at_ := fun k hk => (hb.cell (p := ⟨gl, k, none⟩) h.gl_lt).trans (h.at_ k hk)
  size := h.size
  wf := h.wf
  lies := fun k hk => by
    rcases h.lies k hk with h0 | ⟨g, ha, hB, hne, hg⟩
    · exact .inl h0
    · exact .inr ⟨g, ha, hB, hne, (hb.block g (block_lt hg)).trans hg⟩
  apart := h.apart
  gl_lt := Nat.lt_of_lt_of_le h.gl_lt hb.size
/-- One part is written over. -/
theorem Parts.spoil {w w' : World} {B gl m : Nat} {A : Nat → Option Addr} {n c : Nat → Nat} {l r : Nat → List Int} (h : Parts w B gl m A n c l r) {i g : Nat} (hi : i < m) (ha : A i = some ⟨g, 0, none⟩)
    (hg : w'.heap[g]? = some (.cells (blk .u8 (spoil8 (c i) (l i) ++ r i)) 5 (0, 0))) (hgr : w.grownBy w' (some g)) : Parts w' B gl m A n c (fun k => if k = i then spoil8 (c i) (l i) else l k) r where
  at_ := fun k hk => by
    rcases h.lies i hi with ⟨h0, _⟩ | ⟨g', ha', _, hne, _⟩
    · rw [ha] at h0; cases h0
    · rw [ha] at ha'
      injection ha' with ha'
      injection ha' with ha'
      subst ha'
      exact (World.cell?_of_block (hgr.block gl h.gl_lt (fun e => hne (by injection e with e; exact e.symm)))).trans (h.at_ k hk)
  size := fun k hk => by
    have := h.size k hk
    refine ⟨this.1, this.2.1, ?_⟩
    split
    · rename_i e; subst e; rw [spoil8_length]; exact this.2.2
    · exact this.2.2
  wf := fun k hk => by
    show ∀ x ∈ (if k = i then spoil8 (c i) (l i) else l k), _
    split
    · exact spoil8_wf _ _ (h.wf i hi)
    · exact h.wf k hk
  lies := fun k hk => by
    by_cases e : k = i
    · subst e
      rcases h.lies k hi with ⟨h0, _⟩ | ⟨g', ha', hB, hne, _⟩
      · rw [ha] at h0; cases h0
      · rw [ha] at ha'
        injection ha' with ha'
        injection ha' with ha'
        subst ha'
        exact .inr ⟨g, ha, hB, hne, by rw [if_pos rfl]; exact hg⟩
    · rcases h.lies k hk with h0 | ⟨g', ha', hB, hne, hg'⟩
      · exact .inl h0
      · refine .inr ⟨g', ha', hB, hne, ?_⟩
        rw [if_neg e, hgr.block g' (block_lt hg') (fun e' => ?_)]
        · exact hg'
        · injection e' with e'
          subst e'
          exact h.apart k i hk hi e _ ha' ha
  apart := h.apart
  gl_lt := Nat.lt_of_lt_of_le h.gl_lt hgr.size

/-- A slice that is handed to ApartBytes: nil, or the beginning of a block that is known whole. -/
structure Ent where
  a : Option Nat
  n : Nat
  c : Nat
  l : List Int
  r : List Int
def Ent.none_ : Ent := ⟨none, 0, 0, [], []⟩
def Ent.adr (e : Ent) : Option Addr := e.a.map fun g => ⟨g, 0, none⟩
def Ent.val (e : Ent) : Value := .slice e.adr e.n e.c
structure Ent.Ok (w : World) (B : Nat) (e : Ent) : Prop where
  size : e.n ≤ e.c ∧ e.c ≤ 140737488355328 ∧ e.l.length = e.c
  wf : ∀ x ∈ e.l, (Lit.int .u8 x).wf = true
  lies : (e.a = none ∧ e.n = 0 ∧ e.c = 0) ∨ ∃ g, e.a = some g ∧ B ≤ g ∧ w.heap[g]? = some (.cells (blk .u8 (e.l ++ e.r)) 5 (0, 0))
def Ent.Far (e e' : Ent) : Prop := ∀ g, e.a = some g → e'.a ≠ some g
theorem Ent.adr_some {e : Ent} {g : Nat} (h : e.adr = some ⟨g, 0, none⟩) : e.a = some g := by
  unfold Ent.adr at h
  cases ha : e.a with
  | none => rw [ha] at h; cases h
  | some q => rw [ha] at h; simp at h; rw [h]

theorem parts_of_list (w : World) (B : Nat) (L : List Ent) (t : TypeId) (hok : ∀ e ∈ L, e.Ok w B) (hfar : L.Pairwise Ent.Far) :
    Parts (w.alloc (.cells (L.map Ent.val).toArray t)) B w.heap.size L.length (fun k => (L.getD k Ent.none_).adr) (fun k => (L.getD k Ent.none_).n) (fun k => (L.getD k Ent.none_).c) (fun k => (L.getD k Ent.none_).l) (fun k => (L.getD k Ent.none_).r) where
  at_ := fun k hk => by
    rw [World.cell?_alloc_at _ _ _ _ rfl]
    simp [List.getElem?_eq_getElem hk, List.getD_eq_getElem?_getD, Ent.val]
  size := fun k hk => by
    simp only [List.getD_eq_getElem?_getD, List.getElem?_eq_getElem hk, Option.getD_some]
    exact (hok _ (List.getElem_mem hk)).size
  wf := fun k hk => by
    simp only [List.getD_eq_getElem?_getD, List.getElem?_eq_getElem hk, Option.getD_some]
    exact (hok _ (List.getElem_mem hk)).wf
  lies := fun k hk => by
    simp only [List.getD_eq_getElem?_getD, List.getElem?_eq_getElem hk, Option.getD_some]
    rcases (hok _ (List.getElem_mem hk)).lies with ⟨h1, h2⟩ | ⟨g, h1, h2, h3⟩
    · exact .inl ⟨by rw [Ent.adr, h1]; rfl, h2⟩
    · have := block_lt h3
      exact .inr ⟨g, by rw [Ent.adr, h1]; rfl, h2, by omega, (Below.heap_alloc w _ g this).trans h3⟩
  apart := fun i k hi hk hne g h1 h2 => by
    simp only [List.getD_eq_getElem?_getD, List.getElem?_eq_getElem hi, List.getElem?_eq_getElem hk, Option.getD_some] at h1 h2
    have h1 := Ent.adr_some h1
    have h2 := Ent.adr_some h2
    rcases Nat.lt_or_gt_of_ne hne with h | h
    · exact List.pairwise_iff_getElem.1 hfar i k hi hk h g h1 h2
    · exact List.pairwise_iff_getElem.1 hfar k i hk hi h g h2 h1
  gl_lt := by simp

end Go.Proofs.Ytcmbdhmhkfhjfaa
namespace Go.Proofs.Ytcmbdhmhkfhjfaa
open Go.RowKit
set_option linter.unusedVariables false
theorem pow_256 (n : Nat) : (2 : Nat) ^ (8 * n) = 256 ^ n := by rw [Nat.pow_mul]
theorem div_zero_iff (v n : Nat) : v / 256 ^ n = 0 ↔ v < 256 ^ n := by
  rw [Nat.div_eq_zero_iff]
  have : (256 : Nat) ^ n ≠ 0 := Nat.ne_of_gt (Nat.pow_pos (by omega))
  omega
end Go.Proofs.Ytcmbdhmhkfhjfaa
namespace Go.Proofs.Ytcmbdhmhkfhjfaa
open Go.RowKit
set_option linter.unusedVariables false

end Go.Proofs.Ytcmbdhmhkfhjfaa
namespace Go.Proofs.Ytcmbdhmhkfhjfaa
open Go.RowKit
set_option linter.unusedVariables false
theorem be_take_step (n v k : Nat) (h : k < n) : (be n v).take (k + 1) = (be n v).take k ++ [((v / 256 ^ (n - 1 - k) % 256 : Nat) : Int)] := by
  rw [take_step _ _ (by rw [be_length]; exact h), be_nth n v k h]
end Go.Proofs.Ytcmbdhmhkfhjfaa
namespace Go.Proofs.Ytcmbdhmhkfhjfaa.L
open Go.RowKit
set_option linter.unusedVariables false
set_option linter.unusedVariables false
/-- Rows that lie in blocks of their own, each known whole (or nil), their slices in the array of block gl. -/
structure Parts (w : World) (B gl m : Nat) (A : Nat → Option Addr) (n c : Nat → Nat) (l r : Nat → List Bool) : Prop where
  at_ : ∀ k, k < m → w.cell? ⟨gl, k, none⟩ = some (.slice (A k) (n k) (c k))
  size : ∀ k, k < m → n k ≤ c k ∧ c k ≤ 140737488355328 ∧ (l k).length = c k
  wf : ∀ k, k < m → ∀ x ∈ l k, (Lit.bool x).wf = true
  lies : ∀ k, k < m → (A k = none ∧ n k = 0 ∧ c k = 0) ∨ ∃ g, A k = some ⟨g, 0, none⟩ ∧ B ≤ g ∧ g ≠ gl ∧ w.heap[g]? = some (.cells (blk () (l k ++ r k)) 4 (0, 0))
  apart : ∀ i k, i < m → k < m → i ≠ k → ∀ g, A i = some ⟨g, 0, none⟩ → A k ≠ some ⟨g, 0, none⟩
  gl_lt : gl < w.heap.size

theorem Parts.row {w : World} {B gl m : Nat} {A : Nat → Option Addr} {n c : Nat → Nat} {l r : Nat → List Bool} (h : Parts w B gl m A n c l r) {k : Nat} (hk : k < m) :
    Row () w w.heap.size (A k) ((l k).take (n k)) ∧ ((l k).take (n k)).length = n k := by
  have hs := h.size k hk
  refine ⟨?_, by simp; omega⟩
  rcases h.lies k hk with ⟨ha, hn, hc⟩ | ⟨g, ha, _, _, hg⟩
  · rw [hn, List.take_zero]; exact Row.nil _ _ _ _
  · rw [ha]
    exact (Row.of_block hg _ (fun x hx => h.wf k hk x (List.mem_of_mem_take hx)) ((List.take_prefix _ _).trans (List.prefix_append _ _))).more (block_lt hg)
/-- A step that leaves all old blocks leaves the parts. -/
theorem Parts.below {w w' : World} {B gl m : Nat} {A : Nat → Option Addr} {n c : Nat → Nat} {l r : Nat → List Bool} (h : Parts w B gl m A n c l r) (hb : Below w.heap.size w w') : Parts w' B gl m A n c l r where
  at_ := fun k hk => (hb.cell (p := ⟨gl, k, none⟩) h.gl_lt).trans (h.at_ k hk)
  size := h.size
  wf := h.wf
  lies := fun k hk => by
    rcases h.lies k hk with h0 | ⟨g, ha, hB, hne, hg⟩
    · exact .inl h0
    · exact .inr ⟨g, ha, hB, hne, (hb.block g (block_lt hg)).trans hg⟩
  apart := h.apart
  gl_lt := Nat.lt_of_lt_of_le h.gl_lt hb.size
/-- One part is written over. -/
theorem Parts.spoil {w w' : World} {B gl m : Nat} {A : Nat → Option Addr} {n c : Nat → Nat} {l r : Nat → List Bool} (h : Parts w B gl m A n c l r) {i g : Nat} (hi : i < m) (ha : A i = some ⟨g, 0, none⟩)
    (hg : w'.heap[g]? = some (.cells (blk () (spoilL (c i) (l i) ++ r i)) 4 (0, 0))) (hgr : w.grownBy w' (some g)) : Parts w' B gl m A n c (fun k => if k = i then spoilL (c i) (l i) else l k) r where
  at_ := fun k hk => by
    rcases h.lies i hi with ⟨h0, _⟩ | ⟨g', ha', _, hne, _⟩
    · rw [ha] at h0; cases h0
    · rw [ha] at ha'
      injection ha' with ha'
      injection ha' with ha'
      subst ha'
      exact (World.cell?_of_block (hgr.block gl h.gl_lt (fun e => hne (by injection e with e; exact e.symm)))).trans (h.at_ k hk)
  size := fun k hk => by
    have := h.size k hk
    refine ⟨this.1, this.2.1, ?_⟩
    split
    · rename_i e; subst e; rw [spoilL_length]; exact this.2.2
    · exact this.2.2
  wf := fun k hk => by
    show ∀ x ∈ (if k = i then spoilL (c i) (l i) else l k), _
    split
    · exact spoilL_wf _ _ (h.wf i hi)
    · exact h.wf k hk
  lies := fun k hk => by
    by_cases e : k = i
    · subst e
      rcases h.lies k hi with ⟨h0, _⟩ | ⟨g', ha', hB, hne, _⟩
      · rw [ha] at h0; cases h0
      · rw [ha] at ha'
        injection ha' with ha'
        injection ha' with ha'
        subst ha'
        exact .inr ⟨g, ha, hB, hne, by rw [if_pos rfl]; exact hg⟩
    · rcases h.lies k hk with h0 | ⟨g', ha', hB, hne, hg'⟩
      · exact .inl h0
      · refine .inr ⟨g', ha', hB, hne, ?_⟩
        rw [if_neg e, hgr.block g' (block_lt hg') (fun e' => ?_)]
        · exact hg'
        · injection e' with e'
          subst e'
          exact h.apart k i hk hi e _ ha' ha
  apart := h.apart
  gl_lt := Nat.lt_of_lt_of_le h.gl_lt hgr.size

/-- A slice that is handed to ApartBools: nil, or the beginning of a block that is known whole. -/
structure Ent where
  a : Option Nat
  n : Nat
  c : Nat
  l : List Bool
  r : List Bool
def Ent.none_ : Ent := ⟨none, 0, 0, [], []⟩
def Ent.adr (e : Ent) : Option Addr := e.a.map fun g => ⟨g, 0, none⟩
def Ent.val (e : Ent) : Value := .slice e.adr e.n e.c
structure Ent.Ok (w : World) (B : Nat) (e : Ent) : Prop where
  size : e.n ≤ e.c ∧ e.c ≤ 140737488355328 ∧ e.l.length = e.c
  wf : ∀ x ∈ e.l, (Lit.bool x).wf = true
  lies : (e.a = none ∧ e.n = 0 ∧ e.c = 0) ∨ ∃ g, e.a = some g ∧ B ≤ g ∧ w.heap[g]? = some (.cells (blk () (e.l ++ e.r)) 4 (0, 0))
def Ent.Far (e e' : Ent) : Prop := ∀ g, e.a = some g → e'.a ≠ some g
theorem Ent.adr_some {e : Ent} {g : Nat} (h : e.adr = some ⟨g, 0, none⟩) : e.a = some g := by
  unfold Ent.adr at h
  cases ha : e.a with
  | none => rw [ha] at h; cases h
  | some q => rw [ha] at h; simp at h; rw [h]

theorem parts_of_list (w : World) (B : Nat) (L : List Ent) (t : TypeId) (hok : ∀ e ∈ L, e.Ok w B) (hfar : L.Pairwise Ent.Far) :
    Parts (w.alloc (.cells (L.map Ent.val).toArray t)) B w.heap.size L.length (fun k => (L.getD k Ent.none_).adr) (fun k => (L.getD k Ent.none_).n) (fun k => (L.getD k Ent.none_).c) (fun k => (L.getD k Ent.none_).l) (fun k => (L.getD k Ent.none_).r) where
  at_ := fun k hk => by
    rw [World.cell?_alloc_at _ _ _ _ rfl]
    simp [List.getElem?_eq_getElem hk, List.getD_eq_getElem?_getD, Ent.val]
  size := fun k hk => by
    simp only [List.getD_eq_getElem?_getD, List.getElem?_eq_getElem hk, Option.getD_some]
    exact (hok _ (List.getElem_mem hk)).size
  wf := fun k hk => by
    simp only [List.getD_eq_getElem?_getD, List.getElem?_eq_getElem hk, Option.getD_some]
    exact (hok _ (List.getElem_mem hk)).wf
  lies := fun k hk => by
    simp only [List.getD_eq_getElem?_getD, List.getElem?_eq_getElem hk, Option.getD_some]
    rcases (hok _ (List.getElem_mem hk)).lies with ⟨h1, h2⟩ | ⟨g, h1, h2, h3⟩
    · exact .inl ⟨by rw [Ent.adr, h1]; rfl, h2⟩
    · have := block_lt h3
      exact .inr ⟨g, by rw [Ent.adr, h1]; rfl, h2, by omega, (Below.heap_alloc w _ g this).trans h3⟩
  apart := fun i k hi hk hne g h1 h2 => by
    simp only [List.getD_eq_getElem?_getD, List.getElem?_eq_getElem hi, List.getElem?_eq_getElem hk, Option.getD_some] at h1 h2
    have h1 := Ent.adr_some h1
    have h2 := Ent.adr_some h2
    rcases Nat.lt_or_gt_of_ne hne with h | h
    · exact List.pairwise_iff_getElem.1 hfar i k hi hk h g h1 h2
    · exact List.pairwise_iff_getElem.1 hfar k i hk hi h g h2 h1
  gl_lt := by simp

end Go.Proofs.Ytcmbdhmhkfhjfaa.L
namespace Go.Proofs.Ytcmbdhmhkfhjfaa.L
open Go.RowKit
set_option linter.unusedVariables false
set_option linter.unusedVariables false
/-- A slice that is nil or the beginning of a block, as an entry. -/
theorem Li.ent {w : World} {A : Option Addr} {m g B : Nat} {l r : List Bool} (h : Li w A m g l r) (hm : l.length = m) (hw : ∀ x ∈ l, (Lit.bool x).wf = true) (hB : B ≤ g) (hmm : m ≤ 140737488351232) :
    ∃ E : Ent, E.val = .slice A m m ∧ E.Ok w B ∧ (E.a = none ∨ E.a = some g) ∧ (A = none → E.a = none) := by
  rcases h with ⟨h1, h2⟩ | ⟨h1, h2⟩
  · subst h1 h2
    exact ⟨⟨none, 0, 0, l, r⟩, rfl, ⟨⟨Nat.le_refl _, by show 0 ≤ _; omega, hm⟩, hw, .inl ⟨rfl, rfl, rfl⟩⟩, .inl rfl, fun _ => rfl⟩
  · subst h1
    exact ⟨⟨some g, m, m, l, r⟩, rfl, ⟨⟨Nat.le_refl _, by show m ≤ _; omega, hm⟩, hw, .inr ⟨g, rfl, hB, h2⟩⟩, .inr rfl, fun h => by cases h⟩

end Go.Proofs.Ytcmbdhmhkfhjfaa.L
namespace Go.Proofs.Ytcmbdhmhkfhjfaa
open Go.RowKit
set_option linter.unusedVariables false

end Go.Proofs.Ytcmbdhmhkfhjfaa
namespace Go.Proofs.Ytcmbdhmhkfhjfaa
open Go.RowKit
set_option linter.unusedVariables false

end Go.Proofs.Ytcmbdhmhkfhjfaa
namespace Go.Proofs.Ytcmbdhmhkfhjfaa
open Go.RowKit
set_option linter.unusedVariables false

end Go.Proofs.Ytcmbdhmhkfhjfaa
namespace Go.Proofs.Ytcmbdhmhkfhjfaa
open Go.RowKit
set_option linter.unusedVariables false

def exA : Req := ⟨3, 0, 2, [], [], []⟩
def exR : Rep := ⟨0, [], [1, 512], []⟩
theorem exA_chk : chkQ exA = 0 := by decide
theorem exR_chk : chkR exA exR = 0 := by decide

abbrev exAO : Obj := .cells #[.int .i64 3, .int .i64 0, .int .i64 2, .slice none 0 0, .slice none 0 0, .slice none 0 0] 29 (0, 0)
end Go.Proofs.Ytcmbdhmhkfhjfaa
namespace Go.Proofs.Ytcmbdhmhkfhjfaa
open Go.RowKit
set_option linter.unusedVariables false

end Go.Proofs.Ytcmbdhmhkfhjfaa
namespace Go.Proofs.Ytcmbdhmhkfhjfaa
open Go.RowKit
set_option linter.unusedVariables false

theorem info_words : (Try.prog.info? 26).map (fun i => (i.zero, i.size, i.bytes)) = some (some (.slice none 0 0), 1, 24) := by kernel_rfl

/-- The slice v owns the lists fs, each of which is a slice of the call's own. -/
def WOwn (w : World) (base : Nat) (v : Value) (fs : List (List Int)) : Prop :=
  ∃ L : List (List Int × Value), L.map Prod.fst = fs ∧ w.ownsRow base 26 1 v L.length (L.map Prod.snd) ∧ ∀ p ∈ L, Own .u16 66 w base p.2 p.1
theorem WOwn.nil (w : World) (base : Nat) : WOwn w base (.slice none 0 0) [] := ⟨[], rfl, World.ownsRow_nil _ _ _ _, fun p hp => by cases hp⟩
theorem Own.keep {k : IntKind} {e : TypeId} {w w' : World} {base : Nat} {v : Value} {xs : List Int} {row : Option Nat} (h : Own k e w base v xs) (hg : w.grownBy w' row) (hr : v.ownBlock = none ∨ v.ownBlock ≠ row) : Own k e w' base v xs := World.ownsRow.kept h hg hr
theorem rowW_below {w w' : World} {base B n : Nat} {v : Value} {xs : List Value} (h : w.ownsRow base 26 1 v n xs) (hb : Below B w w') (hB : w.heap.size ≤ B) : w'.ownsRow base 26 1 v n xs := by
  refine h.kept (row := none) ⟨hb.os, hb.tape, hb.output, hb.size, fun i hi _ => hb.block i (by omega)⟩ ?_
  cases hv : v.ownBlock with
  | none => exact .inl rfl
  | some g => exact .inr (by simp)
theorem WOwn.below {w w' : World} {base B : Nat} {v : Value} {fs : List (List Int)} (h : WOwn w base v fs) (hb : Below B w w') (hB : w.heap.size ≤ B) : WOwn w' base v fs := by
  obtain ⟨L, h1, h2, h3⟩ := h
  exact ⟨L, h1, rowW_below h2 hb hB, fun p hp => (h3 p hp).below hb hB⟩
theorem WOwn.block {w : World} {base : Nat} {v : Value} {fs : List (List Int)} (h : WOwn w base v fs) : ∀ g, v.ownBlock = some g → base ≤ g ∧ g < w.heap.size := by
  obtain ⟨L, h1, h2, h3⟩ := h
  exact World.ownsRow.lt h2
theorem WOwn.set {w : World} {base : Nat} {v : Value} {fs : List (List Int)} (h : WOwn w base v fs) {g : Nat} (hg : g < base) (i : Nat) (u : Value) : WOwn (w.setCell ⟨g, i, none⟩ u) base v fs := by
  obtain ⟨L, h1, h2, h3⟩ := h
  exact ⟨L, h1, h2.kept (grown_setCell (World.grownBy.refl _ _) i u) (.inr fun hv => by have := (World.ownsRow.lt h2 g hv).1; omega), fun p hp => (h3 p hp).set hg i u⟩
/-- The block of a list of lists is none of its lists' own. -/
theorem words_far {w : World} {base base' : Nat} {v u : Value} {n : Nat} {xs : List Value} {ys : List Int} (h : w.ownsRow base 26 1 v n xs) (k : Own .u16 66 w base' u ys) : u.ownBlock = none ∨ u.ownBlock ≠ v.ownBlock := by
  rcases k.2 with ⟨rfl, _⟩ | ⟨g, cap, cur0, rfl, _, hg, _⟩
  · exact .inl rfl
  · refine .inr fun e => ?_
    rcases h.2 with ⟨rfl, _⟩ | ⟨g', cap', cur, rfl, _, hg', _⟩
    · cases e
    · have e : some g = some g' := e
      injection e with e
      subst e
      rw [hg] at hg'
      injection hg' with hg'
      injection hg' with _ ht
      exact absurd ht (by decide)
theorem WOwn.len {w : World} {base : Nat} {v : Value} {fs : List (List Int)} (h : WOwn w base v fs) : ∃ A c, v = .slice A fs.length c ∧ fs.length ≤ c := by
  obtain ⟨L, rfl, h2, h3⟩ := h
  rw [List.length_map]
  rcases h2.2 with ⟨rfl, h0⟩ | ⟨g, cap, cur, rfl, _, _, h4, _⟩
  · rw [h0]; exact ⟨none, 0, rfl, Nat.le_refl _⟩
  · exact ⟨_, cap, rfl, h4⟩
/-- As a list of lists that is read. -/
theorem WOwn.frow {w : World} {base : Nat} {A : Option Addr} {n c : Nat} {fs : List (List Int)} (h : WOwn w base (.slice A n c) fs) (hw : ∀ xs ∈ fs, ∀ x ∈ xs, (Lit.int .u16 x).wf = true) : FRow w w.heap.size A fs := by
  obtain ⟨L, rfl, h2, h3⟩ := h
  intro h0
  rw [List.length_map] at h0
  rcases h2.2 with ⟨e, h9⟩ | ⟨g, cap, cur, e, hb, hg, h4, h5, h6, h7⟩
  · omega
  · injection e with e1 e2 e3
    subst e1 e2 e3
    refine ⟨g, 0, rfl, block_lt hg, fun i hi => ?_⟩
    rw [List.length_map] at hi
    have hown := h3 _ (List.getElem_mem hi)
    have hfst : nthF (L.map Prod.fst) i = (L[i]).1 := by simp [nthF, List.getD_eq_getElem?_getD, List.getElem?_eq_getElem hi]
    obtain ⟨Ai, ci, hv, hrow, hle, _⟩ := hown.row (hw _ (List.mem_map.2 ⟨_, List.getElem_mem hi, rfl⟩))
    refine ⟨Ai, ci, ?_, by rw [hfst]; exact hrow, by rw [hfst]; exact hle⟩
    rw [Nat.zero_add, cell_of_row w g i cur _ _ hg, hfst, ← hv, ← Array.getElem?_toList]
    have : (cur.toList.take (L.length * 1))[i]? = (L.map Prod.snd)[i]? := by rw [h7]
    rw [List.getElem?_take_of_lt (by omega)] at this
    rw [this, List.getElem?_map, List.getElem?_eq_getElem hi]
    rfl

section
variable {P : Program}
/-- 'append(v, xs)' of a list of words in a box. -/
theorem wpList_append_words {ops : Array Oper} {rest : List Oper} {o : Oper} {a : Act} {Q : Exit → Act → World → Prop} (w : World) (hgd : o.guard = none) (s x : Operand) (t : TypeId)
    (ho : o.op = .call { callee := .builtin .append, args := #[s, x], argTypes := #[t, t] }) (base : Nat) (ht : P.underlying t = some (.slice 26)) (hi : (P.info? 26).map (fun i => (i.zero, i.size, i.bytes)) = some (some (.slice none 0 0), 1, 24))
    (v : Value) (fs : List (List Int)) (hs : a.eval s = v) (hown : WOwn w base v fs) (ad : Addr) (c : Nat) (xs : List Int) (A : Option Addr) (m cc : Nat) (hx : a.eval x = .slice (some ad) 1 c)
    (hk : Own .u16 66 w base (.slice A m cc) xs) (hnews : ∀ j u, [Value.slice A m cc][j]? = some u → w.cell? (ad.add j) = some u) (hb : fs.length ≤ 1000000) (hbase : base ≤ w.heap.size)
    (h : ∀ v' w', WOwn w' base v' (fs ++ [xs]) → w.grownBy w' v.ownBlock → wpList P ops Q rest (a.put o.dst v') w') : wpList P ops Q (o :: rest) a w := by
  obtain ⟨i, hi1, hz, hsz, hby⟩ := info_parts hi
  obtain ⟨L, rfl, h2, h3⟩ := hown
  rw [List.length_map] at hb
  refine wpList_append_own w hgd s x t ho base 26 i _ 1 24 ht hi1 hz hsz hby rfl (by omega) v L.length (L.map Prod.snd) hs h2 ad 1 c [.slice A m cc] hx rfl hnews (by simp [Value.oneCell']) (by simp only [maxLen]; omega) (by omega) hbase fun v' w' h4 h5 _ => h v' w' ?_ h5
  refine ⟨L ++ [(xs, .slice A m cc)], by simp, ?_, fun p hp => ?_⟩
  · rw [List.map_append, List.length_append]
    exact h4
  · rcases List.mem_append.1 hp with hp | hp
    · exact (h3 p hp).keep h5 (words_far h2 (h3 p hp))
    · simp only [List.mem_singleton] at hp
      subst hp
      exact hk.keep h5 (words_far h2 hk)
end
/-- The cell of a list in a new box. -/
theorem box_words (w : World) (t : TypeId) (x : Value) : ∀ j u, [x][j]? = some u → (w.alloc (.cells #[x] t)).cell? ((⟨w.heap.size, 0, none⟩ : Addr).add j) = some u := by
  intro j u hu
  rw [Go.WideShapes.add_plain, Nat.zero_add, World.cell?_alloc_at _ _ _ _ rfl]
  simpa using hu
theorem TB.set1 {w0 w : World} {B : Nat} {o2 : Obj} {cs : Array Value} {t : TypeId} (h : TB w0 B (.cells cs t (0, 0)) o2 w) (i : Nat) (v : Value) : TB w0 B (.cells (cs.setIfInBounds i v) t (0, 0)) o2 (w.setCell ⟨B, i, none⟩ v) :=
  ⟨box_set h.ret i v, (Below.heap_setCell w ⟨B, i, none⟩ v (B + 1) (by simp)).trans h.box, below_setCell h.bel (Nat.le_refl _) i v⟩
theorem TB.r4 {w0 w : World} {B : Nat} {o2 : Obj} {t : TypeId} {v0 v1 v2 v3 : Value} (h : TB w0 B (.cells #[v0, v1, v2, v3] t (0, 0)) o2 w) :
    w.cell? ⟨B, 0, none⟩ = some v0 ∧ w.cell? ⟨B, 1, none⟩ = some v1 ∧ w.cell? ⟨B, 2, none⟩ = some v2 ∧ w.cell? ⟨B, 3, none⟩ = some v3 ∧ ∀ i, w.frozen? ⟨B, i, none⟩ = false :=
  ⟨cell_of_row w B 0 _ _ _ h.ret, cell_of_row w B 1 _ _ _ h.ret, cell_of_row w B 2 _ _ _ h.ret, cell_of_row w B 3 _ _ _ h.ret, fun i => block_frozen w B i _ _ h.ret⟩
theorem Own.put4 {k : IntKind} {e : TypeId} {w : World} {base : Nat} {v : Value} {xs : List Int} (h : Own k e w base v xs) {g : Nat} (hg : g < base) (v0 v1 v2 v3 : Value) : Own k e (put4 w g v0 v1 v2 v3) base v xs :=
  (((h.set hg 0 v0).set hg 1 v1).set hg 2 v2).set hg 3 v3
theorem L.Own.put4 {k : Unit} {e : TypeId} {w : World} {base : Nat} {v : Value} {xs : List Bool} (h : L.Own k e w base v xs) {g : Nat} (hg : g < base) (v0 v1 v2 v3 : Value) : L.Own k e (put4 w g v0 v1 v2 v3) base v xs :=
  (((h.set hg 0 v0).set hg 1 v1).set hg 2 v2).set hg 3 v3
theorem WOwn.put4 {w : World} {base : Nat} {v : Value} {fs : List (List Int)} (h : WOwn w base v fs) {g : Nat} (hg : g < base) (v0 v1 v2 v3 : Value) : WOwn (put4 w g v0 v1 v2 v3) base v fs :=
  (((h.set hg 0 v0).set hg 1 v1).set hg 2 v2).set hg 3 v3
theorem takeF_step (fs : List (List Int)) (k : Nat) (h : k < fs.length) : fs.take (k + 1) = fs.take k ++ [nthF fs k] := by
  rw [List.take_succ_eq_append_getElem h]
  simp [nthF, List.getD_eq_getElem?_getD, List.getElem?_eq_getElem h]
/-- The words of an answer's files are words. -/
theorem FRow.wf {w : World} {B : Nat} {A : Option Addr} {fs : List (List Int)} (h : FRow w B A fs) : ∀ xs ∈ fs, ∀ x ∈ xs, (Lit.int .u16 x).wf = true := by
  intro xs hxs
  obtain ⟨i, hi, rfl⟩ := List.mem_iff_getElem.1 hxs
  obtain ⟨b, o, _, _, hc⟩ := h (by omega)
  obtain ⟨Ai, ci, _, h2, _⟩ := hc i hi
  have : nthF fs i = fs[i] := by simp [nthF, List.getD_eq_getElem?_getD, List.getElem?_eq_getElem hi]
  rw [this] at h2
  exact h2.1

theorem farW {w : World} {base base' : Nat} {v u : Value} {fs : List (List Int)} {ys : List Int} (k : Own .u16 66 w base' u ys) (h : WOwn w base v fs) : u.ownBlock = none ∨ u.ownBlock ≠ v.ownBlock := by
  obtain ⟨L, _, h2, _⟩ := h
  exact words_far h2 k
theorem farB {w : World} {base base' : Nat} {v u : Value} {fs : List (List Int)} {ys : List Bool} (k : L.Own () 4 w base' u ys) (h : WOwn w base v fs) : u.ownBlock = none ∨ u.ownBlock ≠ v.ownBlock := by
  obtain ⟨L, _, h2, _⟩ := h
  rcases k.2 with ⟨rfl, _⟩ | ⟨g, cap, cur0, rfl, _, hg, _⟩
  · exact .inl rfl
  · refine .inr fun e => ?_
    rcases h2.2 with ⟨rfl, _⟩ | ⟨g', cap', cur, rfl, _, hg', _⟩
    · cases e
    · have e : some g = some g' := e
      injection e with e
      subst e
      rw [hg] at hg'
      injection hg' with hg'
      injection hg' with _ ht
      exact absurd ht (by decide)
theorem L.Own.view3 {k : Unit} {e : TypeId} {w : World} {base : Nat} {v : Value} {xs : List Bool} (h : L.Own k e w base v xs) : ∃ A n c, v = .slice A n c ∧ L.Row k w w.heap.size A xs ∧ xs.length = n := by
  obtain ⟨A, c, e, hr, _⟩ := h.row (fun _ _ => rfl)
  exact ⟨A, _, c, e, hr, rfl⟩
theorem Own.view3 {k : IntKind} {e : TypeId} {w : World} {base : Nat} {v : Value} {xs : List Int} (h : Own k e w base v xs) (hw : ∀ x ∈ xs, (Lit.int k x).wf = true) : ∃ A n c, v = .slice A n c ∧ Row k w w.heap.size A xs ∧ xs.length = n := by
  obtain ⟨A, c, e, hr, _⟩ := h.row hw
  exact ⟨A, _, c, e, hr, rfl⟩
end Go.Proofs.Ytcmbdhmhkfhjfaa
namespace Go.Proofs.Ytcmbdhmhkfhjfaa.W
open Go.RowKit
set_option linter.unusedVariables false
/-- Rows that lie in blocks of their own, each known whole (or nil), their slices in the array of block gl. -/
structure Parts (w : World) (B gl m : Nat) (A : Nat → Option Addr) (n c : Nat → Nat) (l r : Nat → List Int) : Prop where
  at_ : ∀ k, k < m → w.cell? ⟨gl, k, none⟩ = some (.slice (A k) (n k) (c k))
  size : ∀ k, k < m → n k ≤ c k ∧ c k ≤ 70368744177664 ∧ (l k).length = c k
  wf : ∀ k, k < m → ∀ x ∈ l k, (Lit.int .u16 x).wf = true
  lies : ∀ k, k < m → (A k = none ∧ n k = 0 ∧ c k = 0) ∨ ∃ g, A k = some ⟨g, 0, none⟩ ∧ B ≤ g ∧ g ≠ gl ∧ w.heap[g]? = some (.cells (blk .u16 (l k ++ r k)) 66 (0, 0))
  apart : ∀ i k, i < m → k < m → i ≠ k → ∀ g, A i = some ⟨g, 0, none⟩ → A k ≠ some ⟨g, 0, none⟩
  gl_lt : gl < w.heap.size

theorem Parts.row {w : World} {B gl m : Nat} {A : Nat → Option Addr} {n c : Nat → Nat} {l r : Nat → List Int} (h : Parts w B gl m A n c l r) {k : Nat} (hk : k < m) :
    Row .u16 w w.heap.size (A k) ((l k).take (n k)) ∧ ((l k).take (n k)).length = n k := by
  have hs := h.size k hk
  refine ⟨?_, by simp; omega⟩
  rcases h.lies k hk with ⟨ha, hn, hc⟩ | ⟨g, ha, _, _, hg⟩
  · rw [hn, List.take_zero]; exact Row.nil _ _ _ _
  · rw [ha]
    exact (Row.of_block hg _ (fun x hx => h.wf k hk x (List.mem_of_mem_take hx)) ((List.take_prefix _ _).trans (List.prefix_append _ _))).more (block_lt hg)
/-- A step that leaves all old blocks leaves the parts. -/
theorem Parts.below {w w' : World} {B gl m : Nat} {A : Nat → Option Addr} {n c : Nat → Nat} {l r : Nat → List Int} (h : Parts w B gl m A n c l r) (hb : Below w.heap.size w w') : Parts w' B gl m A n c l r where
  at_ := fun k hk => (hb.cell (p := ⟨gl, k, none⟩) h.gl_lt).trans (h.at_ k hk)
  size := h.size
  wf := h.wf
  lies := fun k hk => by
    rcases h.lies k hk with h0 | ⟨g, ha, hB, hne, hg⟩
    · exact .inl h0
    · exact .inr ⟨g, ha, hB, hne, (hb.block g (block_lt hg)).trans hg⟩
  apart := h.apart
  gl_lt := Nat.lt_of_lt_of_le h.gl_lt hb.size
/-- One part is written over. -/
theorem Parts.spoil {w w' : World} {B gl m : Nat} {A : Nat → Option Addr} {n c : Nat → Nat} {l r : Nat → List Int} (h : Parts w B gl m A n c l r) {i g : Nat} (hi : i < m) (ha : A i = some ⟨g, 0, none⟩)
    (hg : w'.heap[g]? = some (.cells (blk .u16 (spoil16 (c i) (l i) ++ r i)) 66 (0, 0))) (hgr : w.grownBy w' (some g)) : Parts w' B gl m A n c (fun k => if k = i then spoil16 (c i) (l i) else l k) r where
  at_ := fun k hk => by
    rcases h.lies i hi with ⟨h0, _⟩ | ⟨g', ha', _, hne, _⟩
    · rw [ha] at h0; cases h0
    · rw [ha] at ha'
      injection ha' with ha'
      injection ha' with ha'
      subst ha'
      exact (World.cell?_of_block (hgr.block gl h.gl_lt (fun e => hne (by injection e with e; exact e.symm)))).trans (h.at_ k hk)
  size := fun k hk => by
    have := h.size k hk
    refine ⟨this.1, this.2.1, ?_⟩
    split
    · rename_i e; subst e; rw [spoil16_length]; exact this.2.2
    · exact this.2.2
  wf := fun k hk => by
    show ∀ x ∈ (if k = i then spoil16 (c i) (l i) else l k), _
    split
    · exact spoil16_wf _ _ (h.wf i hi)
    · exact h.wf k hk
  lies := fun k hk => by
    by_cases e : k = i
    · subst e
      rcases h.lies k hi with ⟨h0, _⟩ | ⟨g', ha', hB, hne, _⟩
      · rw [ha] at h0; cases h0
      · rw [ha] at ha'
        injection ha' with ha'
        injection ha' with ha'
        subst ha'
        exact .inr ⟨g, ha, hB, hne, by rw [if_pos rfl]; exact hg⟩
    · rcases h.lies k hk with h0 | ⟨g', ha', hB, hne, hg'⟩
      · exact .inl h0
      · refine .inr ⟨g', ha', hB, hne, ?_⟩
        rw [if_neg e, hgr.block g' (block_lt hg') (fun e' => ?_)]
        · exact hg'
        · injection e' with e'
          subst e'
          exact h.apart k i hk hi e _ ha' ha
  apart := h.apart
  gl_lt := Nat.lt_of_lt_of_le h.gl_lt hgr.size

/-- A slice that is handed to ApartWords: nil, or the beginning of a block that is known whole. -/
structure Ent where
  a : Option Nat
  n : Nat
  c : Nat
  l : List Int
  r : List Int
def Ent.none_ : Ent := ⟨none, 0, 0, [], []⟩
def Ent.adr (e : Ent) : Option Addr := e.a.map fun g => ⟨g, 0, none⟩
def Ent.val (e : Ent) : Value := .slice e.adr e.n e.c
structure Ent.Ok (w : World) (B : Nat) (e : Ent) : Prop where
  size : e.n ≤ e.c ∧ e.c ≤ 70368744177664 ∧ e.l.length = e.c
  wf : ∀ x ∈ e.l, (Lit.int .u16 x).wf = true
  lies : (e.a = none ∧ e.n = 0 ∧ e.c = 0) ∨ ∃ g, e.a = some g ∧ B ≤ g ∧ w.heap[g]? = some (.cells (blk .u16 (e.l ++ e.r)) 66 (0, 0))
def Ent.Far (e e' : Ent) : Prop := ∀ g, e.a = some g → e'.a ≠ some g
theorem Ent.adr_some {e : Ent} {g : Nat} (h : e.adr = some ⟨g, 0, none⟩) : e.a = some g := by
  unfold Ent.adr at h
  cases ha : e.a with
  | none => rw [ha] at h; cases h
  | some q => rw [ha] at h; simp at h; rw [h]

theorem parts_of_list (w : World) (B : Nat) (L : List Ent) (t : TypeId) (hok : ∀ e ∈ L, e.Ok w B) (hfar : L.Pairwise Ent.Far) :
    Parts (w.alloc (.cells (L.map Ent.val).toArray t)) B w.heap.size L.length (fun k => (L.getD k Ent.none_).adr) (fun k => (L.getD k Ent.none_).n) (fun k => (L.getD k Ent.none_).c) (fun k => (L.getD k Ent.none_).l) (fun k => (L.getD k Ent.none_).r) where
  at_ := fun k hk => by
    rw [World.cell?_alloc_at _ _ _ _ rfl]
    simp [List.getElem?_eq_getElem hk, List.getD_eq_getElem?_getD, Ent.val]
  size := fun k hk => by
    simp only [List.getD_eq_getElem?_getD, List.getElem?_eq_getElem hk, Option.getD_some]
    exact (hok _ (List.getElem_mem hk)).size
  wf := fun k hk => by
    simp only [List.getD_eq_getElem?_getD, List.getElem?_eq_getElem hk, Option.getD_some]
    exact (hok _ (List.getElem_mem hk)).wf
  lies := fun k hk => by
    simp only [List.getD_eq_getElem?_getD, List.getElem?_eq_getElem hk, Option.getD_some]
    rcases (hok _ (List.getElem_mem hk)).lies with ⟨h1, h2⟩ | ⟨g, h1, h2, h3⟩
    · exact .inl ⟨by rw [Ent.adr, h1]; rfl, h2⟩
    · have := block_lt h3
      exact .inr ⟨g, by rw [Ent.adr, h1]; rfl, h2, by omega, (Below.heap_alloc w _ g this).trans h3⟩
  apart := fun i k hi hk hne g h1 h2 => by
    simp only [List.getD_eq_getElem?_getD, List.getElem?_eq_getElem hi, List.getElem?_eq_getElem hk, Option.getD_some] at h1 h2
    have h1 := Ent.adr_some h1
    have h2 := Ent.adr_some h2
    rcases Nat.lt_or_gt_of_ne hne with h | h
    · exact List.pairwise_iff_getElem.1 hfar i k hi hk h g h1 h2
    · exact List.pairwise_iff_getElem.1 hfar k i hk hi h g h2 h1
  gl_lt := by simp

end Go.Proofs.Ytcmbdhmhkfhjfaa.W
namespace Go.Proofs.Ytcmbdhmhkfhjfaa.W
open Go.RowKit
set_option linter.unusedVariables false
/-- A slice that is nil or the beginning of a block, as an entry. -/
theorem Li.ent {w : World} {A : Option Addr} {m g B : Nat} {l r : List Int} (h : Li w A m g l r) (hm : l.length = m) (hw : ∀ x ∈ l, (Lit.int .u16 x).wf = true) (hB : B ≤ g) (hmm : m ≤ 70368744173568) :
    ∃ E : Ent, E.val = .slice A m m ∧ E.Ok w B ∧ (E.a = none ∨ E.a = some g) ∧ (A = none → E.a = none) := by
  rcases h with ⟨h1, h2⟩ | ⟨h1, h2⟩
  · subst h1 h2
    exact ⟨⟨none, 0, 0, l, r⟩, rfl, ⟨⟨Nat.le_refl _, by show 0 ≤ _; omega, hm⟩, hw, .inl ⟨rfl, rfl, rfl⟩⟩, .inl rfl, fun _ => rfl⟩
  · subst h1
    exact ⟨⟨some g, m, m, l, r⟩, rfl, ⟨⟨Nat.le_refl _, by show m ≤ _; omega, hm⟩, hw, .inr ⟨g, rfl, hB, h2⟩⟩, .inr rfl, fun h => by cases h⟩

end Go.Proofs.Ytcmbdhmhkfhjfaa.W
namespace Go.Proofs.Ytcmbdhmhkfhjfaa
open Go.RowKit
set_option linter.unusedVariables false
/-- A call returns a pair: a list of words of its own, and no error. -/
def MakesW (w : World) (xs : List Int) (e : Ending) (w' : World) : Prop := ∃ v, e = .returned (.tuple #[v, .int .i64 0]) ∧ Own .u16 66 w' w.heap.size v xs ∧ Below w.heap.size w w'
end Go.Proofs.Ytcmbdhmhkfhjfaa
namespace Go.Proofs.Ytcmbdhmhkfhjfaa
open Go.RowKit
set_option linter.unusedVariables false

def TB3 (w0 : World) (B : Nat) (o1 o2 o3 : Obj) (w : World) : Prop := TB w0 B o1 o2 w ∧ w.heap[B + 2]? = some o3
section
variable {w0 w w' : World} {B : Nat} {o1 o2 o3 : Obj}
theorem TB3.new (w : World) (c1 c2 c3 : Array Value) (t u v : TypeId) : TB3 w w.heap.size (.cells c1 t (0, 0)) (.cells c2 u (0, 0)) (.cells c3 v (0, 0)) (((w.alloc (.cells c1 t)).alloc (.cells c2 u)).alloc (.cells c3 v)) :=
  ⟨(TB.new2 w c1 c2 t u).alloc _, heap_new_at _ _ (by simp)⟩
theorem TB3.bel (h : TB3 w0 B o1 o2 o3 w) : Below B w0 w := h.1.bel
theorem TB3.lt (h : TB3 w0 B o1 o2 o3 w) : B + 2 < w.heap.size := block_lt h.2
theorem TB3.below (h : TB3 w0 B o1 o2 o3 w) (hb : Below w.heap.size w w') : TB3 w0 B o1 o2 o3 w' := ⟨h.1.below hb, (hb.block _ (block_lt h.2)).trans h.2⟩
theorem TB3.alloc (h : TB3 w0 B o1 o2 o3 w) (o : Obj) : TB3 w0 B o1 o2 o3 (w.alloc o) := h.below (bel_alloc w o)
theorem TB3.grown {row : Option Nat} (h : TB3 w0 B o1 o2 o3 w) (hg : w.grownBy w' row) (hr : ∀ g, row = some g → B + 3 ≤ g) : TB3 w0 B o1 o2 o3 w' :=
  ⟨h.1.grown hg (fun g e => by have := hr g e; omega), (hg.block (B + 2) h.lt (fun e => by have := hr _ e.symm; omega)).trans h.2⟩
theorem TB3.set {cs : Array Value} {t : TypeId} (h : TB3 w0 B o1 o2 (.cells cs t (0, 0)) w) (i : Nat) (v : Value) : TB3 w0 B o1 o2 (.cells (cs.setIfInBounds i v) t (0, 0)) (w.setCell ⟨B + 2, i, none⟩ v) :=
  ⟨h.1.far (by omega) i v, box_set h.2 i v⟩
theorem TB3.c4 {t : TypeId} {v0 v1 v2 v3 : Value} (h : TB3 w0 B o1 o2 (.cells #[v0, v1, v2, v3] t (0, 0)) w) :
    w.cell? ⟨B + 2, 0, none⟩ = some v0 ∧ w.cell? ⟨B + 2, 1, none⟩ = some v1 ∧ w.cell? ⟨B + 2, 2, none⟩ = some v2 ∧ w.cell? ⟨B + 2, 3, none⟩ = some v3 ∧ ∀ i, w.frozen? ⟨B + 2, i, none⟩ = false :=
  ⟨cell_of_row w _ 0 _ _ _ h.2, cell_of_row w _ 1 _ _ _ h.2, cell_of_row w _ 2 _ _ _ h.2, cell_of_row w _ 3 _ _ _ h.2, fun i => block_frozen w _ i _ _ h.2⟩
end
theorem ownsRow_stays {w w' : World} {base n size : Nat} {t : TypeId} {v : Value} {xs : List Value} (h : w.ownsRow base t size v n xs) (hk : ∀ j, base ≤ j → j < w.heap.size → w'.heap[j]? = w.heap[j]?) : w'.ownsRow base t size v n xs := by
  rcases h with ⟨h0, h1 | ⟨g, cap, cur, hv, hb, hg, h2⟩⟩
  · exact ⟨h0, .inl h1⟩
  · exact ⟨h0, .inr ⟨g, cap, cur, hv, hb, (hk g hb (block_lt hg)).trans hg, h2⟩⟩
theorem Own.stays {k : IntKind} {e : TypeId} {w w' : World} {base : Nat} {v : Value} {xs : List Int} (h : Own k e w base v xs) (hk : ∀ j, base ≤ j → j < w.heap.size → w'.heap[j]? = w.heap[j]?) : Own k e w' base v xs := ownsRow_stays h hk
theorem L.Own.stays {k : Unit} {e : TypeId} {w w' : World} {base : Nat} {v : Value} {xs : List Bool} (h : L.Own k e w base v xs) (hk : ∀ j, base ≤ j → j < w.heap.size → w'.heap[j]? = w.heap[j]?) : L.Own k e w' base v xs := ownsRow_stays h hk
theorem WOwn.stays {w w' : World} {base : Nat} {v : Value} {fs : List (List Int)} (h : WOwn w base v fs) (hk : ∀ j, base ≤ j → j < w.heap.size → w'.heap[j]? = w.heap[j]?) : WOwn w' base v fs := by
  obtain ⟨L, h1, h2, h3⟩ := h
  exact ⟨L, h1, ownsRow_stays h2 hk, fun p hp => (h3 p hp).stays hk⟩
/-- A call returns an answer, whose lists are the call's own: they stay where the call's own blocks stay. -/
def OneR (w : World) (r : Rep) (e : Ending) (w' : World) : Prop :=
  ∃ (Bo Bs Bf : Option Addr) (mo ms mf eo es ef : Nat), e = .returned (.agg #[.int .i64 r.x, .slice Bo mo eo, .slice Bs ms es, .slice Bf mf ef]) ∧ (∀ w2 : World, (∀ j, w.heap.size ≤ j → j < w'.heap.size → w2.heap[j]? = w'.heap[j]?) → Repd w2 w2.heap.size r Bo Bs Bf mo ms mf) ∧ Below w.heap.size w w'
theorem wpk_files_wf {fl ys : List Int} (hw : ∀ x ∈ ys, (Lit.int .u8 x).wf = true) (k : Nat) : ∀ xs ∈ filesR fl ys k, ∀ x ∈ xs, (Lit.int .u16 x).wf = true := by
  intro xs hxs
  simp only [filesR, List.mem_map] at hxs
  obtain ⟨i, _, rfl⟩ := hxs
  exact wwords_wf _ (fun y hy => hw y (List.mem_of_mem_drop (List.mem_of_mem_take hy)))
theorem filesR_step (fl ys : List Int) (k : Nat) : filesR fl ys (k + 1) = filesR fl ys k ++ [fileAt fl ys k] := by simp [filesR, List.range_succ]
end Go.Proofs.Ytcmbdhmhkfhjfaa
namespace Go.Proofs.Ytcmbdhmhkfhjfaa
open Go.RowKit
set_option linter.unusedVariables false
set_option maxRecDepth 100000
attribute [local go_sem ↓] ldTag_fold stTag_fold bxTag_fold
attribute [local go_sem] bxTag_run

/-- Does a tag lie within addresses of a unit? -/
def inP (t : Tg) (un ki ad ct : Int) : Bool := decide (t.un = un ∧ t.ki = ki ∧ ad ≤ t.ad ∧ t.ad + widT t ≤ ad + ct)
theorem inP_iff {t : Tg} {un ki ad ct : Int} : inP t un ki ad ct = true ↔ t.un = un ∧ t.ki = ki ∧ ad ≤ t.ad ∧ t.ad + widT t ≤ ad + ct := decide_eq_true_iff
theorem inP_no {t : Tg} {un ki ad ct : Int} (h : ¬ (t.un = un ∧ t.ki = ki ∧ ad ≤ t.ad ∧ t.ad + widT t ≤ ad + ct)) : inP t un ki ad ct = false := decide_eq_false h

end Go.Proofs.Ytcmbdhmhkfhjfaa
namespace Go.Proofs.Ytcmbdhmhkfhjfaa
open Go.RowKit
set_option linter.unusedVariables false
set_option maxRecDepth 100000
attribute [local go_sem ↓] ldTag_fold stTag_fold bxTag_fold
attribute [local go_sem] bxTag_run

def bitK (k : Int) : Bool := decide (k = 1 ∨ k = 2)
theorem bitK_yes {k : Int} (h : k = 1 ∨ k = 2) : bitK k = true := decide_eq_true h
theorem bitK_no {k : Int} (h : ¬ (k = 1 ∨ k = 2)) : bitK k = false := decide_eq_false h
theorem bits_any (k : Int) (w : World) : Calls Try.prog 51 #[.int .i64 k] w fun e w' => e = .returned (.bool (bitK k)) ∧ w' = w := by
  by_cases h1 : k = 1
  · subst h1
    rw [show bitK 1 = true from rfl]
    go_enter Try.func51, Try.ntmps51
    go_wp2
    go_ret
    exact ⟨rfl, rfl⟩
  · have e1 : (k == 1) = false := beq_false_of_ne h1
    by_cases h2 : k = 2
    · subst h2
      rw [show bitK 2 = true from rfl]
      go_enter Try.func51, Try.ntmps51
      go_wp2
      go_ret
      exact ⟨rfl, rfl⟩
    · have e2 : (k == 2) = false := beq_false_of_ne h2
      rw [bitK_no (by omega)]
      go_enter Try.func51, Try.ntmps51
      go_wp2
      go_ret
      exact ⟨rfl, rfl⟩
theorem most_any (k : Int) (w : World) : Calls Try.prog 48 #[.int .i64 k] w fun e w' => e = .returned (.int .i64 (mostK k)) ∧ w' = w := by
  have hb := bits_any k w
  by_cases h : k = 1 ∨ k = 2
  · rw [bitK_yes h] at hb
    rw [show mostK k = 2000 from if_pos h]
    clear h
    go_enter Try.func48, Try.ntmps48
    go_wp2_with (go_at_call 51; refine hb.mono ?_; rintro e w' ⟨rfl, rfl⟩)
    go_ret
    exact ⟨rfl, rfl⟩
  · rw [bitK_no h] at hb
    rw [show mostK k = 125 from if_neg h]
    clear h
    go_enter Try.func48, Try.ntmps48
    go_wp2_with (go_at_call 51; refine hb.mono ?_; rintro e w' ⟨rfl, rfl⟩)
    go_ret
    exact ⟨rfl, rfl⟩
theorem bitValue_any (b : Bool) (w : World) : Calls Try.prog 52 #[.bool b] w fun e w' => e = .returned (.int .i64 (if b then 1 else 0)) ∧ w' = w := by
  cases b <;> (go_enter Try.func52, Try.ntmps52; go_wp2; go_ret; exact ⟨rfl, rfl⟩)

/-- Does a tag stand where a poll reads? -/
def bankB (t : Tg) (pu pk : Int) : Bool := decide (t.un = pu ∧ t.ki = pk)
theorem bankB_no {t : Tg} {pu pk : Int} (h : ¬ (t.un = pu ∧ t.ki = pk)) : bankB t pu pk = false := decide_eq_false h
theorem bankB_yes {t : Tg} {pu pk : Int} (h1 : t.un = pu) (h2 : t.ki = pk) : bankB t pu pk = true := decide_eq_true ⟨h1, h2⟩
theorem inBank_any (pu pk pa pc pe : Int) (Pt : Option Addr) (pn pm : Nat) (t : Tg) (w : World) : Calls Try.prog 47 #[tgV t, .agg #[.int .i64 pu, .int .i64 pk, .int .i64 pa, .int .i64 pc, .int .i64 pe, .slice Pt pn pm]] w fun e w' => e = .returned (.bool (bankB t pu pk)) ∧ Below w.heap.size w w' := by
  have hx0 := two_fst w (.cells (tgC t).toArray 49) (.cells #[.int .i64 pu, .int .i64 pk, .int .i64 pa, .int .i64 pc, .int .i64 pe, .slice Pt pn pm] 24)
  have hx1 := heap_alloc_two w (.cells (tgC t).toArray 49) (.cells #[.int .i64 pu, .int .i64 pk, .int .i64 pa, .int .i64 pc, .int .i64 pe, .slice Pt pn pm] 24)
  have bel0 := (bel_alloc w (.cells (tgC t).toArray 49)).alloc (by simp) (.cells #[.int .i64 pu, .int .i64 pk, .int .i64 pa, .int .i64 pc, .int .i64 pe, .slice Pt pn pm] 24)
  obtain ⟨a0, a1, a2, a3, a4⟩ := tgBox hx0
  obtain ⟨p0, p1, p2, p3, p4, p5⟩ := of6 hx1
  clear hx0 hx1 a0 a3 a4 p2 p3 p4 p5
  by_cases h1 : t.un = pu
  · by_cases h2 : t.ki = pk
    · rw [bankB_yes h1 h2]
      have f1 : (t.un == pu) = true := by simp [h1]
      have f2 : (t.ki == pk) = true := by simp [h2]
      clear h1 h2
      go_enter Try.func47, Try.ntmps47
      go_wp2
      go_ret
      exact ⟨rfl, bel0⟩
    · rw [bankB_no (fun h => h2 h.2)]
      have f1 : (t.un == pu) = true := by simp [h1]
      have f2 : (t.ki == pk) = false := beq_false_of_ne h2
      clear h1 h2
      go_enter Try.func47, Try.ntmps47
      go_wp2
      go_ret
      exact ⟨rfl, bel0⟩
  · rw [bankB_no (fun h => h1 h.1)]
    have f1 : (t.un == pu) = false := beq_false_of_ne h1
    clear h1
    go_enter Try.func47, Try.ntmps47
    go_wp2
    go_ret
    exact ⟨rfl, bel0⟩
end Go.Proofs.Ytcmbdhmhkfhjfaa
namespace Go.Proofs.Ytcmbdhmhkfhjfaa
open Go.RowKit
set_option linter.unusedVariables false
set_option maxRecDepth 100000
attribute [local go_sem ↓] ldTag_fold stTag_fold bxTag_fold
attribute [local go_sem] bxTag_run

/-- A tag's scale is loaded in one step. -/
def ldSc (v : Value) : Sem Value := Instr.loadAt 43 v
theorem ldSc_fold (v : Value) : Instr.loadAt 43 v = ldSc v := rfl
def scC (t : Tg) : List Value := [.bool t.we, .bool t.sg, .bool t.sw, .int .i64 t.mu, .int .i64 t.di, .int .i64 t.aa]
theorem size_sc : (Try.prog.info? 43).map (·.size) = some 6 := by kernel_rfl
theorem ldSc_run {w : World} {g : Nat} {t : Tg} {T : TypeId} (h : w.heap[g]? = some (.cells (tgC t).toArray T (0, 0))) : (ldSc (.pointer (some ⟨g, 5, none⟩))).run Try.prog w = .ok (.agg #[.bool t.we, .bool t.sg, .bool t.sw, .int .i64 t.mu, .int .i64 t.di, .int .i64 t.aa]) w := by
  refine run_loadAt_mid w g 5 _ (scC t) _ (fun j v hv => ?_) Try.underlying43 rfl size_sc
  have hr := rangeB h
  have hj : j < 6 := (List.getElem?_eq_some_iff.1 hv).1
  rw [← hr (5 + j) v (by obtain ⟨nm, un, ki, ad, ev, we, sg, sw, mu, di, aa, de, qu, ul, uh, la, lo, hi, hy⟩ := t; rcases j with _ | _ | _ | _ | _ | _ | j <;> first | exact hv | omega)]
  rw [Nat.zero_add]
attribute [local go_sem ↓] ldSc_fold

/-- What an answer says of a tag. -/
def valT (t : Tg) (pa : Int) (on : List Bool) (set : List Int) : Int :=
  if t.ki = 1 ∨ t.ki = 2 then (if L.nth on (t.ad - pa).toNat = true then 1 else 0) else valN t.sc (rawN t.sc ((set.drop (t.ad - pa).toNat).take (widT t).toNat))

/-- A piece of a row. -/
theorem Row.piece {k : IntKind} {w : World} {B b o : Nat} {xs : List Int} (h : Row k w B (some ⟨b, o, none⟩) xs) (i m : Nat) : Row k w B (some ⟨b, o + i, none⟩) ((xs.drop i).take m) := (h.drop i).front m
end Go.Proofs.Ytcmbdhmhkfhjfaa
namespace Go.Proofs.Ytcmbdhmhkfhjfaa
open Go.RowKit
set_option linter.unusedVariables false

end Go.Proofs.Ytcmbdhmhkfhjfaa
namespace Go.Proofs.Ytcmbdhmhkfhjfaa
open Go.RowKit
set_option linter.unusedVariables false

end Go.Proofs.Ytcmbdhmhkfhjfaa
namespace Go.Proofs.Ytcmbdhmhkfhjfaa
open Go.RowKit
set_option linter.unusedVariables false

end Go.Proofs.Ytcmbdhmhkfhjfaa
namespace Go.Proofs.Ytcmbdhmhkfhjfaa
open Go.RowKit
set_option linter.unusedVariables false

end Go.Proofs.Ytcmbdhmhkfhjfaa
namespace Go.Proofs.Ytcmbdhmhkfhjfaa
open Go.RowKit
set_option linter.unusedVariables false

end Go.Proofs.Ytcmbdhmhkfhjfaa
namespace Go.Proofs.Ytcmbdhmhkfhjfaa
open Go.RowKit
set_option linter.unusedVariables false

/-- The slice v is nil and xs empty, or v begins a block of the call's own, whose cells are the integers xs, and others behind them. -/
def KOwn (k : IntKind) (e : TypeId) (w : World) (base : Nat) (v : Value) (xs : List Int) : Prop :=
  (v = .slice none 0 0 ∧ xs = []) ∨
  ∃ (g n cap : Nat) (r : List Int), v = .slice (some ⟨g, 0, none⟩) n cap ∧ base ≤ g ∧ xs.length = n ∧ w.heap[g]? = some (.cells (blk k (xs ++ r)) e (0, 0)) ∧ n ≤ cap ∧ cap ≤ maxLen ∧ xs.length + r.length = cap ∧ (∀ x ∈ r, (Lit.int k x).wf = true)
theorem KOwn.nil (k : IntKind) (e : TypeId) (w : World) (base : Nat) : KOwn k e w base (.slice none 0 0) [] := .inl ⟨rfl, rfl⟩
theorem KOwn.below {k : IntKind} {e : TypeId} {w w' : World} {base B : Nat} {v : Value} {xs : List Int} (h : KOwn k e w base v xs) (hb : Below B w w') (hB : w.heap.size ≤ B) : KOwn k e w' base v xs := by
  rcases h with h | ⟨g, n, cap, r, h1, h2, h3, h4, h5⟩
  · exact .inl h
  · exact .inr ⟨g, n, cap, r, h1, h2, h3, (hb.block g (by have := block_lt h4; omega)).trans h4, h5⟩
theorem KOwn.drewN {k : IntKind} {e : TypeId} {w : World} {base : Nat} {v : Value} {xs : List Int} (h : KOwn k e w base v xs) (n : Nat) : KOwn k e (w.drewN n) base v xs := h
theorem KOwn.mono {k : IntKind} {e : TypeId} {w : World} {base base' : Nat} {v : Value} {xs : List Int} (h : KOwn k e w base v xs) (hb : base' ≤ base) : KOwn k e w base' v xs := by
  rcases h with h | ⟨g, n, cap, r, h1, h2, h3⟩
  · exact .inl h
  · exact .inr ⟨g, n, cap, r, h1, by omega, h3⟩
theorem KOwn.block {k : IntKind} {e : TypeId} {w : World} {base : Nat} {v : Value} {xs : List Int} (h : KOwn k e w base v xs) : ∀ g, v.ownBlock = some g → base ≤ g ∧ g < w.heap.size := by
  intro g hg
  rcases h with ⟨rfl, _⟩ | ⟨g', n, cap, r, rfl, h2, h3, h4, h5⟩
  · cases hg
  · injection hg with hg
    subst hg
    exact ⟨h2, block_lt h4⟩
theorem KOwn.own {k : IntKind} {e : TypeId} {w : World} {base : Nat} {v : Value} {xs : List Int} (h : KOwn k e w base v xs) : Own k e w base v xs := by
  rcases h with ⟨rfl, rfl⟩ | ⟨g, n, cap, r, rfl, h2, h3, h4, h5, h6, h7, _⟩
  · exact Own.nil _ _ _ _
  · subst h3
    refine ⟨by simp, .inr ⟨g, cap, _, rfl, h2, h4, h5, h6, by rw [blk_size, List.length_append]; omega, ?_⟩⟩
    rw [Nat.mul_one]
    simp only [blk, List.map_append]
    rw [List.take_left' (by simp)]
theorem KOwn.row {k : IntKind} {e : TypeId} {w : World} {base : Nat} {v : Value} {xs : List Int} (h : KOwn k e w base v xs) (hw : ∀ x ∈ xs, (Lit.int k x).wf = true) :
    ∃ A c, v = .slice A xs.length c ∧ Row k w w.heap.size A xs ∧ xs.length ≤ c ∧ c ≤ maxLen := h.own.row hw
theorem KOwn.kept {k : IntKind} {e : TypeId} {w w' : World} {base : Nat} {v : Value} {xs : List Int} {row : Option Nat} (h : KOwn k e w base v xs) (hg : w.grownBy w' row) (hne : v.ownBlock = none ∨ v.ownBlock ≠ row) : KOwn k e w' base v xs := by
  rcases h with h | ⟨g, n, cap, r, rfl, h2, h3, h4, h5⟩
  · exact .inl h
  · refine .inr ⟨g, n, cap, r, rfl, h2, h3, (hg.block g (block_lt h4) ?_).trans h4, h5⟩
    rcases hne with h | h
    · cases h
    · exact h

section
variable {P : Program}
theorem zero_one (k : IntKind) (m : Nat) : Builtin.zeroCells (Value.int k 0).cells m = blk k (List.replicate m 0) := by
  have h := toList_madeCells_one (Value.int k 0) m
  apply Array.toList_inj.1
  show (madeCells (Value.int k 0).cells (m * 1)).toList = _
  rw [Nat.mul_one, show (Value.int k 0).cells = #[Value.int k 0] from rfl, h]
  simp [blk]
theorem run_append_full (w : World) (t : TypeId) (k : IntKind) (e : TypeId) (bytes : Nat) (ht : P.underlying t = some (.slice e)) (hi : (P.info? e).map (fun i => (i.zero, i.size, i.bytes)) = some (some (.int k 0), 1, bytes))
    (g n : Nat) (xs : List Int) (hg : w.heap[g]? = some (.cells (blk k xs) e (0, 0))) (hn : xs.length = n) (B : Nat) (A : Option Addr) (m c : Nat) (ys : List Int) (hr : Row k w B A ys) (hm : ys.length = m) (h1 : 1 ≤ m)
    (hb : (n + m) * bytes ≤ 140737488355328) (h63 : n + m ≤ maxLen) :
    ∃ cap, (∀ ty, (Builtin.append_ #[t, t] ty #[.slice (some ⟨g, 0, none⟩) n n, .slice A m c]).run P w = .ok (.slice (some ⟨w.heap.size, 0, none⟩) (n + m) cap) (w.drew.alloc (.cells (blk k (xs ++ ys ++ List.replicate (cap - (n + m)) 0)) e))) ∧ n + m ≤ cap ∧ cap ≤ maxLen := by
  obtain ⟨i, hi1, hz, hsz, hby⟩ := info_parts hi
  have h64 := h63
  simp only [maxLen] at h64
  obtain ⟨b, o, rfl, _, hc⟩ := hr.2 (by omega)
  have holds : ∀ j u, (xs.map (Value.int k))[j]? = some u → w.cell? ((⟨g, 0, none⟩ : Addr).add j) = some u := by
    intro j u hu
    rw [Go.WideShapes.add_plain, Nat.zero_add, cell_of_row w g j _ _ _ hg]
    simpa [blk] using hu
  have hnews : ∀ j u, (ys.map (Value.int k))[j]? = some u → w.cell? ((⟨b, o, none⟩ : Addr).add j) = some u := by
    intro j u hu
    rw [List.getElem?_map] at hu
    by_cases hj : j < ys.length
    · rw [List.getElem?_eq_getElem hj] at hu
      rw [Go.WideShapes.add_plain, hc j hj, nth_eq ys j hj]
      exact hu
    · rw [List.getElem?_eq_none (by omega)] at hu
      cases hu
  have hr := fun ty => run_append_grow (P := P) w t ty e i _ ht hi1 hz ⟨g, 0, none⟩ n n (xs.map (Value.int k)) (by rw [hsz]; simp; omega) holds ⟨b, o, none⟩ m c (ys.map (Value.int k)) (by rw [hsz]; simp; omega) hnews (by omega) (by omega) (growslice_fits (by omega) (by rw [hby]; omega))
  have hge := grownCap_ge w (n + m) n e
  refine ⟨grownCap w (n + m) n e, fun ty => ?_, hge, grownCap_le_maxLen w (n + m) n e h63⟩
  rw [hr ty, zero_one]
  congr 3
  apply Array.toList_inj.1
  simp [blk]
/-- An append whose outcome is known. -/
theorem wpList_append_run {ops : Array Oper} {rest : List Oper} {o : Oper} {a : Act} {Q : Exit → Act → World → Prop} (w : World) (hgd : o.guard = none) (s x : Operand) (t : TypeId)
    (ho : o.op = .call { callee := .builtin .append, args := #[s, x], argTypes := #[t, t] }) (v u v' : Value) (w' : World) (hs : a.eval s = v) (hx : a.eval x = u)
    (hrun : ∀ ty, (Builtin.append_ #[t, t] ty #[v, u]).run P w = .ok v' w') (h : wpList P ops Q rest (a.put o.dst v') w') : wpList P ops Q (o :: rest) a w := by
  refine wpList_plain hgd fun K hK => ?_
  unfold Oper.wp
  simp [execOp, ho, resolve, invoke, builtin, hs, hx, hrun, Result.andThen]
  exact hK _ _ h
theorem step_append_run {ops : Array Oper} {o : Oper} {a : Act} {K : Act → World → Prop} {Q : Exit → Act → World → Prop} {E : Prop} (w : World) (hgd : o.guard = none) (s x : Operand) (t : TypeId)
    (ho : o.op = .call { callee := .builtin .append, args := #[s, x], argTypes := #[t, t] }) (v u v' : Value) (w' : World) (hs : a.eval s = v) (hx : a.eval x = u)
    (hrun : ∀ ty, (Builtin.append_ #[t, t] ty #[v, u]).run P w = .ok v' w') (h : K (a.put o.dst v') w') :
    if Region.wanted o (yielded ops a.tmps) = true then Oper.wp P o a w K Q else E := by
  have hw : Region.wanted o (yielded ops a.tmps) = true := by simp [Region.wanted, hgd]
  rw [if_pos hw]
  unfold Oper.wp execOp
  simp only [ho, resolve, invoke, builtin, Sem.run_bind, Sem.run_pure, Result.andThen_ok, List.map_toArray, List.map_cons, List.map_nil, hs, hx, hrun]
  exact h
end
end Go.Proofs.Ytcmbdhmhkfhjfaa
namespace Go.Proofs.Ytcmbdhmhkfhjfaa
open Go.RowKit
set_option linter.unusedVariables false

theorem zeros_wfK (k : IntKind) (m : Nat) : ∀ x ∈ List.replicate m (0 : Int), (Lit.int k x).wf = true := fun x hx => by
  rw [List.eq_of_mem_replicate hx]; cases k <;> decide
section
variable {P : Program}
theorem run_append_K (w : World) (base : Nat) (t : TypeId) (k : IntKind) (e : TypeId) (bytes : Nat) (ht : P.underlying t = some (.slice e)) (hi : (P.info? e).map (fun i => (i.zero, i.size, i.bytes)) = some (some (.int k 0), 1, bytes))
    (v : Value) (xs : List Int) (hown : KOwn k e w base v xs) (B : Nat) (A : Option Addr) (m c : Nat) (ys : List Int) (hr : Row k w B A ys) (hm : ys.length = m) (h1 : 1 ≤ m)
    (hbytes : (xs.length + m) * bytes ≤ 140737488355328) (h63 : xs.length + m ≤ maxLen) (hbase : base ≤ w.heap.size) :
    ∃ v' w', (∀ ty, (Builtin.append_ #[t, t] ty #[v, .slice A m c]).run P w = .ok v' w') ∧ KOwn k e w' base v' (xs ++ ys) ∧ w.grownBy w' v.ownBlock ∧ (v'.ownBlock = some w.heap.size ∨ (v'.ownBlock = v.ownBlock ∧ v.ownBlock ≠ none)) ∧ ∃ A' n' c', v' = .slice A' n' c' := by
  obtain ⟨i, hi1, hz, hsz, hby⟩ := info_parts hi
  have h64 := h63
  simp only [maxLen] at h64
  obtain ⟨b, o, rfl, _, hc⟩ := hr.2 (by omega)
  have hnews : ∀ j u, (ys.map (Value.int k))[j]? = some u → w.cell? ((⟨b, o, none⟩ : Addr).add j) = some u := by
    intro j u hu
    rw [List.getElem?_map] at hu
    by_cases hj : j < ys.length
    · rw [List.getElem?_eq_getElem hj] at hu
      rw [Go.WideShapes.add_plain, hc j hj, nth_eq ys j hj]
      exact hu
    · rw [List.getElem?_eq_none (by omega)] at hu
      cases hu
  have hnl : (ys.map (Value.int k)).length = m * i.size := by rw [List.length_map, hsz, hm, Nat.mul_one]
  rcases hown with ⟨rfl, rfl⟩ | ⟨g, n, cap, r, rfl, h2, h3, h4, h5, h6, h7, h8⟩
  · simp only [List.length_nil, Nat.zero_add] at hbytes h63 h64
    have hrun := fun ty => run_append_nil (P := P) w t ty e i _ ht hi1 hz ⟨b, o, none⟩ m c (ys.map (Value.int k)) hnl hnews (by omega) (by omega) (by rw [hby]; omega)
    have hge := grownCap_ge w m 0 e
    refine ⟨_, _, hrun, .inr ⟨w.heap.size, m, grownCap w m 0 e, List.replicate (grownCap w m 0 e - m) 0, rfl, hbase, by simpa using hm, ?_, hge, grownCap_le_maxLen w m 0 e h63, by simp; omega, zeros_wfK _ _⟩, ⟨rfl, rfl, rfl, by simp, fun q hq _ => heap_alloc_old w.drew _ hq⟩, .inl rfl, _, _, _, rfl⟩
    rw [zero_one, show ((ys.map (Value.int k)).toArray ++ blk k (List.replicate (grownCap w m 0 e - m) 0)) = blk k ([] ++ ys ++ List.replicate (grownCap w m 0 e - m) 0) by simp [blk]]
    exact heap_alloc_new w.drew _
  · by_cases hroom : n + m ≤ cap
    · have hsz4 : (blk k (xs ++ r)).size = cap := by rw [blk_size, List.length_append]; exact h7
      have hrun := fun ty => run_append_room (P := P) w t ty e i ht hi1 g n cap (blk k (xs ++ r)) h4 ⟨b, o, none⟩ m c (ys.map (Value.int k)) hnl hnews (ints_oneCell k ys) hroom (by rw [hsz4, hsz, Nat.mul_one, List.length_map]; omega)
      refine ⟨_, _, hrun, .inr ⟨g, n + m, cap, r.drop m, rfl, h2, by rw [List.length_append]; omega, ?_, hroom, h6, by rw [List.length_append, List.length_drop]; omega, fun x hx => h8 x (List.mem_of_mem_drop hx)⟩, ⟨rfl, rfl, rfl, by simp, fun q _ hq => setRow_other w g q _ (fun e => hq (by simp [Value.ownBlock, e]))⟩, .inr ⟨rfl, by simp [Value.ownBlock]⟩, _, _, _, rfl⟩
      have hcells : ((blk k (xs ++ r)).toList.take (n * i.size) ++ ys.map (Value.int k) ++ (blk k (xs ++ r)).toList.drop (n * i.size + (ys.map (Value.int k)).length)).toArray = blk k (xs ++ ys ++ r.drop m) := by
        rw [hsz, Nat.mul_one, List.length_map, hm]
        simp only [blk, List.map_append, ← h3]
        congr 1
        rw [List.take_left' (by simp), ← List.drop_drop, List.drop_left' (by simp), List.map_drop]
      rw [hcells]
      exact setRow_heap w g _ _ e _ h4
    · have holds : ∀ j u, (xs.map (Value.int k))[j]? = some u → w.cell? ((⟨g, 0, none⟩ : Addr).add j) = some u := by
        intro j u hu
        have hj : j < xs.length := by have := (List.getElem?_eq_some_iff.1 hu).1; simpa using this
        rw [Go.WideShapes.add_plain, Nat.zero_add, cell_of_row w g j _ _ _ h4, blk_get _ _ _ (by rw [List.length_append]; omega), nth_left _ _ _ hj]
        rw [List.getElem?_map, List.getElem?_eq_getElem hj] at hu
        rw [nth_eq _ _ hj]
        exact hu
      have hrun := fun ty => run_append_grow (P := P) w t ty e i _ ht hi1 hz ⟨g, 0, none⟩ n cap (xs.map (Value.int k)) (by rw [hsz]; simp; omega) holds ⟨b, o, none⟩ m c (ys.map (Value.int k)) hnl hnews (by omega) (by omega) (growslice_fits (by omega) (by rw [hby, ← h3]; exact hbytes))
      have hge := grownCap_ge w (n + m) cap e
      refine ⟨_, _, hrun, .inr ⟨w.heap.size, n + m, grownCap w (n + m) cap e, List.replicate (grownCap w (n + m) cap e - (n + m)) 0, rfl, hbase, by rw [List.length_append]; omega, ?_, hge, grownCap_le_maxLen w (n + m) cap e (by omega), by rw [List.length_append, List.length_replicate]; omega, zeros_wfK _ _⟩, ⟨rfl, rfl, rfl, by simp, fun q hq _ => heap_alloc_old w.drew _ hq⟩, .inl rfl, _, _, _, rfl⟩
      rw [zero_one, show ((xs.map (Value.int k)).toArray ++ (ys.map (Value.int k)).toArray ++ blk k (List.replicate (grownCap w (n + m) cap e - (n + m)) 0)) = blk k (xs ++ ys ++ List.replicate (grownCap w (n + m) cap e - (n + m)) 0) by simp [blk]]
      exact heap_alloc_new w.drew _
theorem step_append_K {ops : Array Oper} {o : Oper} {a : Act} {K : Act → World → Prop} {Q : Exit → Act → World → Prop} {E : Prop} (w : World) (hgd : o.guard = none) (s x : Operand) (t : TypeId)
    (ho : o.op = .call { callee := .builtin .append, args := #[s, x], argTypes := #[t, t] })
    (base : Nat) (k : IntKind) (e : TypeId) (bytes : Nat) (ht : P.underlying t = some (.slice e)) (hi : (P.info? e).map (fun i => (i.zero, i.size, i.bytes)) = some (some (.int k 0), 1, bytes))
    (v : Value) (xs : List Int) (hs : a.eval s = v) (hown : KOwn k e w base v xs) (B : Nat) (A : Option Addr) (m c : Nat) (ys : List Int) (hx : a.eval x = .slice A m c) (hr : Row k w B A ys) (hm : ys.length = m) (h1 : 1 ≤ m)
    (hbytes : (xs.length + m) * bytes ≤ 140737488355328) (h63 : xs.length + m ≤ maxLen) (hbase : base ≤ w.heap.size)
    (h : ∀ v' w', KOwn k e w' base v' (xs ++ ys) → w.grownBy w' v.ownBlock → (v'.ownBlock = some w.heap.size ∨ (v'.ownBlock = v.ownBlock ∧ v.ownBlock ≠ none)) → (∃ A' n' c', v' = .slice A' n' c') → K (a.put o.dst v') w') :
    if Region.wanted o (yielded ops a.tmps) = true then Oper.wp P o a w K Q else E := by
  have hw : Region.wanted o (yielded ops a.tmps) = true := by simp [Region.wanted, hgd]
  rw [if_pos hw]
  obtain ⟨v', w', hrun, g1, g2, g3, g4⟩ := run_append_K (P := P) w base t k e bytes ht hi v xs hown B A m c ys hr hm h1 hbytes h63 hbase
  unfold Oper.wp execOp
  simp only [ho, resolve, invoke, builtin, Sem.run_bind, Sem.run_pure, Result.andThen_ok, List.map_toArray, List.map_cons, List.map_nil, hs, hx, hrun]
  exact h v' w' g1 g2 g3 g4
theorem wpList_append_K {ops : Array Oper} {rest : List Oper} {o : Oper} {a : Act} {Q : Exit → Act → World → Prop} (w : World) (hgd : o.guard = none) (s x : Operand) (t : TypeId)
    (ho : o.op = .call { callee := .builtin .append, args := #[s, x], argTypes := #[t, t] })
    (base : Nat) (k : IntKind) (e : TypeId) (bytes : Nat) (ht : P.underlying t = some (.slice e)) (hi : (P.info? e).map (fun i => (i.zero, i.size, i.bytes)) = some (some (.int k 0), 1, bytes))
    (v : Value) (xs : List Int) (hs : a.eval s = v) (hown : KOwn k e w base v xs)
    (B : Nat) (A : Option Addr) (m c : Nat) (ys : List Int) (hx : a.eval x = .slice A m c) (hr : Row k w B A ys) (hm : ys.length = m) (h1 : 1 ≤ m)
    (hbytes : (xs.length + m) * bytes ≤ 140737488355328) (h63 : xs.length + m ≤ maxLen) (hbase : base ≤ w.heap.size)
    (h : ∀ v' w', KOwn k e w' base v' (xs ++ ys) → w.grownBy w' v.ownBlock → (v'.ownBlock = some w.heap.size ∨ (v'.ownBlock = v.ownBlock ∧ v.ownBlock ≠ none)) → (∃ A' n' c', v' = .slice A' n' c') → wpList P ops Q rest (a.put o.dst v') w') : wpList P ops Q (o :: rest) a w := by
  obtain ⟨v', w', hrun, g1, g2, g3, g4⟩ := run_append_K (P := P) w base t k e bytes ht hi v xs hown B A m c ys hr hm h1 hbytes h63 hbase
  exact wpList_append_run w hgd s x t ho v (.slice A m c) v' w' hs hx hrun (h v' w' g1 g2 g3 g4)
end
end Go.Proofs.Ytcmbdhmhkfhjfaa
namespace Go.Proofs.Ytcmbdhmhkfhjfaa.I
open Go.RowKit

theorem info_i64 : (Try.prog.info? 3).map (fun i => (i.zero, i.size, i.bytes)) = some (some (.int .i64 0), 1, 8) := by kernel_rfl

theorem made_zero (z : Int) (n : Nat) : madeCells (Value.int .i64 z).cells (n * 1) = blk .i64 (List.replicate n z) := by
  apply Array.toList_inj.1
  rw [show (Value.int .i64 z).cells = #[Value.int .i64 z] from rfl, toList_madeCells_one, Nat.mul_one]
  simp [blk]

theorem make_i64 (n : Nat) (hn : n ≤ 17592186044416) (W : World) :
    (Instr.makeSlice 22 (.int .i64 (n : Int)) (.int .i64 (n : Int))).run Try.prog W = .ok (.slice (some ⟨W.heap.size, 0, none⟩) n n) (W.alloc (.cells (blk .i64 (List.replicate n 0)) 3)) := by
  obtain ⟨i, hi, hz, hs, hb⟩ := info_parts info_i64
  have h := run_make (P := Try.prog) W 22 3 i (.int .i64 0) Try.underlying22 hi hz .i64 .i64 n n (by omega) (by omega) (by rw [hb]; omega) (by omega)
  rw [h, hs, Int.toNat_natCast, made_zero]

def marks5 : List Int := [-77, -77, -77, -77, -77]

/-- SameInts, where the lists are the same. -/
theorem same_yes_i64 (A A' : Option Addr) (n c c' : Nat) (xs : List Int) (w : World) (B B' : Nat) (hr : Row .i64 w B A xs) (hr' : Row .i64 w B' A' xs) (hn : xs.length = n) (hb : n ≤ 17592186044416) :
    Calls Try.prog 23 #[.slice A n c, .slice A' n c'] w fun e w' => e = .returned (.bool true) ∧ ∃ m, w' = w.drewN m := by
  go_enter Try.func23, Try.ntmps23
  go_wp2
  go_loopw [5] (fun i wr => ∃ k nq : Nat, k ≤ n ∧ i = .int .i64 k ∧ wr = w.drewN nq) (fun i _ => n - (intOf i).toNat)
  case atStart => exact ⟨0, 0, by omega, rfl, rfl⟩
  case round =>
    obtain ⟨k, nq, hk, rfl, rfl⟩ := hrel
    by_cases hlt : k < n
    · obtain ⟨b, o, rfl, hb1, hc1⟩ := hr.at_ (i := k) (by omega)
      obtain ⟨b', o', rfl, hb1', hc1'⟩ := hr'.at_ (i := k) (by omega)
      have hlt' : (k : Int) < (n : Int) := by omega
      go_wp2
      go_quiet (fail)
      go_wp2
      go_roundw
      case rel => exact ⟨k + 1, _, by omega, by go_num, rfl⟩
      case measure => simp [intOf]; omega
    · go_wp2
      go_ret
      exact ⟨rfl, nq, rfl⟩

end Go.Proofs.Ytcmbdhmhkfhjfaa.I
namespace Go.Proofs.Ytcmbdhmhkfhjfaa
open Go.RowKit
set_option linter.unusedVariables false
set_option maxRecDepth 100000
attribute [local go_sem ↓] ldTag_fold stTag_fold bxTag_fold
attribute [local go_sem] bxTag_run

theorem valT_range (t : Tg) (pa : Int) (on : List Bool) (set : List Int) : -1099511627776 ≤ valT t pa on set ∧ valT t pa on set ≤ 1099511627776 := by
  unfold valT
  split
  · split <;> omega
  · unfold valN
    split
    · unfold cut; omega
    · omega
theorem valT_wf (t : Tg) (pa : Int) (on : List Bool) (set : List Int) : (Lit.int .i64 (valT t pa on set)).wf = true := by
  have := valT_range t pa on set
  simp [Lit.wf, IntKind.min, IntKind.max, IntKind.signed, IntKind.bits]; omega
/-- An answer that fits a request for bits, or words, and is no exception. -/
theorem chkR_len {k a c : Int} {r : Rep} (hk : 1 ≤ k ∧ k ≤ 4) (h : chkR (reqK k a c) r = 0) (hx : r.x = 0) : ((k = 1 ∨ k = 2) → (r.on.length : Int) = c) ∧ (¬ (k = 1 ∨ k = 2) → (r.set.length : Int) = c) := by
  unfold chkR at h
  have hq : chkQ (reqK k a c) = 0 := by
    by_cases h0 : chkQ (reqK k a c) = 0
    · exact h0
    · rw [if_pos h0] at h; exact absurd h h0
  rw [if_neg (by simp [hq]), if_neg (by simp [hx])] at h
  have hm : manyB (reqK k a c) r = true := by
    by_cases hs : strayB (reqK k a c).c r.on.length r.set.length r.fs.length = true
    · rw [if_pos hs] at h; cases h
    · rw [if_neg hs] at h
      cases hm : manyB (reqK k a c) r with
      | true => rfl
      | false => rw [hm, if_pos rfl] at h; cases h
  unfold manyB reqK at hm
  simp only at hm
  refine ⟨fun hb => ?_, fun hb => ?_⟩
  · rw [if_pos hb] at hm
    exact of_decide_eq_true hm
  · rw [if_neg hb, if_pos (by omega)] at hm
    exact of_decide_eq_true hm
/-- Is a number a place of a tag within a poll? -/
def okP (l : List Tg) (un ki ad ct x : Int) : Bool := decide (0 ≤ x) && (decide (x < l.length) && inP (tgAt l x.toNat) un ki ad ct)
def valsE (l : List Tg) (p : Pol) (r : Rep) : Int :=
  if (chkAll l).1 ≠ 0 then (chkAll l).1 else if askE p.ki p.ad p.ct ≠ 0 then askE p.ki p.ad p.ct else if chkR (reqK p.ki p.ad p.ct) r ≠ 0 then chkR (reqK p.ki p.ad p.ct) r
  else if r.x ≠ 0 then 12 else if p.tg.all (okP l p.un p.ki p.ad p.ct) = true then 0 else 3
def valsM (l : List Tg) (p : Pol) (r : Rep) : List Int := p.tg.map (fun x => valT (tgAt l x.toNat) p.ad r.on r.set)
def valsL (l : List Tg) (p : Pol) (r : Rep) : List Int := if valsE l p r = 0 then valsM l p r else []
theorem valsE_tab {l : List Tg} {p : Pol} {r : Rep} {E : Int} (h : (chkAll l).1 = E) (h0 : E ≠ 0) : valsE l p r = E := by unfold valsE; rw [h, if_pos h0]
theorem valsE_ask {l : List Tg} {p : Pol} {r : Rep} {E : Int} (h : (chkAll l).1 = 0) (h1 : askE p.ki p.ad p.ct = E) (h0 : E ≠ 0) : valsE l p r = E := by unfold valsE; rw [h, if_neg (by omega), h1, if_pos h0]
theorem valsE_chk {l : List Tg} {p : Pol} {r : Rep} {E : Int} (h : (chkAll l).1 = 0) (h1 : askE p.ki p.ad p.ct = 0) (h2 : chkR (reqK p.ki p.ad p.ct) r = E) (h0 : E ≠ 0) : valsE l p r = E := by unfold valsE; rw [h, if_neg (by omega), h1, if_neg (by omega), h2, if_pos h0]
theorem valsE_exc {l : List Tg} {p : Pol} {r : Rep} (h : (chkAll l).1 = 0) (h1 : askE p.ki p.ad p.ct = 0) (h2 : chkR (reqK p.ki p.ad p.ct) r = 0) (h0 : r.x ≠ 0) : valsE l p r = 12 := by unfold valsE; rw [h, if_neg (by omega), h1, if_neg (by omega), h2, if_neg (by omega), if_pos h0]
theorem valsE_all {l : List Tg} {p : Pol} {r : Rep} (h : (chkAll l).1 = 0) (h1 : askE p.ki p.ad p.ct = 0) (h2 : chkR (reqK p.ki p.ad p.ct) r = 0) (h3 : r.x = 0) : valsE l p r = if p.tg.all (okP l p.un p.ki p.ad p.ct) = true then 0 else 3 := by unfold valsE; rw [h, if_neg (by omega), h1, if_neg (by omega), h2, if_neg (by omega), if_neg (by omega)]
theorem valsE_bad {l : List Tg} {p : Pol} {r : Rep} (h : (chkAll l).1 = 0) (h1 : askE p.ki p.ad p.ct = 0) (h2 : chkR (reqK p.ki p.ad p.ct) r = 0) (h3 : r.x = 0) {k : Nat} (hk : k < p.tg.length) (hb : okP l p.un p.ki p.ad p.ct (nth p.tg k) = false) : valsE l p r = 3 := by
  rw [valsE_all h h1 h2 h3, if_neg]
  intro ha
  have := List.all_eq_true.1 ha _ (nth_mem p.tg k hk)
  rw [hb] at this; cases this
theorem valsE_good {l : List Tg} {p : Pol} {r : Rep} (h : (chkAll l).1 = 0) (h1 : askE p.ki p.ad p.ct = 0) (h2 : chkR (reqK p.ki p.ad p.ct) r = 0) (h3 : r.x = 0) (ha : ∀ k, k < p.tg.length → okP l p.un p.ki p.ad p.ct (nth p.tg k) = true) : valsE l p r = 0 := by
  rw [valsE_all h h1 h2 h3, if_pos]
  rw [List.all_eq_true]
  intro x hx
  obtain ⟨i, hi, rfl⟩ := List.mem_iff_getElem.1 hx
  rw [← nth_eq p.tg i hi]
  exact ha i hi
theorem valsL_bad {l : List Tg} {p : Pol} {r : Rep} (h : valsE l p r ≠ 0) : valsL l p r = [] := if_neg h
theorem valsL_good {l : List Tg} {p : Pol} {r : Rep} (h : valsE l p r = 0) : valsL l p r = valsM l p r := if_pos h
theorem valsM_len (l : List Tg) (p : Pol) (r : Rep) : (valsM l p r).length = p.tg.length := by simp [valsM]
theorem valsM_nth (l : List Tg) (p : Pol) (r : Rep) (k : Nat) (hk : k < p.tg.length) : nth (valsM l p r) k = valT (tgAt l (nth p.tg k).toNat) p.ad r.on r.set := by
  rw [nth_eq _ _ (by rw [valsM_len]; exact hk), nth_eq _ _ hk]
  simp [valsM]
theorem valsM_wf (l : List Tg) (p : Pol) (r : Rep) : ∀ x ∈ valsM l p r, (Lit.int .i64 x).wf = true := by
  intro x hx
  obtain ⟨y, _, rfl⟩ := List.mem_map.1 hx
  exact valT_wf _ _ _ _
theorem valsL_wf (l : List Tg) (p : Pol) (r : Rep) : ∀ x ∈ valsL l p r, (Lit.int .i64 x).wf = true := by
  unfold valsL
  split
  · exact valsM_wf l p r
  · intro x hx; cases hx
/-- A call returns a list of its own, its block known whole, and a number. -/
def GivesI (w : World) (xs : List Int) (E : Int) (e : Ending) (w' : World) : Prop := ∃ v, e = .returned (.tuple #[v, .int .i64 E]) ∧ KOwn .i64 3 w' w.heap.size v xs ∧ Below w.heap.size w w'
end Go.Proofs.Ytcmbdhmhkfhjfaa
namespace Go.Proofs.Ytcmbdhmhkfhjfaa
open Go.RowKit
set_option linter.unusedVariables false
set_option maxRecDepth 100000

/-- Which places are used. -/
def usedL (n : Nat) (o : List Nat) : List Bool := (List.range n).map fun i => decide (i ∈ o)
theorem usedL_len (n : Nat) (o : List Nat) : (usedL n o).length = n := by simp [usedL]
theorem usedL_nil (n : Nat) : usedL n [] = List.replicate n false := by
  apply List.ext_getElem (by simp [usedL])
  intro i h1 h2
  simp [usedL]
theorem usedL_at (n : Nat) (o : List Nat) {i : Nat} (h : i < n) : L.nth (usedL n o) i = decide (i ∈ o) := by
  rw [L.nth_eq _ _ (by rw [usedL_len]; exact h)]
  simp [usedL]
theorem usedL_set (n : Nat) (o : List Nat) (m : Nat) : (usedL n o).set m true = usedL n (o ++ [m]) := by
  apply List.ext_getElem (by simp [usedL])
  intro i h1 h2
  rw [List.getElem_set]
  simp only [usedL, List.getElem_map, List.getElem_range, List.mem_append, List.mem_singleton]
  by_cases h : m = i
  · subst h; simp
  · rw [if_neg h]
    simp [show ¬ i = m from fun e => h e.symm]
/-- A beginning of the order of polling. -/
structure OInv (l : List Tg) (o : List Nat) : Prop where
  lt : ∀ x ∈ o, x < l.length
  srt : o.Pairwise (fun a b => aheadB l a b = true)
  all : ∀ x ∈ o, ∀ y, y < l.length → y ∉ o → aheadB l x y = true
theorem oinv_nil (l : List Tg) : OInv l [] := ⟨fun x hx => (by cases hx), List.Pairwise.nil, fun x hx => (by cases hx)⟩
theorem oinv_snoc {l : List Tg} {o : List Nat} (h : OInv l o) {m : Nat} (hm : m < l.length) (hn : m ∉ o) (hf : ∀ j, j < l.length → j ∉ o → j = m ∨ aheadB l m j = true) : OInv l (o ++ [m]) := by
  refine ⟨fun x hx => ?_, List.pairwise_append.2 ⟨h.srt, List.pairwise_singleton _ _, fun a ha b hb => ?_⟩, fun x hx y hy hyn => ?_⟩
  · rcases List.mem_append.1 hx with hx | hx
    · exact h.lt x hx
    · obtain rfl : x = m := by simpa using hx
      exact hm
  · obtain rfl : b = m := by simpa using hb
    exact h.all a ha b hm hn
  · have hyo : y ∉ o := fun e => hyn (List.mem_append_left _ e)
    have hym : y ≠ m := fun e => hyn (by rw [e]; simp)
    rcases List.mem_append.1 hx with hx | hx
    · exact h.all x hx y hy hyo
    · obtain rfl : x = m := by simpa using hx
      exact (hf y hy hyo).resolve_left hym
theorem oinv_nodup {l : List Tg} {o : List Nat} (h : OInv l o) : o.Nodup := h.srt.imp (fun {a b} h e => by subst e; rw [ahead_irrefl] at h; cases h)
theorem oinv_left {l : List Tg} {o : List Nat} (h : OInv l o) (hl : o.length < l.length) (ha : ∀ j, j < l.length → j ∈ o) : False := by
  have := (List.nodup_range (n := l.length)).length_le_of_subset (l₂ := o) (fun x hx => ha x (List.mem_range.1 hx))
  rw [List.length_range] at this
  omega
/-- The first one of the places that are left, as far as they were looked at. -/
def FirstP (l : List Tg) (o : List Nat) (k : Nat) (f : Int) : Prop := (f = -1 ∧ ∀ j, j < k → j ∈ o) ∨ ∃ m : Nat, f = (m : Int) ∧ m < k ∧ m ∉ o ∧ ∀ j, j < k → j ∉ o → j = m ∨ aheadB l m j = true
theorem firstP_used {l : List Tg} {o : List Nat} {k : Nat} {f : Int} (h : FirstP l o k f) (hk : k ∈ o) : FirstP l o (k + 1) f := by
  rcases h with ⟨h1, h2⟩ | ⟨m, h1, h2, h3, h4⟩
  · refine .inl ⟨h1, fun j hj => ?_⟩
    rcases Nat.lt_or_ge j k with h | h
    · exact h2 j h
    · obtain rfl : j = k := by omega
      exact hk
  · refine .inr ⟨m, h1, by omega, h3, fun j hj hjo => ?_⟩
    rcases Nat.lt_or_ge j k with h | h
    · exact h4 j h hjo
    · obtain rfl : j = k := by omega
      exact absurd hk hjo
theorem firstP_new {l : List Tg} {o : List Nat} {k : Nat} (h : FirstP l o k (-1)) (hk : k ∉ o) : FirstP l o (k + 1) (k : Int) := by
  rcases h with ⟨h1, h2⟩ | ⟨m, h1, h2, h3, h4⟩
  · refine .inr ⟨k, rfl, by omega, hk, fun j hj hjo => ?_⟩
    rcases Nat.lt_or_ge j k with h | h
    · exact absurd (h2 j h) hjo
    · exact .inl (by omega)
  · omega
theorem firstP_ahead {l : List Tg} {o : List Nat} {k m : Nat} (h : FirstP l o k (m : Int)) (hk : k ∉ o) (ha : aheadB l k m = true) : FirstP l o (k + 1) (k : Int) := by
  rcases h with ⟨h1, h2⟩ | ⟨m', h1, h2, h3, h4⟩
  · omega
  · obtain rfl : m = m' := by omega
    refine .inr ⟨k, rfl, by omega, hk, fun j hj hjo => ?_⟩
    rcases Nat.lt_or_ge j k with h | h
    · rcases h4 j h hjo with rfl | h5
      · exact .inr ha
      · exact .inr (ahead_trans ha h5)
    · exact .inl (by omega)
theorem firstP_keep {l : List Tg} {o : List Nat} {k m : Nat} (h : FirstP l o k (m : Int)) (ha : aheadB l k m = false) : FirstP l o (k + 1) (m : Int) := by
  rcases h with ⟨h1, h2⟩ | ⟨m', h1, h2, h3, h4⟩
  · omega
  · obtain rfl : m = m' := by omega
    refine .inr ⟨m, rfl, by omega, h3, fun j hj hjo => ?_⟩
    rcases Nat.lt_or_ge j k with h | h
    · exact h4 j h hjo
    · obtain rfl : j = k := by omega
      rcases ahead_total l (show j ≠ m by omega) with h5 | h5
      · rw [ha] at h5; cases h5
      · exact .inr h5
def lenV : Value → Nat
  | .slice _ n _ => n
  | _ => 0
theorem L.block_setB (w : World) (g i : Nat) (l : List Bool) (v : Bool) (h : w.heap[g]? = some (.cells (L.blk () l) 4 (0, 0))) : (w.setCell ⟨g, i, none⟩ (.bool v)).heap[g]? = some (.cells (L.blk () (l.set i v)) 4 (0, 0)) := L.block_setCell w g i () 4 l v h
theorem KOwn.setLow {k : IntKind} {e : TypeId} {w : World} {base : Nat} {v : Value} {xs : List Int} (h : KOwn k e w base v xs) {g : Nat} (hg : g < base) (i : Nat) (u : Value) : KOwn k e (w.setCell ⟨g, i, none⟩ u) base v xs := by
  rcases h with h | ⟨g', n, cap, r, h1, h2, h3, h4, h5⟩
  · exact .inl h
  · exact .inr ⟨g', n, cap, r, h1, h2, h3, (Below.heap_setCell w ⟨g, i, none⟩ u g' (by simp; omega)).trans h4, h5⟩
def intL (o : List Nat) : List Int := o.map fun k : Nat => (k : Int)
theorem intL_len (o : List Nat) : (intL o).length = o.length := by simp [intL]
theorem intL_snoc (o : List Nat) (m : Nat) : intL (o ++ [m]) = intL o ++ [(m : Int)] := by simp [intL]

end Go.Proofs.Ytcmbdhmhkfhjfaa
namespace Go.Proofs.Ytcmbdhmhkfhjfaa
open Go.Shelf Go.Proofs
def Try.sortInts_ren : Go.Shelf.Ren := ⟨fun | 6 => 43 | 15 => 63 | 14 => 62 | 28 => 80 | 29 => 81 | 20 => 72 | 21 => 73 | 22 => 74 | 23 => 75 | 24 => 76 | 25 => 77 | 26 => 78 | 27 => 79 | 46 => 89 | 47 => 90 | 48 => 91 | 49 => 92 | 50 => 93 | 57 => 95 | n => n, fun | 22 => 22 | 24 => 3 | 25 => 86 | 3 => 3 | 39 => 98 | 0 => 0 | 53 => 114 | 55 => 116 | 4 => 4 | 46 => 107 | 45 => 106 | 50 => 111 | 5 => 5 | 9 => 9 | 66 => 122 | 70 => 126 | 76 => 129 | 77 => 130 | n => n, fun | n => n⟩
theorem Try.sortInts : Go.Proofs.SlLaysF.n6 Try.prog Try.sortInts_ren := {
  mixed := by kernel_rfl
  f6 := ⟨Try.f43.name, by decide, Try.func43.trans (congrArg some (by kernel_rfl))⟩
  f14 := ⟨Try.f62.name, by decide, Try.func62.trans (congrArg some (by kernel_rfl))⟩
  f15 := Try.func63.trans (congrArg some (by kernel_rfl))
  f20 := ⟨Try.f72.name, by decide, Try.func72.trans (congrArg some (by kernel_rfl))⟩
  f21 := ⟨Try.f73.name, by decide, Try.func73.trans (congrArg some (by kernel_rfl))⟩
  f22 := ⟨Try.f74.name, by decide, Try.func74.trans (congrArg some (by kernel_rfl))⟩
  f23 := ⟨Try.f75.name, by decide, Try.func75.trans (congrArg some (by kernel_rfl))⟩
  f24 := ⟨Try.f76.name, by decide, Try.func76.trans (congrArg some (by kernel_rfl))⟩
  f25 := ⟨Try.f77.name, by decide, Try.func77.trans (congrArg some (by kernel_rfl))⟩
  f26 := ⟨Try.f78.name, by decide, Try.func78.trans (congrArg some (by kernel_rfl))⟩
  f27 := ⟨Try.f79.name, by decide, Try.func79.trans (congrArg some (by kernel_rfl))⟩
  f28 := Try.func80.trans (congrArg some (by kernel_rfl))
  f29 := Try.func81.trans (congrArg some (by kernel_rfl))
  f46 := ⟨Try.f89.name, by decide, Try.func89.trans (congrArg some (by kernel_rfl))⟩
  f47 := Try.func90.trans (congrArg some (by kernel_rfl))
  f48 := Try.func91.trans (congrArg some (by kernel_rfl))
  f49 := ⟨Try.f92.name, by decide, Try.func92.trans (congrArg some (by kernel_rfl))⟩
  f50 := ⟨Try.f93.name, by decide, Try.func93.trans (congrArg some (by kernel_rfl))⟩
  f57 := ⟨Try.f95.name, by decide, Try.func95.trans (congrArg some (by kernel_rfl))⟩
  t0 := Try.underlying0
  a0 := Try.isAgg0
  z0 := Try.sizeOf0
  v0 := Try.zeroValue0
  t3 := Try.underlying3
  a3 := Try.isAgg3
  z3 := Try.sizeOf3
  v3 := Try.zeroValue3
  t4 := Try.underlying4
  a4 := Try.isAgg4
  z4 := Try.sizeOf4
  v4 := Try.zeroValue4
  t5 := Try.underlying5
  a5 := Try.isAgg5
  z5 := Try.sizeOf5
  v5 := Try.zeroValue5
  t9 := Try.underlying9
  a9 := Try.isAgg9
  z9 := Try.sizeOf9
  v9 := Try.zeroValue9
  t22 := Try.underlying22
  a22 := Try.isAgg22
  z22 := Try.sizeOf22
  v22 := Try.zeroValue22
  a24 := Try.isAgg3
  z24 := Try.sizeOf3
  t25 := Try.underlying86
  a25 := Try.isAgg86
  z25 := Try.sizeOf86
  v25 := Try.zeroValue86
  t39 := Try.underlying98
  a39 := Try.isAgg98
  z39 := Try.sizeOf98
  v39 := Try.zeroValue98
  t45 := Try.underlying106
  a45 := Try.isAgg106
  z45 := Try.sizeOf106
  v45 := Try.zeroValue106
  t46 := Try.underlying107
  a46 := Try.isAgg107
  z46 := Try.sizeOf107
  v46 := Try.zeroValue107
  t50 := Try.underlying111
  a50 := Try.isAgg111
  z50 := Try.sizeOf111
  v50 := Try.zeroValue111
  t53 := Try.underlying114
  a53 := Try.isAgg114
  z53 := Try.sizeOf114
  v53 := Try.zeroValue114
  t55 := Try.underlying116
  a55 := Try.isAgg116
  z55 := Try.sizeOf116
  v55 := Try.zeroValue116
  t66 := Try.underlying122
  a66 := Try.isAgg122
  z66 := Try.sizeOf122
  v66 := Try.zeroValue122
  t70 := Try.underlying126
  a70 := Try.isAgg126
  z70 := Try.sizeOf126
  v70 := Try.zeroValue126
  t76 := Try.underlying129
  a76 := Try.isAgg129
  z76 := Try.sizeOf129
  v76 := Try.zeroValue129
  t77 := Try.underlying130
  a77 := Try.isAgg130
  z77 := Try.sizeOf130
  v77 := Try.zeroValue130 }
def Try.cmpInts_ren : Go.Shelf.Ren := ⟨fun | 5 => 46 | 7 => 64 | n => n, fun | 22 => 3 | 3 => 3 | 4 => 4 | n => n, fun | n => n⟩
theorem Try.cmpInts : Go.Proofs.SlLaysC2.n5 Try.prog Try.cmpInts_ren := {
  mixed := by kernel_rfl
  f5 := ⟨Try.f46.name, by decide, Try.func46.trans (congrArg some (by kernel_rfl))⟩
  f7 := ⟨Try.f64.name, by decide, Try.func64.trans (congrArg some (by kernel_rfl))⟩
  t3 := Try.underlying3
  a3 := Try.isAgg3
  z3 := Try.sizeOf3
  v3 := Try.zeroValue3
  t4 := Try.underlying4
  a4 := Try.isAgg4
  z4 := Try.sizeOf4
  v4 := Try.zeroValue4
  t22 := Try.underlying3
  a22 := Try.isAgg3
  z22 := Try.sizeOf3
  v22 := Try.zeroValue3 }
end Go.Proofs.Ytcmbdhmhkfhjfaa
