/-
  What the program's Get of layer 11 calls: the form of bytes, a reader that hands on what is left, what bytes say.
-/
import Derived.Test.YtemjcgmoacnnfaaRcCheck2
import Derived.Test.YtemjcgmoacnnfaaPkTake
import Derived.Laws.BytesArg
namespace Go.Proofs.Ytemjcgmoacnnfaa
open Go.RowKit
set_option linter.unusedVariables false

/-- Five stores, field by field. -/
def put5 (w : World) (g : Nat) (v0 v1 v2 v3 v4 : Value) : World := ((((w.setCell ⟨g, 0, none⟩ v0).setCell ⟨g, 1, none⟩ v1).setCell ⟨g, 2, none⟩ v2).setCell ⟨g, 3, none⟩ v3).setCell ⟨g, 4, none⟩ v4
theorem put5_heap {w : World} {g : Nat} {t : TypeId} {u0 u1 u2 u3 u4 : Value} (h : w.heap[g]? = some (.cells #[u0, u1, u2, u3, u4] t (0, 0))) (v0 v1 v2 v3 v4 : Value) :
    (put5 w g v0 v1 v2 v3 v4).heap[g]? = some (.cells #[v0, v1, v2, v3, v4] t (0, 0)) := box_set (box_set (box_set (box_set (box_set h 0 v0) 1 v1) 2 v2) 3 v3) 4 v4
theorem below_put5 {B : Nat} {a w : World} {g : Nat} (h : Below B a w) (hg : B ≤ g) (v0 v1 v2 v3 v4 : Value) : Below B a (put5 w g v0 v1 v2 v3 v4) :=
  below_setCell (below_setCell (below_setCell (below_setCell (below_setCell h hg 0 v0) hg 1 v1) hg 2 v2) hg 3 v3) hg 4 v4
theorem put5_other {w : World} {g j : Nat} (h : j ≠ g) (v0 v1 v2 v3 v4 : Value) : (put5 w g v0 v1 v2 v3 v4).heap[j]? = w.heap[j]? := by
  unfold put5
  rw [Below.heap_setCell _ ⟨g, 4, none⟩ v4 j (by simpa using h), Below.heap_setCell _ ⟨g, 3, none⟩ v3 j (by simpa using h), Below.heap_setCell _ ⟨g, 2, none⟩ v2 j (by simpa using h), Below.heap_setCell _ ⟨g, 1, none⟩ v1 j (by simpa using h), Below.heap_setCell _ ⟨g, 0, none⟩ v0 j (by simpa using h)]
theorem cells5 {w : World} {g : Nat} {t : TypeId} {v0 v1 v2 v3 v4 : Value} (h : w.heap[g]? = some (.cells #[v0, v1, v2, v3, v4] t (0, 0))) :
    w.cell? ⟨g, 0, none⟩ = some v0 ∧ w.cell? ⟨g, 1, none⟩ = some v1 ∧ w.cell? ⟨g, 2, none⟩ = some v2 ∧ w.cell? ⟨g, 3, none⟩ = some v3 ∧ w.cell? ⟨g, 4, none⟩ = some v4 :=
  ⟨cell_of_row w g 0 _ _ _ h, cell_of_row w g 1 _ _ _ h, cell_of_row w g 2 _ _ _ h, cell_of_row w g 3 _ _ _ h, cell_of_row w g 4 _ _ _ h⟩
theorem froz5 {w : World} {g : Nat} {cs : Array Value} {t : TypeId} (h : w.heap[g]? = some (.cells cs t (0, 0))) : w.frozen? ⟨g, 0, none⟩ = false ∧ w.frozen? ⟨g, 1, none⟩ = false ∧ w.frozen? ⟨g, 2, none⟩ = false ∧ w.frozen? ⟨g, 3, none⟩ = false ∧ w.frozen? ⟨g, 4, none⟩ = false :=
  ⟨block_frozen w g 0 _ _ h, block_frozen w g 1 _ _ h, block_frozen w g 2 _ _ h, block_frozen w g 3 _ _ h, block_frozen w g 4 _ _ h⟩

theorem tagSize_any (A : Option Addr) (m c : Nat) (ys : List Int) (w : World) (B : Nat) (hr : Row .u8 w B A ys) (hm : ys.length = m) (hb : m ≤ 140737488355328) (hc : m ≤ c) :
    Calls Try.prog 51 #[.slice A m c] w fun e w' => e = .returned (.int .i64 (tgN ys : Nat)) ∧ w = w' := by
  by_cases h : 9 < m
  · obtain ⟨b, o, rfl, hb1, hc1⟩ := hr.at_ (i := 9) (by omega)
    have hw := wf_u8 (hr.wf_at (i := 9) (by omega))
    have HT : Hid (tgN ys = (nth ys 9).toNat) := Lib.hid rfl
    have h2 : ¬ (m : Int) ≤ 9 := by omega
    have hx : (0 : Int) ≤ nth ys 9 := hw.1
    rw [HT.out, Int.toNat_of_nonneg hx]
    generalize nth ys 9 = x at *
    go_enter Try.func51, Try.ntmps51
    go_wp2
    go_ret
    exact ⟨rfl, rfl⟩
  · have HT : Hid (tgN ys = 0) := Lib.hid (by unfold tgN nth; rw [List.getD_eq_getElem?_getD, List.getElem?_eq_none (by omega)]; rfl)
    have h2 : (m : Int) ≤ 9 := by omega
    rw [HT.out]
    go_enter Try.func51, Try.ntmps51
    go_wp2
    go_ret
    exact ⟨rfl, rfl⟩
theorem tgN_le (ys : List Int) (hw : ∀ x ∈ ys, (Lit.int .u8 x).wf = true) : tgN ys ≤ 255 := by
  unfold tgN
  by_cases h : 9 < ys.length
  · have := wf_u8 (hw _ (nth_mem ys 9 h)); omega
  · unfold nth; rw [List.getD_eq_getElem?_getD, List.getElem?_eq_none (by omega)]; simp
theorem len_1 (ys : List Int) (h : nth ys 0 = 1) : lenRc ys = 18 + tgN ys := by unfold lenRc atVl atRc; rw [h]; simp [tgK, idK, vlK]; omega
theorem size_1 (b o m c : Nat) (ys : List Int) (w : World) (B : Nat) (hr : Row .u8 w B (some ⟨b, o, none⟩) ys) (hm : ys.length = m) (h0 : 0 < m) (hb : m ≤ 140737488355328) (hc : m ≤ c) (hk : nth ys 0 = 1) :
    Calls Try.prog 45 #[.slice (some ⟨b, o, none⟩) m c] w fun e w' => e = .returned (.int .i64 (lenRc ys : Nat)) ∧ w = w' := by
  have HL := Lib.hid (len_1 ys hk)
  have hle := tgN_le ys hr.1
  have HT := Lib.hid (tagSize_any (some ⟨b, o, none⟩) m c ys w B hr hm hb hc)
  obtain ⟨b', o', hA, hb1, hc1⟩ := hr.at_ (i := 0) (by omega)
  injection hA with hA
  injection hA with hA1 hA2
  subst hA1 hA2
  rw [hk, Nat.add_zero] at hc1
  generalize tgN ys = N at *
  rw [HL.out]
  clear hk HL hm hr
  go_enter Try.func45, Try.ntmps45
  go_wp2_with fail
  refine (hasTag_any 1 _).mono ?_
  rintro e w' ⟨rfl, rfl⟩
  rw [show tgK 1 = true from rfl]
  go_wp2_with fail
  refine HT.out.mono ?_
  rintro e w' ⟨rfl, rfl⟩
  go_wp2_with fail
  refine (hasId_any 1 _).mono ?_
  rintro e w' ⟨rfl, rfl⟩
  rw [show idK 1 = false from rfl]
  go_wp2_with fail
  refine (hasValue_any 1 _).mono ?_
  rintro e w' ⟨rfl, rfl⟩
  rw [show vlK 1 = true from rfl]
  go_wp2
  go_ret
  exact ⟨(by show Ending.returned (Value.int IntKind.i64 (9 + (1 + (N : Int)) + 8)) = _; congr 2; omega), rfl⟩
theorem len_2 (ys : List Int) (h : nth ys 0 = 2) : lenRc ys = 18 + tgN ys := by unfold lenRc atVl atRc; rw [h]; simp [tgK, idK, vlK]; omega
theorem size_2 (b o m c : Nat) (ys : List Int) (w : World) (B : Nat) (hr : Row .u8 w B (some ⟨b, o, none⟩) ys) (hm : ys.length = m) (h0 : 0 < m) (hb : m ≤ 140737488355328) (hc : m ≤ c) (hk : nth ys 0 = 2) :
    Calls Try.prog 45 #[.slice (some ⟨b, o, none⟩) m c] w fun e w' => e = .returned (.int .i64 (lenRc ys : Nat)) ∧ w = w' := by
  have HL := Lib.hid (len_2 ys hk)
  have hle := tgN_le ys hr.1
  have HT := Lib.hid (tagSize_any (some ⟨b, o, none⟩) m c ys w B hr hm hb hc)
  obtain ⟨b', o', hA, hb1, hc1⟩ := hr.at_ (i := 0) (by omega)
  injection hA with hA
  injection hA with hA1 hA2
  subst hA1 hA2
  rw [hk, Nat.add_zero] at hc1
  generalize tgN ys = N at *
  rw [HL.out]
  clear hk HL hm hr
  go_enter Try.func45, Try.ntmps45
  go_wp2_with fail
  refine (hasTag_any 2 _).mono ?_
  rintro e w' ⟨rfl, rfl⟩
  rw [show tgK 2 = true from rfl]
  go_wp2_with fail
  refine HT.out.mono ?_
  rintro e w' ⟨rfl, rfl⟩
  go_wp2_with fail
  refine (hasId_any 2 _).mono ?_
  rintro e w' ⟨rfl, rfl⟩
  rw [show idK 2 = false from rfl]
  go_wp2_with fail
  refine (hasValue_any 2 _).mono ?_
  rintro e w' ⟨rfl, rfl⟩
  rw [show vlK 2 = true from rfl]
  go_wp2
  go_ret
  exact ⟨(by show Ending.returned (Value.int IntKind.i64 (9 + (1 + (N : Int)) + 8)) = _; congr 2; omega), rfl⟩
theorem len_3 (ys : List Int) (h : nth ys 0 = 3) : lenRc ys = 17 := by unfold lenRc atVl atRc; rw [h]; simp [tgK, idK, vlK]
theorem size_3 (b o m c : Nat) (ys : List Int) (w : World) (B : Nat) (hr : Row .u8 w B (some ⟨b, o, none⟩) ys) (hm : ys.length = m) (h0 : 0 < m) (hb : m ≤ 140737488355328) (hc : m ≤ c) (hk : nth ys 0 = 3) :
    Calls Try.prog 45 #[.slice (some ⟨b, o, none⟩) m c] w fun e w' => e = .returned (.int .i64 (lenRc ys : Nat)) ∧ w = w' := by
  have HL := Lib.hid (len_3 ys hk)
  have hle := tgN_le ys hr.1
  have HT := Lib.hid (tagSize_any (some ⟨b, o, none⟩) m c ys w B hr hm hb hc)
  obtain ⟨b', o', hA, hb1, hc1⟩ := hr.at_ (i := 0) (by omega)
  injection hA with hA
  injection hA with hA1 hA2
  subst hA1 hA2
  rw [hk, Nat.add_zero] at hc1
  generalize tgN ys = N at *
  rw [HL.out]
  clear hk HL hm hr
  go_enter Try.func45, Try.ntmps45
  go_wp2_with fail
  refine (hasTag_any 3 _).mono ?_
  rintro e w' ⟨rfl, rfl⟩
  rw [show tgK 3 = false from rfl]
  go_wp2_with fail
  refine (hasId_any 3 _).mono ?_
  rintro e w' ⟨rfl, rfl⟩
  rw [show idK 3 = false from rfl]
  go_wp2_with fail
  refine (hasValue_any 3 _).mono ?_
  rintro e w' ⟨rfl, rfl⟩
  rw [show vlK 3 = true from rfl]
  go_wp2
  go_ret
  exact ⟨rfl, rfl⟩
theorem len_4 (ys : List Int) (h : nth ys 0 = 4) : lenRc ys = 17 := by unfold lenRc atVl atRc; rw [h]; simp [tgK, idK, vlK]
theorem size_4 (b o m c : Nat) (ys : List Int) (w : World) (B : Nat) (hr : Row .u8 w B (some ⟨b, o, none⟩) ys) (hm : ys.length = m) (h0 : 0 < m) (hb : m ≤ 140737488355328) (hc : m ≤ c) (hk : nth ys 0 = 4) :
    Calls Try.prog 45 #[.slice (some ⟨b, o, none⟩) m c] w fun e w' => e = .returned (.int .i64 (lenRc ys : Nat)) ∧ w = w' := by
  have HL := Lib.hid (len_4 ys hk)
  have hle := tgN_le ys hr.1
  have HT := Lib.hid (tagSize_any (some ⟨b, o, none⟩) m c ys w B hr hm hb hc)
  obtain ⟨b', o', hA, hb1, hc1⟩ := hr.at_ (i := 0) (by omega)
  injection hA with hA
  injection hA with hA1 hA2
  subst hA1 hA2
  rw [hk, Nat.add_zero] at hc1
  generalize tgN ys = N at *
  rw [HL.out]
  clear hk HL hm hr
  go_enter Try.func45, Try.ntmps45
  go_wp2_with fail
  refine (hasTag_any 4 _).mono ?_
  rintro e w' ⟨rfl, rfl⟩
  rw [show tgK 4 = false from rfl]
  go_wp2_with fail
  refine (hasId_any 4 _).mono ?_
  rintro e w' ⟨rfl, rfl⟩
  rw [show idK 4 = false from rfl]
  go_wp2_with fail
  refine (hasValue_any 4 _).mono ?_
  rintro e w' ⟨rfl, rfl⟩
  rw [show vlK 4 = true from rfl]
  go_wp2
  go_ret
  exact ⟨rfl, rfl⟩
theorem len_5 (ys : List Int) (h : nth ys 0 = 5) : lenRc ys = 17 := by unfold lenRc atVl atRc; rw [h]; simp [tgK, idK, vlK]
theorem size_5 (b o m c : Nat) (ys : List Int) (w : World) (B : Nat) (hr : Row .u8 w B (some ⟨b, o, none⟩) ys) (hm : ys.length = m) (h0 : 0 < m) (hb : m ≤ 140737488355328) (hc : m ≤ c) (hk : nth ys 0 = 5) :
    Calls Try.prog 45 #[.slice (some ⟨b, o, none⟩) m c] w fun e w' => e = .returned (.int .i64 (lenRc ys : Nat)) ∧ w = w' := by
  have HL := Lib.hid (len_5 ys hk)
  have hle := tgN_le ys hr.1
  have HT := Lib.hid (tagSize_any (some ⟨b, o, none⟩) m c ys w B hr hm hb hc)
  obtain ⟨b', o', hA, hb1, hc1⟩ := hr.at_ (i := 0) (by omega)
  injection hA with hA
  injection hA with hA1 hA2
  subst hA1 hA2
  rw [hk, Nat.add_zero] at hc1
  generalize tgN ys = N at *
  rw [HL.out]
  clear hk HL hm hr
  go_enter Try.func45, Try.ntmps45
  go_wp2_with fail
  refine (hasTag_any 5 _).mono ?_
  rintro e w' ⟨rfl, rfl⟩
  rw [show tgK 5 = false from rfl]
  go_wp2_with fail
  refine (hasId_any 5 _).mono ?_
  rintro e w' ⟨rfl, rfl⟩
  rw [show idK 5 = true from rfl]
  go_wp2_with fail
  refine (hasValue_any 5 _).mono ?_
  rintro e w' ⟨rfl, rfl⟩
  rw [show vlK 5 = false from rfl]
  go_wp2
  go_ret
  exact ⟨rfl, rfl⟩
theorem len_6 (ys : List Int) (h : nth ys 0 = 6) : lenRc ys = 25 := by unfold lenRc atVl atRc; rw [h]; simp [tgK, idK, vlK]
theorem size_6 (b o m c : Nat) (ys : List Int) (w : World) (B : Nat) (hr : Row .u8 w B (some ⟨b, o, none⟩) ys) (hm : ys.length = m) (h0 : 0 < m) (hb : m ≤ 140737488355328) (hc : m ≤ c) (hk : nth ys 0 = 6) :
    Calls Try.prog 45 #[.slice (some ⟨b, o, none⟩) m c] w fun e w' => e = .returned (.int .i64 (lenRc ys : Nat)) ∧ w = w' := by
  have HL := Lib.hid (len_6 ys hk)
  have hle := tgN_le ys hr.1
  have HT := Lib.hid (tagSize_any (some ⟨b, o, none⟩) m c ys w B hr hm hb hc)
  obtain ⟨b', o', hA, hb1, hc1⟩ := hr.at_ (i := 0) (by omega)
  injection hA with hA
  injection hA with hA1 hA2
  subst hA1 hA2
  rw [hk, Nat.add_zero] at hc1
  generalize tgN ys = N at *
  rw [HL.out]
  clear hk HL hm hr
  go_enter Try.func45, Try.ntmps45
  go_wp2_with fail
  refine (hasTag_any 6 _).mono ?_
  rintro e w' ⟨rfl, rfl⟩
  rw [show tgK 6 = false from rfl]
  go_wp2_with fail
  refine (hasId_any 6 _).mono ?_
  rintro e w' ⟨rfl, rfl⟩
  rw [show idK 6 = true from rfl]
  go_wp2_with fail
  refine (hasValue_any 6 _).mono ?_
  rintro e w' ⟨rfl, rfl⟩
  rw [show vlK 6 = true from rfl]
  go_wp2
  go_ret
  exact ⟨rfl, rfl⟩
theorem size11_any (b o m c : Nat) (ys : List Int) (w : World) (B : Nat) (hr : Row .u8 w B (some ⟨b, o, none⟩) ys) (hm : ys.length = m) (h0 : 0 < m) (hb : m ≤ 140737488355328) (hc : m ≤ c) (hk : betw (nth ys 0) 1 6 = true) :
    Calls Try.prog 45 #[.slice (some ⟨b, o, none⟩) m c] w fun e w' => e = .returned (.int .i64 (lenRc ys : Nat)) ∧ w = w' := by
  rcases kinds hk with e | e | e | e | e | e
  · exact size_1 b o m c ys w B hr hm h0 hb hc e
  · exact size_2 b o m c ys w B hr hm h0 hb hc e
  · exact size_3 b o m c ys w B hr hm h0 hb hc e
  · exact size_4 b o m c ys w B hr hm h0 hb hc e
  · exact size_5 b o m c ys w B hr hm h0 hb hc e
  · exact size_6 b o m c ys w B hr hm h0 hb hc e

/-- Why bytes are no record, be it right or wrong. -/
def fmRc (ys : List Int) : Int := if ys.length = 0 then 1 else bif !betw (nth ys 0) 1 6 then 28 else if ys.length < lenRc ys then 1 else if lenRc ys < ys.length then 2 else 0
theorem rcErr_form (ys : List Int) : rcErr ys = if fmRc ys = 0 then chkRc (rdRc ys) else fmRc ys := by
  unfold rcErr fmRc
  by_cases h : ys.length = 0
  · simp [h]
  · simp only [h, if_false]
    cases betw (nth ys 0) 1 6
    · simp
    · by_cases h1 : ys.length < lenRc ys
      · simp [h1]
      · by_cases h2 : lenRc ys < ys.length
        · simp [h1, h2]
        · simp [h1, h2]
theorem fmRc_parts {ys : List Int} (h : fmRc ys = 0) : 0 < ys.length ∧ betw (nth ys 0) 1 6 = true ∧ ys.length = lenRc ys := by
  unfold fmRc at h
  split at h
  · exact absurd h (by decide)
  cases hk : betw (nth ys 0) 1 6 <;> rw [hk] at h
  · simp at h
  simp only [Bool.not_true, cond_false] at h
  split at h
  · exact absurd h (by decide)
  split at h
  · exact absurd h (by decide)
  exact ⟨by omega, rfl, by omega⟩
theorem lenRc_le (ys : List Int) (hw : ∀ x ∈ ys, (Lit.int .u8 x).wf = true) : lenRc ys ≤ 300 := by
  have := tgN_le ys hw
  unfold lenRc atVl atRc
  cases tgK (nth ys 0) <;> cases idK (nth ys 0) <;> cases vlK (nth ys 0) <;> simp <;> omega
set_option maxHeartbeats 1000000 in
theorem checkForm_any (A : Option Addr) (m c : Nat) (ys : List Int) (w : World) (B : Nat) (hr : Row .u8 w B A ys) (hm : ys.length = m) (hb : m ≤ 140737488355328) (hc : m ≤ c) :
    Calls Try.prog 36 #[.slice A m c] w fun e w' => e = .returned (.int .i64 (fmRc ys)) ∧ w = w' := by
  by_cases h0 : m = 0
  · subst h0
    have HF : Hid (fmRc ys = 1) := Lib.hid (by unfold fmRc; rw [if_pos hm])
    rw [HF.out]
    go_enter Try.func36, Try.ntmps36
    go_wp2
    go_ret
    exact ⟨rfl, rfl⟩
  obtain ⟨b, o, rfl, hb1, hc1⟩ := hr.at_ (i := 0) (by omega)
  rw [Nat.add_zero] at hc1
  have hx0 := wf_u8 (hr.wf_at (i := 0) (by omega))
  have hm0 : ¬ (m : Int) = 0 := by omega
  have hm1 : ((m : Int) == 0) = false := beq_false_of_ne hm0
  have hm2 : 0 < m := by omega
  have hle := lenRc_le ys hr.1
  cases hk : betw (nth ys 0) 1 6
  · have HF : Hid (fmRc ys = 28) := Lib.hid (by unfold fmRc; rw [if_neg (by omega), hk]; rfl)
    have HK := Lib.hid hk
    rw [HF.out]
    clear hk
    generalize nth ys 0 = x at *
    go_enter Try.func36, Try.ntmps36
    go_wp2_with fail
    refine (isKind_any _ _).mono ?_
    rintro e w' ⟨rfl, rfl⟩
    rw [HK.out]
    go_wp2
    go_ret
    exact ⟨rfl, rfl⟩
  have HS := Lib.hid (size11_any b o m c ys w B hr hm hm2 hb hc hk)
  have HK := Lib.hid hk
  have HF : Hid (fmRc ys = if m < lenRc ys then 1 else if lenRc ys < m then 2 else 0) := Lib.hid (by unfold fmRc; rw [if_neg (by omega), hk, hm]; rfl)
  rw [HF.out]
  clear HF hk hr
  generalize nth ys 0 = x at *
  generalize lenRc ys = L at *
  by_cases h1 : m < L
  · rw [if_pos h1]
    go_enter Try.func36, Try.ntmps36
    go_wp2_with fail
    refine (isKind_any _ _).mono ?_
    rintro e w' ⟨rfl, rfl⟩
    rw [HK.out]
    go_wp2_with fail
    refine HS.out.mono ?_
    rintro e w' ⟨rfl, rfl⟩
    go_wp2
    go_ret
    exact ⟨rfl, rfl⟩
  rw [if_neg h1]
  by_cases h2 : L < m
  · rw [if_pos h2]
    go_enter Try.func36, Try.ntmps36
    go_wp2_with fail
    refine (isKind_any _ _).mono ?_
    rintro e w' ⟨rfl, rfl⟩
    rw [HK.out]
    go_wp2_with fail
    refine HS.out.mono ?_
    rintro e w' ⟨rfl, rfl⟩
    go_wp2
    go_ret
    exact ⟨rfl, rfl⟩
  rw [if_neg h2]
  go_enter Try.func36, Try.ntmps36
  go_wp2_with fail
  refine (isKind_any _ _).mono ?_
  rintro e w' ⟨rfl, rfl⟩
  rw [HK.out]
  go_wp2_with fail
  refine HS.out.mono ?_
  rintro e w' ⟨rfl, rfl⟩
  go_wp2
  go_ret
  exact ⟨rfl, rfl⟩

/-- The function that takes the next bytes. -/
theorem take11_any (b o n c k g o2 n2 c2 : Nat) (z : Int) (w : World) (hz : z = k) (hg : w.heap[g]? = some (.cells #[.slice (some ⟨b, o, none⟩) n c] 24 (0, 0))) (hn : n ≤ c) (hk : k ≤ n) (hb : c ≤ 9223372036854775807) (h1 : o + k = o2) (h2 : n - k = n2) (h3 : c - k = c2) :
    Calls Try.prog 52 #[.int .i64 z, .pointer (some ⟨g, 0, none⟩)] w fun e w' => e = .returned (.slice (some ⟨b, o, none⟩) k c) ∧ ∃ A', (k < c → A' = some ⟨b, o2, none⟩) ∧ w' = w.setCell ⟨g, 0, none⟩ (.slice A' n2 c2) := by
  subst hz h1 h2 h3
  have d0 : w.cell? ⟨g, 0, none⟩ = some (.slice (some ⟨b, o, none⟩) n c) := cell_of_row w g 0 _ _ _ hg
  have d1 : ∀ i, w.frozen? ⟨g, i, none⟩ = false := fun i => block_frozen w g i _ _ hg
  have i1 : (0 : Int) ≤ (k : Int) := by omega
  have i2 : (k : Int) ≤ (c : Int) := by omega
  have i3 : (k : Int) ≤ (n : Int) := by omega
  by_cases hkc : k = c
  · obtain rfl : n = c := by omega
    subst hkc
    go_enter Try.func52, Try.ntmps52
    go_wp2
    go_ret
    exact ⟨rfl, some ⟨b, o, none⟩, fun h => absurd h (by omega), by rw [Nat.sub_self]⟩
  · go_enter Try.func52, Try.ntmps52
    go_wp2
    go_ret
    exact ⟨rfl, _, fun _ => rfl, rfl⟩
theorem taker11_any (A : Option Addr) (n c : Nat) (w : World) :
    Calls Try.prog 46 #[.slice A n c] w fun e w' => e = .returned (.func (.func 52) #[] #[.pointer (some ⟨w.heap.size, 0, none⟩)]) ∧ w' = w.alloc (.cells #[.slice A n c] 24) := by
  go_enter Try.func46, Try.ntmps46
  go_wp2
  go_ret
  exact ⟨rfl, rfl⟩
theorem number11_any (b o c a o2 : Nat) (ys : List Int) (w : World) (B : Nat) (hr : Row .u8 w B (some ⟨b, o, none⟩) ys) (ho : o + a = o2) (hl : a + 8 ≤ ys.length) (hc : 8 ≤ c) :
    Calls Try.prog 47 #[.slice (some ⟨b, o2, none⟩) 8 c] w fun e w' => e = .returned (.int .i64 (n8 ys a)) ∧ w = w' := by
  subst ho
  have HG := Lib.hid (Get_ok (some ⟨b, o + a, none⟩) 8 c 0 8 ((ys.drop a).take 8) w B ((hr.drop a).front 8) (by rw [List.length_take, List.length_drop]; omega) hc (by omega) (by omega) (by omega) (by omega))
  have HN : Hid (n8 ys a = wrap64 ((bval ((((ys.drop a).take 8).drop 0).take 8) : Nat) : Int)) := Lib.hid (by unfold n8; rw [List.drop_zero, List.take_take, IntKind.wrap_i64]; unfold wrap64; rw [Nat.min_self])
  rw [HN.out]
  clear hr HN
  generalize bval ((((ys.drop a).take 8).drop 0).take 8) = u at *
  go_enter Try.func47, Try.ntmps47
  go_wp2_with fail
  refine HG.out.mono ?_
  rintro e w' ⟨rfl, rfl⟩
  go_wp2
  go_ret
  exact ⟨rfl, rfl⟩
end Go.Proofs.Ytemjcgmoacnnfaa
