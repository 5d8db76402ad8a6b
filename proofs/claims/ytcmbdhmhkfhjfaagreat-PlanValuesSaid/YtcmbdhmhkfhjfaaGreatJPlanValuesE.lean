/-
  Texts of the proof of PlanValues, joined.
-/
import Derived.Test.YtcmbdhmhkfhjfaaGreatJPlanValuesD
import Derived.WalkLawsBesides
import Derived.Test.YtcmbdhmhkfhjfaaGreatJPlanValuesA
import Derived.Test.YtcmbdhmhkfhjfaaGreatJPlanValuesC
import Derived.Laws.RangeAny
import Derived.LoopTactic
import Derived.Laws.EntriesVeiled
namespace Go.Proofs.YtcmbdhmhkfhjfaaGreat
open Go.RowKit
set_option linter.unusedVariables false
attribute [local go_sem ↓] ldTag_fold

theorem refCheck9_any (nm : ByteArray) (un ki ad ev : Int) (we sg sw : Bool) (mu di aa de qu : Int) (ul uh la : Bool) (lo hi hy : Int) (w : World) (hs : nm.size ≤ maxLen) : Calls Tryz.prog 56 #[.agg #[.string nm, .int .i64 un, .int .i64 ki, .int .i64 ad, .int .i64 ev, .bool we, .bool sg, .bool sw, .int .i64 mu, .int .i64 di, .int .i64 aa, .int .i64 de, .int .i64 qu, .bool ul, .bool uh, .bool la, .int .i64 lo, .int .i64 hi, .int .i64 hy]] w fun e w' => e = .returned (.int .i64 (chkT ⟨nm, un, ki, ad, ev, we, sg, sw, mu, di, aa, de, qu, ul, uh, la, lo, hi, hy⟩)) ∧ Below w.heap.size w w' := by
  refine tag_cases ⟨nm, un, ki, ad, ev, we, sg, sw, mu, di, aa, de, qu, ul, uh, la, lo, hi, hy⟩ _ ?_ ?_ ?_ ?_ ?_ ?_ ?_ ?_ ?_ ?_ ?_ ?_ ?_
  · intro hn0 HC; rw [HC]; exact rc9_1 nm un ki ad ev we sg sw mu di aa de qu ul uh la lo hi hy w hs hn0
  · intro hn u1y HC; rw [HC]; exact rc9_2 nm un ki ad ev we sg sw mu di aa de qu ul uh la lo hi hy w hs hn u1y
  · intro hn u1 u2y HC; rw [HC]; exact rc9_3 nm un ki ad ev we sg sw mu di aa de qu ul uh la lo hi hy w hs hn u1 u2y
  · intro hn u1 u2 k1y HC; rw [HC]; exact rc9_4 nm un ki ad ev we sg sw mu di aa de qu ul uh la lo hi hy w hs hn u1 u2 k1y
  · intro hn u1 u2 k1 k2y HC; rw [HC]; exact rc9_5 nm un ki ad ev we sg sw mu di aa de qu ul uh la lo hi hy w hs hn u1 u2 k1 k2y
  · intro hn u1 u2 k1 k2 d1y HC; rw [HC]; exact rc9_6 nm un ki ad ev we sg sw mu di aa de qu ul uh la lo hi hy w hs hn u1 u2 k1 k2 d1y
  · intro hn u1 u2 k1 k2 d1 d2y HC; rw [HC]; exact rc9_7 nm un ki ad ev we sg sw mu di aa de qu ul uh la lo hi hy w hs hn u1 u2 k1 k2 d1 d2y
  · intro hn u1 u2 k1 k2 d1 d2 v1y HC; rw [HC]; exact rc9_8 nm un ki ad ev we sg sw mu di aa de qu ul uh la lo hi hy w hs hn u1 u2 k1 k2 d1 d2 v1y
  · intro hn u1 u2 k1 k2 d1 d2 v1 v2y HC; rw [HC]; exact rc9_9 nm un ki ad ev we sg sw mu di aa de qu ul uh la lo hi hy w hs hn u1 u2 k1 k2 d1 d2 v1 v2y
  · intro hn u1 u2 k1 k2 d1 d2 v1 v2 S0 HC; rw [HC]; exact rc9_10 nm un ki ad ev we sg sw mu di aa de qu ul uh la lo hi hy w hs hn u1 u2 k1 k2 d1 d2 v1 v2 S0
  · intro hn u1 u2 k1 k2 d1 d2 v1 v2 S kb hb HC
    rw [HC]
    rcases bitS_no hb with h | h | h | h | h | h
    · exact rc9_11we nm un ki ad ev we sg sw mu di aa de qu ul uh la lo hi hy w hs hn u1 u2 k1 k2 d1 d2 v1 v2 S kb h
    · exact rc9_11sg nm un ki ad ev we sg sw mu di aa de qu ul uh la lo hi hy w hs hn u1 u2 k1 k2 d1 d2 v1 v2 S kb h
    · exact rc9_11sw nm un ki ad ev we sg sw mu di aa de qu ul uh la lo hi hy w hs hn u1 u2 k1 k2 d1 d2 v1 v2 S kb h
    · exact rc9_11mu nm un ki ad ev we sg sw mu di aa de qu ul uh la lo hi hy w hs hn u1 u2 k1 k2 d1 d2 v1 v2 S kb h
    · exact rc9_11di nm un ki ad ev we sg sw mu di aa de qu ul uh la lo hi hy w hs hn u1 u2 k1 k2 d1 d2 v1 v2 S kb h
    · exact rc9_11aa nm un ki ad ev we sg sw mu di aa de qu ul uh la lo hi hy w hs hn u1 u2 k1 k2 d1 d2 v1 v2 S kb h
  · intro hn u1 u2 k1 k2 d1 d2 v1 v2 S hb B0 HC
    rw [HC]
    by_cases kb : ki ≤ 2
    · rcases hb with hb | hb
      · exact absurd kb hb
      · obtain ⟨rfl, rfl, rfl, rfl, rfl, rfl⟩ := bitS_yes hb
        exact rc9_12b nm un ki ad ev de qu ul uh la lo hi hy w hs hn u1 u2 k1 k2 d1 d2 v1 v2 S kb B0
    · exact rc9_12n nm un ki ad ev we sg sw mu di aa de qu ul uh la lo hi hy w hs hn u1 u2 k1 k2 d1 d2 v1 v2 S kb B0
  · intro hn u1 u2 k1 k2 d1 d2 v1 v2 S hb B HC
    rw [HC]
    by_cases kb : ki ≤ 2
    · rcases hb with hb | hb
      · exact absurd kb hb
      · obtain ⟨rfl, rfl, rfl, rfl, rfl, rfl⟩ := bitS_yes hb
        exact rc9_13b nm un ki ad ev de qu ul uh la lo hi hy w hs hn u1 u2 k1 k2 d1 d2 v1 v2 S kb B
    · exact rc9_13n nm un ki ad ev we sg sw mu di aa de qu ul uh la lo hi hy w hs hn u1 u2 k1 k2 d1 d2 v1 v2 S kb B
end Go.Proofs.YtcmbdhmhkfhjfaaGreat
namespace Go.Proofs.YtcmbdhmhkfhjfaaGreat
open Go.RowKit
set_option linter.unusedVariables false
set_option maxRecDepth 100000
attribute [local go_sem ↓] ldTag_fold

/-- The place of the first tag of that name; -1 if there is none. -/
def findT (l : List Tg) (s : ByteArray) : Int := if l.findIdx (fun t => t.nm.toList == s.toList) < l.length then (l.findIdx (fun t => t.nm.toList == s.toList) : Nat) else -1
theorem findT_at {l : List Tg} {s : ByteArray} {k : Nat} (hk : k < l.length) (h : l[k].nm.toList = s.toList) (hb : ∀ j (hj : j < k), (l[j]'(by omega)).nm.toList ≠ s.toList) : findT l s = k := by
  have : l.findIdx (fun t => t.nm.toList == s.toList) = k := (List.findIdx_eq hk).2 ⟨by simpa using h, fun j hj => by simpa using hb j hj⟩
  unfold findT; rw [this, if_pos hk]
theorem findT_none {l : List Tg} {s : ByteArray} (h : ∀ j (hj : j < l.length), l[j].nm.toList ≠ s.toList) : findT l s = -1 := by
  have : l.findIdx (fun t => t.nm.toList == s.toList) = l.length := List.findIdx_eq_length.2 (fun t ht => by
    obtain ⟨j, hj, rfl⟩ := List.mem_iff_getElem.1 ht
    simpa using h j hj)
  unfold findT; rw [this, if_neg (by omega)]
/-- The name of a tag in memory. -/
theorem VRow.name {w : World} {B : Nat} {A : Option Addr} {l : List Tg} (h : VRow w B A (flatV tgC l)) {i : Nat} (hi : i < l.length) :
    ∃ b o, A = some ⟨b, o, none⟩ ∧ b < B ∧ w.cell? ⟨b, o + i * 19, none⟩ = some (.string l[i].nm) := by
  obtain ⟨b, o, e, hb, hc⟩ := h.elem tgC_len (by omega) hi
  exact ⟨b, o, e, hb, hc 0 _ rfl⟩
end Go.Proofs.YtcmbdhmhkfhjfaaGreat
namespace Go.Proofs.YtcmbdhmhkfhjfaaGreat
open Go.RowKit
set_option linter.unusedVariables false
set_option maxRecDepth 100000
attribute [local go_sem ↓] ldTag_fold

theorem refCheck9_t (t : Tg) (w : World) (hs : t.nm.size ≤ maxLen) : Calls Tryz.prog 56 #[tgV t] w fun e w' => e = .returned (.int .i64 (chkT t)) ∧ Below w.heap.size w w' := by
  obtain ⟨nm, un, ki, ad, ev, we, sg, sw, mu, di, aa, de, qu, ul, uh, la, lo, hi, hy⟩ := t
  exact refCheck9_any nm un ki ad ev we sg sw mu di aa de qu ul uh la lo hi hy w hs
/-- A tag of a list in memory is loaded whole. -/
theorem VRow.load {w : World} {B : Nat} {A : Option Addr} {l : List Tg} (h : VRow w B A (flatV tgC l)) {i : Nat} (hi : i < l.length) :
    ∃ b o, A = some ⟨b, o, none⟩ ∧ b < B ∧ (ldTag (.pointer (some ⟨b, o + i * 19, none⟩))).run Tryz.prog w = .ok (tgV l[i]) w ∧ w.cell? ⟨b, o + i * 19, none⟩ = some (.string l[i].nm) := by
  obtain ⟨b, o, e, hb, hc⟩ := h.elem tgC_len (by omega) hi
  exact ⟨b, o, e, hb, ldTag_run rfl hc, hc 0 _ rfl⟩
set_option maxHeartbeats 1000000 in
theorem refCheckAll_any (A : Option Addr) (n c : Nat) (l : List Tg) (w : World) (hr : VRow w w.heap.size A (flatV tgC l)) (hn : l.length = n) (hb : n ≤ 4611686018427387904) (hok : ∀ t ∈ l, Tg.Ok t) :
    Calls Tryz.prog 28 #[.slice A n c] w fun e w' => e = .returned (.tuple #[.int .i64 (chkAll l).1, .int .i64 (chkAll l).2]) ∧ Below w.heap.size w w' := by
  by_cases hbig : 64 < n
  · have HA : Hid (chkAll l = (34, 0)) := Lib.hid (chkAll_many (by omega))
    have hbig' : (64 : Int) < n := by omega
    rw [HA.out]
    go_enter Tryz.func28, Tryz.ntmps28
    go_wp2
    (try simp only [Exit.inBlock, Exit.then])
    refine bodyPost_ret (v := .tuple #[.int .i64 34, .int .i64 0]) (by simp [results, Tryz.results28, go_sem, *]) rfl ?_
    exact ⟨rfl, Below.refl _ _⟩
  have H64 : Hid (¬ 64 < l.length) := Lib.hid (by omega)
  have hbig' : ¬ (64 : Int) < n := by omega
  have hn' := Lib.hid hn
  have HOK := Lib.hid hok
  clear hn hok
  go_enter Tryz.func28, Tryz.ntmps28
  go_wp2
  go_loopw [4] (fun i wr => ∃ k : Nat, k ≤ n ∧ i = .int .i64 k ∧ Hid (∀ j, j < k → badAt l j = 0) ∧ Hid (Below w.heap.size w wr)) (fun i _ => n - (intOf i).toNat)
  case atStart => exact ⟨0, by omega, rfl, Lib.hid (fun j hj => absurd hj (by omega)), Lib.hid (Below.refl _ _)⟩
  case round =>
    obtain ⟨k, hk, rfl, hall, hbel⟩ := hrel
    by_cases hlt : k < n
    · have hkl : k < l.length := by have := hn'.out; omega
      obtain ⟨b, o, rfl, hb1, hld, hc1⟩ := (hr.below hbel.out).load hkl
      have hlt' : (k : Int) < (n : Int) := by omega
      have hk0 : (0 : Int) ≤ k := by omega
      go_wp2_with fail
      refine (refCheck9_t l[k] _ (HOK.out _ (List.getElem_mem hkl)).1).mono ?_
      rintro e w1 ⟨rfl, b1⟩
      have hbel1 := Lib.hid (hbel.out.trans (b1.mono hbel.out.size))
      clear hld hc1 hbel
      by_cases hc : chkT l[k] = 0
      case neg =>
        have HA : Hid (chkAll l = (chkT l[k], (k : Int))) := Lib.hid (chkAll_at H64.out hkl (badAt_chk hkl hc) hc hall.out)
        generalize chkT l[k] = ec at *
        go_wp2
        (try simp only [Exit.inBlock, Exit.then])
        refine bodyPost_ret (v := .tuple #[.int .i64 ec, .int .i64 k]) (by simp [results, Tryz.results28, go_sem, *]) rfl ?_
        exact ⟨by rw [HA.out], hbel1.out⟩
      case pos =>
      rw [hc]
      have HC := Lib.hid hc
      clear hc
      cases k with
      | zero =>
        have hall2 : Hid (∀ j, j < 0 + 1 → badAt l j = 0) := Lib.hid (fun j hj => by
          obtain rfl : j = 0 := by omega
          rw [badAt_first hkl]; exact HC.out)
        go_wp2
        go_quiet (fail)
        have hbel2 := below_drewN hbel1.out nq
        clear hbel1
        generalize w1.drewN nq = w2 at *
        go_wp2
        go_quiet (fail)
        go_wp2
        go_roundw
        case rel => exact ⟨1, by omega, rfl, hall2, Lib.hid (below_drewN hbel2 _)⟩
        case measure => simp [intOf]; omega
      | succ k =>
        have hkl0 : k < l.length := by omega
        have rr := hr.below hbel1.out
        obtain ⟨b', o', e2, _, hp1⟩ := rr.name hkl
        injection e2 with e2
        injection e2 with e2 e3
        subst e2 e3
        obtain ⟨b', o', e2, _, hp2⟩ := rr.name hkl0
        injection e2 with e2
        injection e2 with e2 e3
        subst e2 e3
        have HN := Lib.hid (badAt_next hkl HC.out)
        obtain ⟨s1, hs1⟩ : ∃ s1, l[k + 1].nm = s1 := ⟨_, rfl⟩
        obtain ⟨s0, hs0⟩ : ∃ s0, l[k].nm = s0 := ⟨_, rfl⟩
        have HB : Hid (badAt l (k + 1) = bif s1.toList == s0.toList then 7 else bif Op.bytesLess s1.toList s0.toList then 29 else 0) := Lib.hid (by rw [HN.out, badN, hs1, hs0])
        rw [hs1] at hp1
        rw [hs0] at hp2
        clear hs1 hs0 HN rr
        have n1 : (k : Int) + 1 < (n : Int) := by omega
        have n2 : (0 : Int) ≤ (k : Int) + 1 := by omega
        have n3 : (k : Int) < (n : Int) := by omega
        have n4 : ((k : Int) + 1).toNat = k + 1 := by omega
        have n5 : IntKind.i64.wrap (k : Int) = k := by rw [IntKind.wrap_i64]; omega
        have n6 : (k : Int) + 1 > 0 := by omega
        have n7 : (0 : Int) ≤ (k : Int) := by omega
        cases heq : s1.toList == s0.toList with
        | true =>
          have HA : Hid (chkAll l = (7, ((k + 1 : Nat) : Int))) := Lib.hid (chkAll_at H64.out hkl (by rw [HB.out, heq]; rfl) (by omega) hall.out)
          go_wp2
          go_quiet (fail)
          go_wp2
          (try simp only [Exit.inBlock, Exit.then])
          refine bodyPost_ret (v := .tuple #[.int .i64 7, .int .i64 ((k : Int) + 1)]) (by simp [results, Tryz.results28, go_sem, *]) rfl ?_
          exact ⟨by rw [HA.out]; simp, below_drewN hbel1.out _⟩
        | false =>
          cases hls : Op.bytesLess s1.toList s0.toList with
          | true =>
            have HA : Hid (chkAll l = (29, ((k + 1 : Nat) : Int))) := Lib.hid (chkAll_at H64.out hkl (by rw [HB.out, heq, hls]; rfl) (by omega) hall.out)
            go_wp2
            go_quiet (fail)
            have hbel2 := below_drewN hbel1.out nq
            have q1 : (w1.drewN nq).cell? ⟨b, o + (k + 1) * 19, none⟩ = _ := hp1
            have q2 : (w1.drewN nq).cell? ⟨b, o + k * 19, none⟩ = _ := hp2
            clear hbel1 hp1 hp2
            generalize w1.drewN nq = w2 at *
            go_wp2
            go_quiet (fail)
            go_wp2
            (try simp only [Exit.inBlock, Exit.then])
            refine bodyPost_ret (v := .tuple #[.int .i64 29, .int .i64 ((k : Int) + 1)]) (by simp [results, Tryz.results28, go_sem, *]) rfl ?_
            exact ⟨by rw [HA.out]; simp, below_drewN hbel2 _⟩
          | false =>
            have hall2 : Hid (∀ j, j < k + 1 + 1 → badAt l j = 0) := Lib.hid (fun j hj => by
              rcases Nat.lt_or_ge j (k + 1) with h | h
              · exact hall.out j h
              · obtain rfl : j = k + 1 := by omega
                rw [HB.out, heq, hls]; rfl)
            go_wp2
            go_quiet (fail)
            have hbel2 := below_drewN hbel1.out nq
            have q1 : (w1.drewN nq).cell? ⟨b, o + (k + 1) * 19, none⟩ = _ := hp1
            have q2 : (w1.drewN nq).cell? ⟨b, o + k * 19, none⟩ = _ := hp2
            clear hbel1 hp1 hp2
            generalize w1.drewN nq = w2 at *
            go_wp2
            go_quiet (fail)
            go_wp2
            go_roundw
            case rel => exact ⟨k + 1 + 1, by omega, by go_num, hall2, Lib.hid (below_drewN hbel2 _)⟩
            case measure => simp [intOf]; omega
    · have HA : Hid (chkAll l = (0, 0)) := Lib.hid (chkAll_none H64.out (fun j hj => hall.out j (by have := hn'.out; omega)))
      go_wp2
      (try simp only [Exit.inBlock, Exit.then])
      refine bodyPost_ret (v := .tuple #[.int .i64 0, .int .i64 0]) (by simp [results, Tryz.results28, go_sem, *]) rfl ?_
      exact ⟨by rw [HA.out], hbel.out⟩
end Go.Proofs.YtcmbdhmhkfhjfaaGreat
namespace Go.Proofs.YtcmbdhmhkfhjfaaGreat
open Go.RowKit
set_option linter.unusedVariables false

theorem less_lt (x y : List UInt8) : Op.bytesLess x y = decide (x < y) := by
  induction x generalizing y with
  | nil => cases y <;> simp [Op.bytesLess]
  | cons a x ih =>
    cases y with
    | nil => simp [Op.bytesLess]
    | cons b y =>
      have e : decide (a :: x < b :: y) = (decide (a < b) || (decide (a = b) && decide (x < y))) := by
        rw [← Bool.decide_and, ← Bool.decide_or]
        exact decide_eq_decide.2 List.cons_lt_cons_iff
      rw [Op.bytesLess, ih, e]
      by_cases h1 : a < b
      · simp [h1]
      · by_cases h2 : a = b <;> simp [h1, h2]
/-- A tag's name is below another one's. -/
def ltT (a b : Tg) : Prop := a.nm.toList < b.nm.toList
theorem ltT_trans {a b c : Tg} (h : ltT a b) (h' : ltT b c) : ltT a c := List.lt_trans h h'
theorem ltT_ne {a b : Tg} (h : ltT a b) : a.nm.toList ≠ b.nm.toList := fun e => by
  unfold ltT at h
  rw [e] at h
  exact List.lt_irrefl _ h
def TabT (l : List Tg) : Prop := l.length ≤ 64 ∧ (∀ t ∈ l, chkT t = 0) ∧ l.Pairwise ltT
theorem badN_zero {p t : Tg} (h : badN p t = 0) : ltT p t := by
  unfold badN at h
  cases h1 : t.nm.toList == p.nm.toList
  · rw [h1, cond_false] at h
    cases h2 : Op.bytesLess t.nm.toList p.nm.toList
    · rw [less_lt, decide_eq_false_iff_not] at h2
      rw [beq_eq_false_iff_ne] at h1
      unfold ltT
      rcases Std.lt_trichotomy p.nm.toList t.nm.toList with h3 | h3 | h3
      · exact h3
      · exact absurd h3.symm h1
      · exact absurd h3 h2
    · rw [h2] at h; simp at h
  · rw [h1] at h; simp at h
theorem badN_of {p t : Tg} (h : ltT p t) : badN p t = 0 := by
  unfold badN
  have h1 : (t.nm.toList == p.nm.toList) = false := by rw [beq_eq_false_iff_ne]; exact fun e => ltT_ne h e.symm
  have h2 : Op.bytesLess t.nm.toList p.nm.toList = false := by
    rw [less_lt, decide_eq_false_iff_not]
    exact fun h' => List.lt_irrefl _ (List.lt_trans h h')
  rw [h1, h2]; rfl
theorem chkAll_cases (l : List Tg) : (64 < l.length ∧ chkAll l = (34, 0)) ∨ (l.length ≤ 64 ∧ ∃ i, i < l.length ∧ badAt l i ≠ 0 ∧ chkAll l = (badAt l i, (i : Int)) ∧ ∀ j, j < i → badAt l j = 0) ∨ (l.length ≤ 64 ∧ chkAll l = (0, 0) ∧ ∀ j, j < l.length → badAt l j = 0) := by
  by_cases h : 64 < l.length
  · exact .inl ⟨h, chkAll_many h⟩
  right
  by_cases hb : ∀ j, j < l.length → badAt l j = 0
  · exact .inr ⟨by omega, chkAll_none h hb, hb⟩
  · left
    refine ⟨by omega, ?_⟩
    have key : ∀ n, (∀ j, j < n → badAt l j = 0) ∨ ∃ i, i < n ∧ badAt l i ≠ 0 ∧ ∀ j, j < i → badAt l j = 0 := by
      intro n
      induction n with
      | zero => exact .inl (fun j hj => absurd hj (by omega))
      | succ n ih =>
        rcases ih with ih | ⟨i, h1, h2, h3⟩
        · by_cases hn : badAt l n = 0
          · left
            intro j hj
            rcases Nat.lt_or_ge j n with h | h
            · exact ih j h
            · obtain rfl : j = n := by omega
              exact hn
          · exact .inr ⟨n, by omega, hn, ih⟩
        · exact .inr ⟨i, by omega, h2, h3⟩
    rcases key l.length with h1 | ⟨i, h1, h2, h3⟩
    · exact absurd h1 hb
    · exact ⟨i, h1, h2, chkAll_at h h1 rfl h2 h3, h3⟩
theorem pair_of {l : List Tg} (h : ∀ i (hi : i + 1 < l.length), ltT l[i] l[i + 1]) : l.Pairwise ltT := by
  rw [List.pairwise_iff_getElem]
  have key : ∀ d i (hj : i + d + 1 < l.length), ltT (l[i]'(by omega)) l[i + d + 1] := by
    intro d
    induction d with
    | zero => intro i hj; exact h i hj
    | succ d ih => intro i hj; exact ltT_trans (ih i (by omega)) (h (i + d + 1) (by omega))
  intro i j hi hj hij
  obtain ⟨d, rfl⟩ : ∃ d, j = i + d + 1 := ⟨j - i - 1, by omega⟩
  exact key d i hj
theorem tab_of_zero {l : List Tg} (hb : ∀ j, j < l.length → badAt l j = 0) : (∀ t ∈ l, chkT t = 0) ∧ l.Pairwise ltT := by
  have hc : ∀ j (hj : j < l.length), chkT l[j] = 0 := fun j hj => by
    by_cases h : chkT l[j] = 0
    · exact h
    · have := badAt_chk hj h
      rw [hb j hj] at this
      exact absurd this.symm h
  refine ⟨fun t ht => ?_, pair_of fun i hi => ?_⟩
  · obtain ⟨j, hj, rfl⟩ := List.mem_iff_getElem.1 ht
    exact hc j hj
  · have := badAt_next hi (hc (i + 1) hi)
    rw [hb (i + 1) hi] at this
    exact badN_zero this.symm
theorem zero_of_tab {l : List Tg} (h1 : ∀ t ∈ l, chkT t = 0) (h2 : l.Pairwise ltT) : ∀ j, j < l.length → badAt l j = 0 := by
  intro j hj
  cases j with
  | zero => rw [badAt_first hj]; exact h1 _ (List.getElem_mem hj)
  | succ k =>
    rw [badAt_next hj (h1 _ (List.getElem_mem hj))]
    exact badN_of (List.pairwise_iff_getElem.1 h2 k (k + 1) (by omega) hj (by omega))
theorem tab_of {l : List Tg} {k : Int} (h : chkAll l = (0, k)) : k = 0 ∧ TabT l := by
  rcases chkAll_cases l with ⟨_, e⟩ | ⟨_, i, _, hne, e, _⟩ | ⟨hl, e, hb⟩
  · rw [e] at h; injection h with h; cases h
  · rw [e] at h; injection h with h; exact absurd h hne
  · rw [e] at h; injection h with h h'
    exact ⟨h'.symm, hl, tab_of_zero hb⟩
theorem of_tab {l : List Tg} (h : TabT l) : chkAll l = (0, 0) := chkAll_none (by have := h.1; omega) (zero_of_tab h.2.1 h.2.2)
theorem findT_lt (l : List Tg) (s : ByteArray) : -1 ≤ findT l s ∧ findT l s < l.length := by
  unfold findT
  split <;> omega
theorem tab_find {l : List Tg} (h : l.Pairwise ltT) {i : Nat} (hi : i < l.length) : findT l l[i].nm = i :=
  findT_at hi rfl (fun j hj => ltT_ne (List.pairwise_iff_getElem.1 h j i (by omega) hi hj))
theorem findT_nil (s : ByteArray) : findT [] s = -1 := rfl
/-- What a search that goes on through a table finds. -/
theorem find_hit {l : List Tg} (h : l.Pairwise ltT) {s : ByteArray} {k : Nat} (hk : k < l.length) (he : l[k].nm.toList = s.toList) : findT (l.take (k + 1)) s = k := by
  have hl : k < (l.take (k + 1)).length := by rw [List.length_take]; omega
  refine findT_at hl (by rw [List.getElem_take]; exact he) (fun j hj => ?_)
  rw [List.getElem_take, ← he]
  exact ltT_ne (List.pairwise_iff_getElem.1 h j k (by omega) hk hj)
theorem find_miss {l : List Tg} {s : ByteArray} {k : Nat} (hk : k < l.length) (he : l[k].nm.toList ≠ s.toList) : findT (l.take (k + 1)) s = findT (l.take k) s := by
  by_cases hex : ∃ i, ∃ hi : i < k, (l[i]'(by omega)).nm.toList = s.toList ∧ ∀ j (hj : j < i), (l[j]'(by omega)).nm.toList ≠ s.toList
  · obtain ⟨i, hi, h1, h2⟩ := hex
    have a1 : findT (l.take (k + 1)) s = i := findT_at (by rw [List.length_take]; omega) (by rw [List.getElem_take]; exact h1) (fun j hj => by rw [List.getElem_take]; exact h2 j hj)
    have a2 : findT (l.take k) s = i := findT_at (by rw [List.length_take]; omega) (by rw [List.getElem_take]; exact h1) (fun j hj => by rw [List.getElem_take]; exact h2 j hj)
    rw [a1, a2]
  · have none : ∀ j (hj : j < k), (l[j]'(by omega)).nm.toList ≠ s.toList := by
      intro j
      induction j using Nat.strongRecOn with
      | ind j ih =>
        intro hj e
        exact hex ⟨j, hj, e, fun j' hj' => ih j' hj' (by omega)⟩
    have a1 : findT (l.take (k + 1)) s = -1 := findT_none (fun j hj => by
      rw [List.getElem_take]
      rw [List.length_take] at hj
      rcases Nat.lt_or_ge j k with h | h
      · exact none j h
      · obtain rfl : j = k := by omega
        exact he)
    have a2 : findT (l.take k) s = -1 := findT_none (fun j hj => by
      rw [List.getElem_take]
      rw [List.length_take] at hj
      exact none j (by omega))
    rw [a1, a2]
/-- A part of a table is one. -/
theorem tab_part {l m : List Tg} (h : TabT l) (hs : m.Sublist l) : TabT m :=
  ⟨Nat.le_trans hs.length_le h.1, fun t ht => h.2.1 t (hs.subset ht), h.2.2.sublist hs⟩
/-- The first wrong tag of a list: the tags ahead are a table, and with it the list is wrong in the same way. -/
theorem badAt_take {l : List Tg} {n j : Nat} (hj : j < n) : badAt (l.take n) j = badAt l j := by
  have e1 : (l.take n)[j]? = l[j]? := List.getElem?_take_of_lt hj
  have e2 : ahead (l.take n) j = ahead l j := by
    cases j with
    | zero => rfl
    | succ j => exact List.getElem?_take_of_lt (by omega)
  unfold badAt
  rw [e1, e2]
theorem first_wrong {l : List Tg} {e : Int} {k : Int} (hl : l.length ≤ 64) (h : chkAll l = (e, k)) (he : e ≠ 0) : ∃ i : Nat, k = i ∧ i < l.length ∧ chkAll (l.take i) = (0, 0) ∧ chkAll (l.take (i + 1)) = (e, (i : Int)) := by
  rcases chkAll_cases l with ⟨h64, _⟩ | ⟨_, i, hi, hne, e', hb⟩ | ⟨_, e', _⟩
  · omega
  · rw [e'] at h
    injection h with h1 h2
    refine ⟨i, h2.symm, hi, ?_, ?_⟩
    · refine chkAll_none (by rw [List.length_take]; omega) (fun j hj => ?_)
      rw [List.length_take] at hj
      rw [badAt_take (by omega)]
      exact hb j (by omega)
    · refine chkAll_at (by rw [List.length_take]; omega) (by rw [List.length_take]; omega) ?_ he (fun j hj => ?_)
      · rw [badAt_take (by omega)]; exact h1
      · rw [badAt_take (by omega)]; exact hb j hj
  · rw [e'] at h
    injection h with h1 h2
    exact absurd h1.symm he
end Go.Proofs.YtcmbdhmhkfhjfaaGreat
namespace Go.Proofs.YtcmbdhmhkfhjfaaGreat
open Go.RowKit
set_option linter.unusedVariables false

theorem chkT_zero {t : Tg} (h : chkT t = 0) : nameB (bys t.nm) = true ∧ (1 ≤ t.un ∧ t.un ≤ 247) ∧ (1 ≤ t.ki ∧ t.ki ≤ 4) ∧ (0 ≤ t.ad ∧ t.ad ≤ 65536 - widT t) ∧ (1 ≤ t.ev ∧ t.ev ≤ 1048576) ∧ chkS t.sc = 0 ∧ (¬ t.ki ≤ 2 ∨ bitS t = true) ∧ chkB t.de t.qu = 0 ∧ chkL t.li = 0 := by
  refine tag_cases t _ ?_ ?_ ?_ ?_ ?_ ?_ ?_ ?_ ?_ ?_ ?_ ?_ ?_
  · intro _ e; rw [h] at e; cases e
  · intro _ _ e; rw [h] at e; cases e
  · intro _ _ _ e; rw [h] at e; cases e
  · intro _ _ _ _ e; rw [h] at e; cases e
  · intro _ _ _ _ _ e; rw [h] at e; cases e
  · intro _ _ _ _ _ _ e; rw [h] at e; cases e
  · intro _ _ _ _ _ _ _ e; rw [h] at e; cases e
  · intro _ _ _ _ _ _ _ _ e; rw [h] at e; cases e
  · intro _ _ _ _ _ _ _ _ _ e; rw [h] at e; cases e
  · intro _ _ _ _ _ _ _ _ _ _ e; rw [h] at e; cases e
  · intro _ _ _ _ _ _ _ _ _ _ _ _ e; rw [h] at e; cases e
  · intro _ _ _ _ _ _ _ _ _ _ _ _ e; rw [h] at e; cases e
  · intro h1 h2 h3 h4 h5 h6 h7 h8 h9 h10 h11 h12 e
    rw [h] at e
    exact ⟨h1, by omega, by omega, by omega, by omega, h10, h11, h12, e.symm⟩
/-- The same tag at another address. -/
def Tg.at (t : Tg) (a : Int) : Tg := ⟨t.nm, t.un, t.ki, a, t.ev, t.we, t.sg, t.sw, t.mu, t.di, t.aa, t.de, t.qu, t.ul, t.uh, t.la, t.lo, t.hi, t.hy⟩
theorem at_wid (t : Tg) (a : Int) : widT (t.at a) = widT t := rfl
theorem at_cases {t : Tg} (h : chkT t = 0) (a : Int) (ha : 0 ≤ a) : (a ≤ 65536 - widT t ∧ chkT (t.at a) = 0) ∨ (¬ a ≤ 65536 - widT t ∧ chkT (t.at a) = 21) := by
  obtain ⟨h1, h2, h3, h4, h5, h6, h7, h8, h9⟩ := chkT_zero h
  refine tag_cases (t.at a) _ ?_ ?_ ?_ ?_ ?_ ?_ ?_ ?_ ?_ ?_ ?_ ?_ ?_
  · intro g _; rw [show (t.at a).nm = t.nm from rfl, h1] at g; cases g
  · intro _ g _; exact absurd g (by show ¬ t.un < 1; omega)
  · intro _ _ g _; exact absurd g (by show ¬ t.un > 247; omega)
  · intro _ _ _ g _; exact absurd g (by show ¬ t.ki < 1; omega)
  · intro _ _ _ _ g _; exact absurd g (by show ¬ t.ki > 4; omega)
  · intro _ _ _ _ _ g _; exact absurd g (by show ¬ a < 0; omega)
  · intro _ _ _ _ _ _ g e
    right
    rw [at_wid] at g
    exact ⟨fun g' => by have : a > 65536 - widT t := g; omega, e⟩
  · intro _ _ _ _ _ _ _ g _; exact absurd g (by show ¬ t.ev < 1; omega)
  · intro _ _ _ _ _ _ _ _ g _; exact absurd g (by show ¬ t.ev > 1048576; omega)
  · intro _ _ _ _ _ _ _ _ _ g _; rw [show (t.at a).sc = t.sc from rfl, h6] at g; cases g
  · intro _ _ _ _ _ _ _ _ _ _ g1 g2 _
    rcases h7 with h | h
    · exact absurd g1 h
    · rw [show bitS (t.at a) = bitS t from rfl, h] at g2; cases g2
  · intro _ _ _ _ _ _ _ _ _ _ _ g _; rw [show chkB (t.at a).de (t.at a).qu = chkB t.de t.qu from rfl, h8] at g; cases g
  · intro _ _ _ _ _ _ g _ _ _ _ _ e
    left
    rw [at_wid] at g
    refine ⟨?_, e.trans h9⟩
    have : ¬ a > 65536 - widT t := g
    omega
theorem at_last {t : Tg} (h : chkT t = 0) : chkT (t.at (65536 - widT t)) = 0 := by
  have hw := widT_le t
  rcases at_cases h (65536 - widT t) (by omega) with ⟨_, e⟩ | ⟨g, _⟩
  · exact e
  · omega
theorem at_past {t : Tg} (h : chkT t = 0) : chkT (t.at (65537 - widT t)) = 21 := by
  have hw := widT_le t
  rcases at_cases h (65537 - widT t) (by omega) with ⟨g, _⟩ | ⟨_, e⟩
  · omega
  · exact e
theorem name_parts {l : List Int} (h : nameB l = true) : 1 ≤ l.length ∧ l.length ≤ 16 ∧ letB (nth l 0) = true ∧ l.all chB = true := by
  simp only [nameB, Bool.and_eq_true, decide_eq_true_eq] at h
  exact ⟨h.1.1.1, h.1.1.2, h.1.2, h.2⟩
theorem name_less {l : List Int} (h : nameB l = true) : nameB (l.take (l.length - 1)) = decide (1 < l.length) := by
  obtain ⟨h1, h2, h3, h4⟩ := name_parts h
  by_cases hl : 1 < l.length
  · rw [decide_eq_true hl]
    have e1 : (l.take (l.length - 1)).length = l.length - 1 := by rw [List.length_take]; omega
    have e2 : nth (l.take (l.length - 1)) 0 = nth l 0 := by
      rw [nth_eq _ _ (by omega), nth_eq _ _ (by omega), List.getElem_take]
    have e3 : (l.take (l.length - 1)).all chB = true := by
      rw [List.all_eq_true] at h4 ⊢
      exact fun x hx => h4 x (List.mem_of_mem_take hx)
    simp only [nameB, e1, e2, h3, e3, Bool.and_true]
    rw [decide_eq_true (by omega), decide_eq_true (by omega)]; rfl
  · rw [decide_eq_false hl]
    have e1 : (l.take (l.length - 1)).length = 0 := by rw [List.length_take]; omega
    simp only [nameB, e1]
    rfl
theorem name_more {l : List Int} (h : nameB l = true) (c : Int) : nameB (l ++ [c]) = (decide (l.length < 16) && chB c) := by
  obtain ⟨h1, h2, h3, h4⟩ := name_parts h
  have e1 : (l ++ [c]).length = l.length + 1 := by simp
  have e2 : nth (l ++ [c]) 0 = nth l 0 := by
    rw [nth_eq _ _ (by omega), nth_eq _ _ (by omega), List.getElem_append_left]
  have e3 : (l ++ [c]).all chB = chB c := by simp only [List.all_append, h4, List.all_cons, List.all_nil, Bool.and_true, Bool.true_and]
  simp only [nameB, e1, e2, h3, e3, Bool.and_true]
  rw [decide_eq_true (show 1 ≤ l.length + 1 by omega), Bool.true_and]
  congr 1
theorem bys_front (s : ByteArray) (k : Nat) : bys (s.extract 0 k) = (bys s).take k := by
  unfold bys
  rw [ByteArray.data_extract, Array.toList_extract, List.extract_eq_take_drop, List.drop_zero, Nat.sub_zero, List.map_take]
theorem bys_app (a b : ByteArray) : bys (a ++ b) = bys a ++ bys b := by
  unfold bys
  rw [ByteArray.data_append, Array.toList_append, List.map_append]
theorem bys_one (c : UInt8) : bys ⟨#[c]⟩ = [(c.toNat : Int)] := rfl
theorem front_size (s : ByteArray) (k : Nat) (h : s.size ≤ maxLen) : (s.extract 0 k).size ≤ maxLen := by
  rw [← bys_len, bys_front, List.length_take, bys_len]; omega
theorem app_size (s : ByteArray) (c : UInt8) (h : s.size ≤ 16) : (s ++ (⟨#[c]⟩ : ByteArray)).size ≤ maxLen := by
  rw [← bys_len, bys_app, List.length_append, bys_len, bys_one]; simp [maxLen]; omega
end Go.Proofs.YtcmbdhmhkfhjfaaGreat
namespace Go.Proofs.YtcmbdhmhkfhjfaaGreat
open Go.RowKit
set_option linter.unusedVariables false

/-- Is there a list for each part, of as many words? -/
def fitsB (fl : List Int) (fs : List (List Int)) : Bool := decide (fl.length = 3 * fs.length) && (List.range fs.length).all fun i => decide (((nthF fs i).length : Int) = nth fl (3 * i + 2))
theorem fitsB_len {fl : List Int} {fs : List (List Int)} (h : fl.length ≠ 3 * fs.length) : fitsB fl fs = false := by rw [fitsB, decide_eq_false h, Bool.false_and]
theorem fitsB_no {fl : List Int} {fs : List (List Int)} {i : Nat} (hi : i < fs.length) (h : ((nthF fs i).length : Int) ≠ nth fl (3 * i + 2)) : fitsB fl fs = false := by
  rw [fitsB, Bool.and_eq_false_iff]
  right
  rw [List.all_eq_false]
  exact ⟨i, List.mem_range.2 hi, by rw [decide_eq_false h]; simp⟩
theorem fitsB_yes {fl : List Int} {fs : List (List Int)} (hl : fl.length = 3 * fs.length) (h : ∀ i, i < fs.length → ((nthF fs i).length : Int) = nth fl (3 * i + 2)) : fitsB fl fs = true := by
  rw [fitsB, Bool.and_eq_true, decide_eq_true_eq, List.all_eq_true]
  exact ⟨hl, fun i hi => decide_eq_true (h i (List.mem_range.1 hi))⟩

set_option maxHeartbeats 1000000 in
theorem fitParts_any (Ap Bf : Option Addr) (lp cp mf ef : Nat) (fl : List Int) (fs : List (List Int)) (w : World) (hp : Row .i64 w w.heap.size Ap fl) (hl : fl.length = 3 * lp) (hf : FRow w w.heap.size Bf fs) (hm : fs.length = mf) (hb : lp ≤ 100000) :
    Calls Tryz.prog 110 #[.slice Ap lp cp, .slice Bf mf ef] w fun e w' => e = .returned (.bool (fitsB fl fs)) ∧ Below w.heap.size w w' := by
  obtain ⟨u, hu⟩ : ∃ u, Hid (fitsB fl fs = u) := ⟨_, Lib.hid rfl⟩
  rw [hu.out]
  have HL := Lib.hid hl
  have HM := Lib.hid hm
  have HP := Lib.hid hp
  have HF := Lib.hid hf
  clear hl hm hp hf
  by_cases hne : mf = lp
  · subst hne
    have t0 : ((mf : Int) != (mf : Int)) = false := by simp
    go_enter Tryz.func110, Tryz.ntmps110
    go_wp2
    go_loopw [5, 6, 14] (fun _ _ i wr => ∃ k : Nat, k ≤ mf ∧ i = .int .i64 k ∧ Hid (∀ j, j < k → ((nthF fs j).length : Int) = nth fl (3 * j + 2)) ∧ Below w.heap.size w wr) (fun _ _ i _ => mf - (intOf i).toNat)
    case atStart => exact ⟨0, by omega, rfl, Lib.hid (fun j h => by omega), Below.refl _ _⟩
    case round =>
      obtain ⟨k, hk, rfl, hs, bel⟩ := hrel
      by_cases hlt : k < mf
      · obtain ⟨b, o, rfl, hb1, hc1, hc2, hc3⟩ := (HP.out.below bel).three (k := k) (by have := HL.out; omega)
        obtain ⟨b2, o2, rfl, hb2, hcf⟩ := HF.out (by have := HM.out; omega)
        obtain ⟨Ai, ci, hci, _, _⟩ := hcf k (by have := HM.out; omega)
        have hci2 := (bel.cell (p := ⟨b2, o2 + k, none⟩) hb2).trans hci
        obtain ⟨p, hpp⟩ : ∃ p, Hid (nth fl (3 * k + 2) = p) := ⟨_, Lib.hid rfl⟩
        obtain ⟨q, hqq⟩ : ∃ q, Hid ((nthF fs k).length = q) := ⟨_, Lib.hid rfl⟩
        rw [hpp.out] at hc3
        rw [hqq.out] at hci2
        generalize nth fl (3 * k) = y0 at *
        generalize nth fl (3 * k + 1) = y1 at *
        clear hci hcf
        have hbelB : Below w.heap.size w (wr.alloc (.cells #[.int .i64 y0, .int .i64 y1, .int .i64 p] 94)) := bel.alloc bel.size _
        have hci3 : (wr.alloc (.cells #[.int .i64 y0, .int .i64 y1, .int .i64 p] 94)).cell? ⟨b2, o2 + k, none⟩ = some (.slice Ai q ci) := by
          have h1 := bel.size
          exact (World.cell?_alloc_some wr ⟨b2, o2 + k, none⟩ _ (by rw [hci2]; rfl)).trans hci2
        by_cases he : (q : Int) = p
        · have u1 : ((q : Int) != p) = false := by simp [he]
          have u2 : ((q : Int) == p) = true := by simp [he]
          have HE := Lib.hid he
          clear he
          go_wp2_with fail
          go_quiet (fail)
          have hb3 := below_drewN hbelB nq
          go_wp2
          go_roundw
          case rel => exact ⟨k + 1, by omega, by go_num, Lib.hid (fun j hj => by
            rcases Nat.lt_succ_iff_lt_or_eq.1 hj with h | h
            · exact hs.out j h
            · subst h; rw [hqq.out, hpp.out]; exact HE.out), hb3⟩
          case measure => simp [intOf]; omega
        · have u1 : ((q : Int) != p) = true := by simpa using he
          have u2 : ((q : Int) == p) = false := beq_false_of_ne he
          have HU : Hid (u = false) := Lib.hid (by rw [← hu.out]; exact fitsB_no (i := k) (by rw [HM.out]; exact hlt) (by rw [hqq.out, hpp.out]; exact he))
          clear he
          go_wp2_with fail
          go_quiet (fail)
          have hb3 := below_drewN hbelB nq
          go_wp2
          go_ret
          exact ⟨by rw [HU.out]; rfl, hb3⟩
      · obtain rfl : k = mf := by omega
        have HU : Hid (u = true) := Lib.hid (by rw [← hu.out]; exact fitsB_yes (by rw [HL.out, HM.out]) (fun i hi => hs.out i (by rw [← HM.out]; exact hi)))
        go_wp2
        go_ret
        exact ⟨by rw [HU.out]; rfl, bel⟩
  · have HU : Hid (u = false) := Lib.hid (by rw [← hu.out]; exact fitsB_len (by rw [HL.out, HM.out]; omega))
    have t0 : ((mf : Int) != (lp : Int)) = true := by simp; omega
    have t1 : ((mf : Int) == (lp : Int)) = false := beq_false_of_ne (by omega)
    clear hne
    go_enter Tryz.func110, Tryz.ntmps110
    go_wp2
    go_ret
    exact ⟨by rw [HU.out]; rfl, Below.refl _ _⟩

/-- Does the list that an answer has hold what was asked for? -/
def manyB (q : Req) (r : Rep) : Bool :=
  if q.c = 1 ∨ q.c = 2 then decide ((r.on.length : Int) = q.n) else if q.c = 3 ∨ q.c = 4 then decide ((r.set.length : Int) = q.n) else if q.c = 20 then fitsB q.fl r.fs else true

theorem TB.new2 (w : World) (c1 c2 : Array Value) (t u : TypeId) : TB w w.heap.size (.cells c1 t (0, 0)) (.cells c2 u (0, 0)) ((w.alloc (.cells c1 t)).alloc (.cells c2 u)) :=
  ⟨(heap_alloc_old _ _ (by simp)).trans (heap_alloc_new w _), heap_new_at _ _ (by simp), (bel_alloc w _).alloc (by simp) _⟩
set_option maxHeartbeats 1000000 in
theorem hasAsMany_any (q : Req) (r : Rep) (Ao As Ap Bo Bs Bf : Option Addr) (lo ls lp co cs cp mo ms mf eo es ef : Nat) (w : World) (h : Asked w w.heap.size q Ao As Ap lo ls lp) (hr : Repd w w.heap.size r Bo Bs Bf mo ms mf) (hb : lp ≤ 100000) :
    Calls Tryz.prog 78 #[.agg #[.int .i64 q.c, .int .i64 q.a, .int .i64 q.n, .slice Ao lo co, .slice As ls cs, .slice Ap lp cp], .agg #[.int .i64 r.x, .slice Bo mo eo, .slice Bs ms es, .slice Bf mf ef]] w fun e w' => e = .returned (.bool (manyB q r)) ∧ Below w.heap.size w w' := by
  have t0 := TB.new2 w #[.int .i64 q.c, .int .i64 q.a, .int .i64 q.n, .slice Ao lo co, .slice As ls cs, .slice Ap lp cp] #[.int .i64 r.x, .slice Bo mo eo, .slice Bs ms es, .slice Bf mf ef] 68 30
  have H := Lib.hid (h.below t0.bel)
  have HR := Lib.hid (hr.below t0.bel)
  have bel0 := t0.bel
  have hsz : w.heap.size ≤ ((w.alloc (.cells #[.int .i64 q.c, .int .i64 q.a, .int .i64 q.n, .slice Ao lo co, .slice As ls cs, .slice Ap lp cp] 68)).alloc (.cells #[.int .i64 r.x, .slice Bo mo eo, .slice Bs ms es, .slice Bf mf ef] 30)).heap.size := bel0.size
  have HMO := Lib.hid hr.mo
  have HMS := Lib.hid hr.ms
  obtain ⟨u, hu⟩ : ∃ u, Hid (manyB q r = u) := ⟨_, Lib.hid rfl⟩
  rw [hu.out]
  obtain ⟨c, a, n, on, set, fl⟩ := q
  obtain ⟨x, ron, rset, fs⟩ := r
  simp only at *
  clear h hr t0
  by_cases h1 : c = 1 ∨ c = 2
  · have HU : Hid (decide ((mo : Int) = n) = u) := Lib.hid (by rw [← hu.out]; unfold manyB; rw [if_pos h1, HMO.out])
    have e1 : ((mo : Int) == n) = u := by rw [← HU.out]; by_cases h : (mo : Int) = n <;> simp [h]
    rcases h1 with rfl | rfl
    all_goals
      go_enter Tryz.func78, Tryz.ntmps78
      go_wp2
      go_ret
      exact ⟨rfl, bel0⟩
  · by_cases h2 : c = 3 ∨ c = 4
    · have HU : Hid (decide ((ms : Int) = n) = u) := Lib.hid (by rw [← hu.out]; unfold manyB; rw [if_neg h1, if_pos h2, HMS.out])
      have e1 : ((ms : Int) == n) = u := by rw [← HU.out]; by_cases h : (ms : Int) = n <;> simp [h]
      clear h1
      rcases h2 with rfl | rfl
      all_goals
        go_enter Tryz.func78, Tryz.ntmps78
        go_wp2
        go_ret
        exact ⟨rfl, bel0⟩
    · by_cases h3 : c = 20
      · have HU : Hid (fitsB fl fs = u) := Lib.hid (by rw [← hu.out]; unfold manyB; rw [if_neg h1, if_neg h2, if_pos h3])
        subst h3
        clear h1 h2
        go_enter Tryz.func78, Tryz.ntmps78
        go_wp2_with fail
        refine (fitParts_any Ap Bf lp cp mf ef fl fs _ (H.out.fl.more hsz) H.out.lp (HR.out.fs.more hsz) HR.out.mf hb).mono ?_
        rintro e w1 ⟨rfl, b1⟩
        rw [HU.out]
        go_wp2
        go_ret
        exact ⟨rfl, bel0.trans (b1.mono hsz)⟩
      · have HU : Hid (u = true) := Lib.hid (by rw [← hu.out]; unfold manyB; rw [if_neg h1, if_neg h2, if_neg h3])
        have b1 : (c == 1) = false := beq_false_of_ne (by omega)
        have b2 : (c == 2) = false := beq_false_of_ne (by omega)
        have b3 : (c == 3) = false := beq_false_of_ne (by omega)
        have b4 : (c == 4) = false := beq_false_of_ne (by omega)
        have b5 : (c == 20) = false := beq_false_of_ne h3
        clear h1 h2 h3
        go_enter Tryz.func78, Tryz.ntmps78
        go_wp2
        go_ret
        exact ⟨by rw [HU.out]; rfl, bel0⟩

/-- What is wrong with an answer to a request. -/
def chkR (q : Req) (r : Rep) : Int :=
  if chkQ q ≠ 0 then chkQ q else if r.x ≠ 0 then (if 1 ≤ r.x ∧ r.x ≤ 127 then (if anyB r.on.length r.set.length r.fs.length = true then 23 else 0) else 3)
  else if strayB q.c r.on.length r.set.length r.fs.length = true then 23 else if manyB q r = false then 22 else 0

set_option maxHeartbeats 1000000 in
theorem rpCheck_any (q : Req) (r : Rep) (Ao As Ap Bo Bs Bf : Option Addr) (lo ls lp co cs cp mo ms mf eo es ef : Nat) (w : World) (h : Asked w w.heap.size q Ao As Ap lo ls lp) (hr : Repd w w.heap.size r Bo Bs Bf mo ms mf) (hb : lp ≤ 100000) :
    Calls Tryz.prog 50 #[.agg #[.int .i64 q.c, .int .i64 q.a, .int .i64 q.n, .slice Ao lo co, .slice As ls cs, .slice Ap lp cp], .agg #[.int .i64 r.x, .slice Bo mo eo, .slice Bs ms es, .slice Bf mf ef]] w fun e w' => e = .returned (.int .i64 (chkR q r)) ∧ Below w.heap.size w w' := by
  have t0 := TB.new2 w #[.int .i64 q.c, .int .i64 q.a, .int .i64 q.n, .slice Ao lo co, .slice As ls cs, .slice Ap lp cp] #[.int .i64 r.x, .slice Bo mo eo, .slice Bs ms es, .slice Bf mf ef] 68 30
  have hsz : w.heap.size ≤ ((w.alloc (.cells #[.int .i64 q.c, .int .i64 q.a, .int .i64 q.n, .slice Ao lo co, .slice As ls cs, .slice Ap lp cp] 68)).alloc (.cells #[.int .i64 r.x, .slice Bo mo eo, .slice Bs ms es, .slice Bf mf ef] 30)).heap.size := t0.bel.size
  have H := Lib.hid ((h.below t0.bel).more hsz)
  have HR := Lib.hid ((hr.below t0.bel).more hsz)
  obtain ⟨E, hE⟩ : ∃ E, Hid (chkR q r = E) := ⟨_, Lib.hid rfl⟩
  rw [hE.out]
  obtain ⟨k, hk⟩ : ∃ k, Hid (chkQ q = k) := ⟨_, Lib.hid rfl⟩
  have HC := Lib.hid (Check_Q q Ao As Ap lo ls lp co cs cp _ H.out)
  rw [hk.out] at HC
  clear h hr
  by_cases hk0 : k = 0
  · have HK0 := Lib.hid hk0
    subst hk0
    by_cases hx : r.x = 0
    · have u1 : (r.x != 0) = false := by simp [hx]
      have u2 : (r.x == 0) = true := by simp [hx]
      have HX := Lib.hid hx
      obtain ⟨s, hs⟩ : ∃ s, Hid (strayB q.c mo ms mf = s) := ⟨_, Lib.hid rfl⟩
      obtain ⟨m, hm⟩ : ∃ m, Hid (manyB q r = m) := ⟨_, Lib.hid rfl⟩
      have HE : Hid (E = if s = true then 23 else if m = false then 22 else 0) := Lib.hid (by
        rw [← hE.out]; unfold chkR; rw [if_neg (show ¬ chkQ q ≠ 0 by rw [hk.out]; simp), if_neg (show ¬ r.x ≠ 0 by simp [hx]), HR.out.mo, HR.out.ms, HR.out.mf, hs.out, hm.out])
      clear hx
      go_enter Tryz.func50, Tryz.ntmps50
      go_wp2_with fail
      refine HC.out.mono ?_
      rintro e w1 ⟨rfl, b1⟩
      have t1 := t0.below b1
      have H1 := Lib.hid (H.out.up b1)
      have HR1 := Lib.hid (HR.out.up b1)
      clear t0 b1
      obtain ⟨d0, d1, d2, d3, d4⟩ := t1.c4
      obtain ⟨r0, r1, r2, r3, r4, r5, r6⟩ := t1.r6
      go_wp2_with fail
      clear d0 d1 d2 d3 d4 r0 r1 r2 r3 r4 r5 r6
      refine (rpStray_any q.c r.x Bo Bs Bf mo ms mf eo es ef _).mono ?_
      rintro e w2 ⟨rfl, b2⟩
      rw [hs.out]
      have t2 := t1.below b2
      have H2 := Lib.hid (H1.out.up b2)
      have HR2 := Lib.hid (HR1.out.up b2)
      clear t1 b2
      obtain ⟨d0, d1, d2, d3, d4⟩ := t2.c4
      obtain ⟨r0, r1, r2, r3, r4, r5, r6⟩ := t2.r6
      cases s with
      | true =>
        go_wp2
        go_ret
        exact ⟨by rw [HE.out]; rfl, t2.bel⟩
      | false =>
        go_wp2_with fail
        clear d0 d1 d2 d3 d4 r0 r1 r2 r3 r4 r5 r6
        refine (hasAsMany_any q r Ao As Ap Bo Bs Bf lo ls lp co cs cp mo ms mf eo es ef _ H2.out HR2.out hb).mono ?_
        rintro e w3 ⟨rfl, b3⟩
        rw [hm.out]
        have t3 := t2.below b3
        clear t2 b3
        cases m with
        | true =>
          go_wp2
          go_ret
          exact ⟨by rw [HE.out]; rfl, t3.bel⟩
        | false =>
          go_wp2
          go_ret
          exact ⟨by rw [HE.out]; rfl, t3.bel⟩
    · have u1 : (r.x != 0) = true := by simpa using hx
      have u2 : (r.x == 0) = false := beq_false_of_ne hx
      have HE : Hid ((if 1 ≤ r.x ∧ r.x ≤ 127 then (if anyB mo ms mf = true then 23 else 0) else 3) = E) := Lib.hid (by
        rw [← hE.out]; unfold chkR; rw [if_neg (show ¬ chkQ q ≠ 0 by rw [hk.out]; simp), if_pos hx, HR.out.mo, HR.out.ms, HR.out.mf])
      clear hx
      go_enter Tryz.func50, Tryz.ntmps50
      go_wp2_with fail
      refine HC.out.mono ?_
      rintro e w1 ⟨rfl, b1⟩
      have t1 := t0.below b1
      clear t0 b1
      obtain ⟨d0, d1, d2, d3, d4⟩ := t1.c4
      obtain ⟨r0, r1, r2, r3, r4, r5, r6⟩ := t1.r6
      go_wp2_with fail
      clear d0 d1 d2 d3 d4 r0 r1 r2 r3 r4 r5 r6
      refine (checkExc_any r.x Bo Bs Bf mo ms mf eo es ef _).mono ?_
      rintro e w2 ⟨rfl, b2⟩
      rw [HE.out]
      have t2 := t1.below b2
      go_wp2
      go_ret
      exact ⟨rfl, t2.bel⟩
  · have u1 : (k != 0) = true := by simpa using hk0
    have u2 : (k == 0) = false := beq_false_of_ne hk0
    have HE : Hid (E = k) := Lib.hid (by rw [← hE.out]; unfold chkR; rw [hk.out, if_pos hk0])
    clear hk0
    go_enter Tryz.func50, Tryz.ntmps50
    go_wp2_with fail
    refine HC.out.mono ?_
    rintro e w1 ⟨rfl, b1⟩
    have t1 := t0.below b1
    go_wp2
    go_ret
    exact ⟨by rw [HE.out]; rfl, t1.bel⟩
end Go.Proofs.YtcmbdhmhkfhjfaaGreat
namespace Go.Proofs.YtcmbdhmhkfhjfaaGreat
open Go.RowKit
set_option linter.unusedVariables false

/-- A poll as plain data. -/
structure Pol where
  un : Int
  ki : Int
  ad : Int
  ct : Int
  ev : Int
  tg : List Int
def noT : Tg := ⟨⟨#[]⟩, 0, 0, 0, 0, false, false, false, 0, 0, 0, 0, 0, false, false, false, 0, 0, 0⟩
/-- The tag at a place. -/
def tgAt (l : List Tg) (i : Nat) : Tg := l.getD i noT
theorem tgAt_eq {l : List Tg} {i : Nat} (h : i < l.length) : tgAt l i = l[i] := by simp [tgAt, List.getD_eq_getElem?_getD, List.getElem?_eq_getElem h]

/-- Does one tag stand ahead of another in the order of polling? -/
def aheadP (a b : Tg) (i k : Nat) : Prop := a.un < b.un ∨ (a.un = b.un ∧ (a.ev < b.ev ∨ (a.ev = b.ev ∧ (a.ki < b.ki ∨ (a.ki = b.ki ∧ (a.ad < b.ad ∨ (a.ad = b.ad ∧ i < k)))))))
instance (a b : Tg) (i k : Nat) : Decidable (aheadP a b i k) := by unfold aheadP; infer_instance
def aheadB (l : List Tg) (i k : Nat) : Bool := decide (aheadP (tgAt l i) (tgAt l k) i k)
theorem ahead_iff {l : List Tg} {i k : Nat} : aheadB l i k = true ↔ aheadP (tgAt l i) (tgAt l k) i k := decide_eq_true_iff
theorem ahead_irrefl (l : List Tg) (i : Nat) : aheadB l i i = false := by
  cases h : aheadB l i i with
  | false => rfl
  | true => have := ahead_iff.1 h; unfold aheadP at this; omega
theorem ahead_trans {l : List Tg} {i j k : Nat} (h1 : aheadB l i j = true) (h2 : aheadB l j k = true) : aheadB l i k = true := by
  have h1 := ahead_iff.1 h1
  have h2 := ahead_iff.1 h2
  rw [ahead_iff]
  unfold aheadP at *; omega
theorem ahead_total (l : List Tg) {i k : Nat} (h : i ≠ k) : aheadB l i k = true ∨ aheadB l k i = true := by
  rw [ahead_iff, ahead_iff]
  unfold aheadP; omega
theorem ahead_asymm {l : List Tg} {i k : Nat} (h1 : aheadB l i k = true) (h2 : aheadB l k i = true) : False := by
  have := ahead_trans h1 h2
  rw [ahead_irrefl] at this; cases this

/-- The places in the order of polling. -/
def insT (l : List Tg) (i : Nat) : List Nat → List Nat
  | [] => [i]
  | k :: ks => if aheadB l i k then i :: k :: ks else k :: insT l i ks
def ordT (l : List Tg) : List Nat := (List.range l.length).foldr (insT l) []
theorem insT_perm (l : List Tg) (i : Nat) (ks : List Nat) : (insT l i ks).Perm (i :: ks) := by
  induction ks with
  | nil => exact List.Perm.refl _
  | cons k ks ih =>
    unfold insT
    split
    · exact List.Perm.refl _
    · exact (ih.cons k).trans (List.Perm.swap i k ks)
theorem insT_sorted (l : List Tg) (i : Nat) (ks : List Nat) (hi : i ∉ ks) (h : ks.Pairwise (fun a b => aheadB l a b = true)) : (insT l i ks).Pairwise (fun a b => aheadB l a b = true) := by
  induction ks with
  | nil => exact List.pairwise_singleton _ _
  | cons k ks ih =>
    obtain ⟨h1, h2⟩ := List.pairwise_cons.1 h
    unfold insT
    split
    · rename_i hik
      refine List.pairwise_cons.2 ⟨fun x hx => ?_, h⟩
      rcases List.mem_cons.1 hx with rfl | hx
      · exact hik
      · exact ahead_trans hik (h1 x hx)
    · rename_i hik
      have hne : i ≠ k := fun e => hi (by rw [e]; exact List.mem_cons_self)
      have hki : aheadB l k i = true := (ahead_total l hne).resolve_left hik
      refine List.pairwise_cons.2 ⟨fun x hx => ?_, ih (fun hm => hi (List.mem_cons_of_mem _ hm)) h2⟩
      rcases List.mem_cons.1 ((insT_perm l i ks).mem_iff.1 hx) with rfl | hx
      · exact hki
      · exact h1 x hx
theorem ordT_both (l : List Tg) (ks : List Nat) (hd : ks.Nodup) : (ks.foldr (insT l) []).Perm ks ∧ (ks.foldr (insT l) []).Pairwise (fun a b => aheadB l a b = true) := by
  induction ks with
  | nil => exact ⟨List.Perm.refl _, List.Pairwise.nil⟩
  | cons k ks ih =>
    obtain ⟨h1, h2⟩ := List.nodup_cons.1 hd
    obtain ⟨p, s⟩ := ih h2
    rw [List.foldr_cons]
    exact ⟨(insT_perm l k _).trans (p.cons k), insT_sorted l k _ (fun hm => h1 (p.mem_iff.1 hm)) s⟩
theorem ordT_perm (l : List Tg) : (ordT l).Perm (List.range l.length) := (ordT_both l _ List.nodup_range).1
theorem ordT_sorted (l : List Tg) : (ordT l).Pairwise (fun a b => aheadB l a b = true) := (ordT_both l _ List.nodup_range).2
theorem ordT_len (l : List Tg) : (ordT l).length = l.length := by rw [(ordT_perm l).length_eq, List.length_range]
theorem ordT_lt {l : List Tg} {k : Nat} (h : k ∈ ordT l) : k < l.length := List.mem_range.1 ((ordT_perm l).mem_iff.1 h)
/-- The order of polling is the only one. -/
theorem ordT_only {l : List Tg} {o : List Nat} (hp : o.Perm (List.range l.length)) (hs : o.Pairwise (fun a b => aheadB l a b = true)) : o = ordT l :=
  List.Perm.eq_of_pairwise (le := fun a b => aheadB l a b = true) (fun a b _ _ h1 h2 => (ahead_asymm h1 h2).elim) hs (ordT_sorted l) (hp.trans (ordT_perm l).symm)
/-- Of an order that comes one by one: so many different places, each ahead of all that are left. -/
theorem ordT_only2 {l : List Tg} {o : List Nat} (hl : o.length = l.length) (hlt : ∀ k ∈ o, k < l.length) (hs : o.Pairwise (fun a b => aheadB l a b = true)) : o = ordT l := by
  have hn : o.Nodup := hs.imp (fun {a b} h e => by subst e; rw [ahead_irrefl] at h; cases h)
  refine ordT_only ?_ hs
  refine (List.perm_ext_iff_of_nodup hn List.nodup_range).2 fun a => ⟨fun ha => List.mem_range.2 (hlt a ha), fun ha => ?_⟩
  by_cases hm : a ∈ o
  · exact hm
  · have := (List.nodup_cons.2 ⟨hm, hn⟩).length_le_of_subset (l₂ := List.range l.length) (fun x hx => by
      rcases List.mem_cons.1 hx with rfl | hx
      · exact ha
      · exact List.mem_range.2 (hlt x hx))
    rw [List.length_cons, List.length_range] at this
    omega

/-- How many addresses a poll may have. -/
def mostK (k : Int) : Int := if k = 1 ∨ k = 2 then 2000 else 125
/-- How many it has with a tag more. -/
def cntJ (p : Pol) (t : Tg) : Int := if t.ad + widT t - p.ad < p.ct then p.ct else t.ad + widT t - p.ad
def joinB (p : Pol) (t : Tg) : Bool := decide (p.un = t.un ∧ p.ev = t.ev ∧ p.ki = t.ki ∧ t.ad - 8 ≤ p.ad + p.ct ∧ cntJ p t ≤ mostK t.ki)
def newP (t : Tg) (k : Nat) : Pol := ⟨t.un, t.ki, t.ad, widT t, t.ev, [(k : Int)]⟩
def Pol.join (p : Pol) (t : Tg) (k : Nat) : Pol := ⟨p.un, p.ki, p.ad, cntJ p t, p.ev, p.tg ++ [(k : Int)]⟩
def addP (ps : List Pol) (t : Tg) (k : Nat) : List Pol := match ps.getLast? with
  | none => [newP t k]
  | some p => if joinB p t then ps.dropLast ++ [p.join t k] else ps ++ [newP t k]
def pollsO (l : List Tg) (o : List Nat) : List Pol := o.foldl (fun ps k => addP ps (tgAt l k) k) []
theorem pollsO_nil (l : List Tg) : pollsO l [] = [] := rfl
theorem pollsO_snoc (l : List Tg) (o : List Nat) (k : Nat) : pollsO l (o ++ [k]) = addP (pollsO l o) (tgAt l k) k := by simp [pollsO, List.foldl_append]
theorem addP_nil (t : Tg) (k : Nat) : addP [] t k = [newP t k] := rfl
theorem addP_join {ps : List Pol} {p : Pol} {t : Tg} {k : Nat} (h : joinB p t = true) : addP (ps ++ [p]) t k = ps ++ [p.join t k] := by
  simp [addP, h]
theorem addP_new {ps : List Pol} {p : Pol} {t : Tg} {k : Nat} (h : joinB p t = false) : addP (ps ++ [p]) t k = ps ++ [p, newP t k] := by
  simp [addP, h]
/-- The polls of a table. -/
def planL (l : List Tg) : List Pol := if (chkAll l).1 = 0 then pollsO l (ordT l) else []
theorem snoc_cases {α : Type} (l : List α) : l = [] ∨ ∃ m a, l = m ++ [a] := by
  rcases List.eq_nil_or_concat l with h | ⟨m, a, h⟩
  · exact .inl h
  · exact .inr ⟨m, a, by rw [h, List.concat_eq_append]⟩

/-- What each poll is like. -/
structure PGood (l : List Tg) (p : Pol) : Prop where
  ki : 1 ≤ p.ki ∧ p.ki ≤ 4
  ct : 1 ≤ p.ct ∧ p.ct ≤ mostK p.ki
  ad : 0 ≤ p.ad ∧ p.ad + p.ct ≤ 65536
  un : 1 ≤ p.un ∧ p.un ≤ 247
  ev : 1 ≤ p.ev ∧ p.ev ≤ 1048576
  hd : ∃ k : Nat, p.tg.head? = some (k : Int) ∧ k < l.length ∧ (tgAt l k).un = p.un ∧ (tgAt l k).ev = p.ev ∧ (tgAt l k).ki = p.ki ∧ (tgAt l k).ad = p.ad
  all : ∀ x ∈ p.tg, ∃ k : Nat, x = (k : Int) ∧ k < l.length ∧ (tgAt l k).un = p.un ∧ (tgAt l k).ev = p.ev ∧ (tgAt l k).ki = p.ki ∧ p.ad ≤ (tgAt l k).ad ∧ (tgAt l k).ad + widT (tgAt l k) ≤ p.ad + p.ct
def keyLe (a b : Pol) : Prop := a.un < b.un ∨ (a.un = b.un ∧ (a.ev < b.ev ∨ (a.ev = b.ev ∧ (a.ki < b.ki ∨ (a.ki = b.ki ∧ a.ad ≤ b.ad)))))
/-- Two polls that stand one behind the other. -/
def PFar (l : List Tg) (a b : Pol) : Prop := keyLe a b ∧ ∃ k : Nat, b.tg.head? = some (k : Int) ∧ k < l.length ∧ joinB a (tgAt l k) = false
structure PInv (l : List Tg) (o : List Nat) (ps : List Pol) : Prop where
  flat : ps.flatMap Pol.tg = o.map (fun k : Nat => (k : Int))
  each : ∀ p ∈ ps, PGood l p
  next : ∀ i (h : i + 1 < ps.length), PFar l ps[i] ps[i + 1]
theorem tag_right {l : List Tg} (h : (chkAll l).1 = 0) {k : Nat} (hk : k < l.length) : chkT (tgAt l k) = 0 := by
  rw [tgAt_eq hk]
  exact (tab_of (k := (chkAll l).2) (by rw [← h])).2.2.1 _ (List.getElem_mem hk)
theorem tag_tab {l : List Tg} (h : (chkAll l).1 = 0) : TabT l := (tab_of (k := (chkAll l).2) (by rw [← h])).2

theorem wid_most (t : Tg) : widT t ≤ mostK t.ki := by
  have := widT_le t
  unfold mostK; split <;> omega
theorem newP_good {l : List Tg} {k : Nat} (hk : k < l.length) (hc : chkT (tgAt l k) = 0) : PGood l (newP (tgAt l k) k) := by
  obtain ⟨_, h2, h3, h4, h5, _⟩ := chkT_zero hc
  have hw := widT_le (tgAt l k)
  refine ⟨h3, ⟨hw.1, wid_most _⟩, ⟨h4.1, by show (tgAt l k).ad + widT (tgAt l k) ≤ 65536; omega⟩, h2, h5, ⟨k, rfl, hk, rfl, rfl, rfl, rfl⟩, fun x hx => ?_⟩
  have hx : x = (k : Int) := by simpa [newP] using hx
  exact ⟨k, hx, hk, rfl, rfl, rfl, Int.le_refl _, Int.le_refl _⟩
theorem join_good {l : List Tg} {p : Pol} {k : Nat} (h : PGood l p) (hk : k < l.length) (hc : chkT (tgAt l k) = 0) (hj : joinB p (tgAt l k) = true) (ha : p.ad ≤ (tgAt l k).ad) : PGood l (p.join (tgAt l k) k) := by
  obtain ⟨_, h2, h3, h4, h5, _⟩ := chkT_zero hc
  have hw := widT_le (tgAt l k)
  obtain ⟨g1, g2, g3, g4, g5⟩ := of_decide_eq_true hj
  have hcnt : cntJ p (tgAt l k) = p.ct ∧ (tgAt l k).ad + widT (tgAt l k) ≤ p.ad + p.ct ∨ cntJ p (tgAt l k) = (tgAt l k).ad + widT (tgAt l k) - p.ad ∧ p.ct ≤ cntJ p (tgAt l k) := by
    unfold cntJ; split <;> omega
  have hct := h.ct
  have had := h.ad
  refine ⟨h.ki, ⟨?_, ?_⟩, ⟨had.1, ?_⟩, h.un, h.ev, ?_, fun x hx => ?_⟩
  · show 1 ≤ cntJ p (tgAt l k)
    rcases hcnt with h | h <;> omega
  · show cntJ p (tgAt l k) ≤ mostK p.ki
    rw [g3]; exact g5
  · show p.ad + cntJ p (tgAt l k) ≤ 65536
    rcases hcnt with h | h <;> omega
  · obtain ⟨k', e, r⟩ := h.hd
    refine ⟨k', ?_, r⟩
    show (p.tg ++ [(k : Int)]).head? = _
    rw [List.head?_append, e]; rfl
  · rcases List.mem_append.1 (show x ∈ p.tg ++ [(k : Int)] from hx) with hx | hx
    · obtain ⟨k', e, k1, k2, k3, k4, k5, k6⟩ := h.all x hx
      refine ⟨k', e, k1, k2, k3, k4, k5, ?_⟩
      show _ ≤ p.ad + cntJ p (tgAt l k)
      rcases hcnt with h | h <;> omega
    · refine ⟨k, by simpa using hx, hk, g1.symm, g2.symm, g3.symm, ha, ?_⟩
      show _ ≤ p.ad + cntJ p (tgAt l k)
      rcases hcnt with h | h <;> omega
theorem pinv_nil (l : List Tg) : PInv l [] [] := ⟨rfl, fun p hp => (by cases hp), fun i h => (by simp at h)⟩
theorem pinv_head {l : List Tg} {o : List Nat} {ps : List Pol} (h : PInv l o ps) {p : Pol} (hp : p ∈ ps) {k : Nat} (hk : p.tg.head? = some (k : Int)) : k ∈ o := by
  have hm : (k : Int) ∈ ps.flatMap Pol.tg := List.mem_flatMap.2 ⟨p, hp, List.mem_of_mem_head? (by rw [hk]; rfl)⟩
  rw [h.flat, List.mem_map] at hm
  obtain ⟨k', h1, h2⟩ := hm
  have : k' = k := by omega
  rw [← this]; exact h1
theorem pinv_step {l : List Tg} {o : List Nat} {ps : List Pol} (h : PInv l o ps) {k : Nat} (hk : k < l.length) (hc : chkT (tgAt l k) = 0) (ho : ∀ j ∈ o, aheadB l j k = true) : PInv l (o ++ [k]) (addP ps (tgAt l k) k) := by
  rcases snoc_cases ps with rfl | ⟨qs, p, rfl⟩
  · rw [addP_nil]
    have hn : o = [] := by
      have := h.flat
      simpa using this.symm
    subst hn
    refine ⟨by simp [newP], fun p hp => ?_, fun i hi => by simp at hi⟩
    obtain rfl : p = newP (tgAt l k) k := by simpa using hp
    exact newP_good hk hc
  · have hpm : p ∈ qs ++ [p] := List.mem_append_right _ (by simp)
    have hg := h.each p hpm
    obtain ⟨kh, e1, e2, e3, e4, e5, e6⟩ := hg.hd
    have hah : aheadP (tgAt l kh) (tgAt l k) kh k := of_decide_eq_true (ho kh (pinv_head h hpm e1))
    cases hj : joinB p (tgAt l k) with
    | true =>
      rw [addP_join hj]
      obtain ⟨g1, g2, g3, g4, g5⟩ := of_decide_eq_true hj
      have hgood := join_good hg hk hc hj (by unfold aheadP at hah; omega)
      refine ⟨?_, fun q hq => ?_, fun i hi => ?_⟩
      · have := h.flat
        rw [List.flatMap_append] at this ⊢
        simp only [List.flatMap_cons, List.flatMap_nil, List.append_nil] at this ⊢
        rw [List.map_append, ← this, List.append_assoc]; rfl
      · rcases List.mem_append.1 hq with hq | hq
        · exact h.each q (List.mem_append_left _ hq)
        · obtain rfl : q = p.join (tgAt l k) k := by simpa using hq
          exact hgood
      · have hi2 : i + 1 < (qs ++ [p]).length := by simpa using hi
        have hq := h.next i hi2
        have hi3 : i < qs.length := by simp at hi; omega
        rw [List.getElem_append_left hi3] at hq ⊢
        by_cases hl : i + 1 < qs.length
        · rw [List.getElem_append_left hl] at hq ⊢
          exact hq
        · have : i + 1 = qs.length := by simp at hi; omega
          rw [List.getElem_append_right (by omega)] at hq ⊢
          simp only [this, Nat.sub_self, List.getElem_cons_zero] at hq ⊢
          obtain ⟨q1, k', q2, q3, q4⟩ := hq
          refine ⟨q1, k', ?_, q3, q4⟩
          show (p.tg ++ [(k : Int)]).head? = _
          rw [List.head?_append, q2]; rfl
    | false =>
      rw [addP_new hj]
      have hgood := newP_good hk hc
      refine ⟨?_, fun q hq => ?_, fun i hi => ?_⟩
      · have := h.flat
        rw [List.flatMap_append] at this ⊢
        simp only [List.flatMap_cons, List.flatMap_nil, List.append_nil] at this ⊢
        rw [List.map_append, ← this, List.append_assoc]; rfl
      · rcases List.mem_append.1 hq with hq | hq
        · exact h.each q (List.mem_append_left _ hq)
        · rcases List.mem_cons.1 hq with rfl | hq
          · exact hg
          · obtain rfl : q = newP (tgAt l k) k := by simpa using hq
            exact hgood
      · by_cases hl : i + 1 < (qs ++ [p]).length
        · have hq := h.next i hl
          have a1 : (qs ++ [p, newP (tgAt l k) k])[i] = (qs ++ [p])[i] := by
            simp only [show qs ++ [p, newP (tgAt l k) k] = (qs ++ [p]) ++ [newP (tgAt l k) k] by simp]
            rw [List.getElem_append_left]
          have a2 : (qs ++ [p, newP (tgAt l k) k])[i + 1] = (qs ++ [p])[i + 1] := by
            simp only [show qs ++ [p, newP (tgAt l k) k] = (qs ++ [p]) ++ [newP (tgAt l k) k] by simp]
            rw [List.getElem_append_left]
          rw [a1, a2]
          exact hq
        · have hil : i = qs.length := by simp at hl hi; omega
          subst hil
          have a1 : (qs ++ [p, newP (tgAt l k) k])[qs.length] = p := by
            rw [List.getElem_append_right (Nat.le_refl _)]; simp
          have a2 : (qs ++ [p, newP (tgAt l k) k])[qs.length + 1] = newP (tgAt l k) k := by
            rw [List.getElem_append_right (by omega)]; simp
          rw [a1, a2]
          refine ⟨?_, k, rfl, hk, hj⟩
          unfold aheadP at hah
          show p.un < (tgAt l k).un ∨ (p.un = (tgAt l k).un ∧ (p.ev < (tgAt l k).ev ∨ (p.ev = (tgAt l k).ev ∧ (p.ki < (tgAt l k).ki ∨ (p.ki = (tgAt l k).ki ∧ p.ad ≤ (tgAt l k).ad)))))
          omega
theorem pinv_all {l : List Tg} (hc : ∀ k, k < l.length → chkT (tgAt l k) = 0) (o : List Nat) (hlt : ∀ k ∈ o, k < l.length) (hs : o.Pairwise (fun a b => aheadB l a b = true)) : PInv l o (pollsO l o) := by
  have key : ∀ m, m ≤ o.length → PInv l (o.take m) (pollsO l (o.take m)) := by
    intro m
    induction m with
    | zero => intro _; rw [List.take_zero, pollsO_nil]; exact pinv_nil l
    | succ m ih =>
      intro hm
      have hmo : m < o.length := by omega
      rw [List.take_succ_eq_append_getElem hmo, pollsO_snoc]
      have hko := List.getElem_mem hmo
      refine pinv_step (ih (by omega)) (hlt _ hko) (hc _ (hlt _ hko)) fun j hj => ?_
      obtain ⟨i, hi, rfl⟩ := List.mem_iff_getElem.1 hj
      rw [List.length_take] at hi
      rw [List.getElem_take]
      exact List.pairwise_iff_getElem.1 hs i m (by omega) hmo (by omega)
  have := key o.length (Nat.le_refl _)
  rwa [List.take_length] at this
/-- The polls of a table. -/
theorem plan_inv {l : List Tg} (h : (chkAll l).1 = 0) : PInv l (ordT l) (planL l) := by
  rw [planL, if_pos h]
  exact pinv_all (fun k hk => tag_right h hk) _ (fun k hk => ordT_lt hk) (ordT_sorted l)
theorem plan_bad {l : List Tg} (h : (chkAll l).1 ≠ 0) : planL l = [] := by rw [planL, if_neg h]

/-- What a poll asks, and what is wrong with it. -/
def reqK (k a c : Int) : Req := ⟨k, a, c, [], [], []⟩
def askE (k a c : Int) : Int := if k < 1 ∨ 4 < k then 28 else chkQ (reqK k a c)
def askN (k a c x : Int) : Int := if askE k a c = 0 then x else 0
theorem mm_low {k : Int} (h : 1 ≤ k ∧ k ≤ 4) : mm k = mostK k := by
  have : k = 1 ∨ k = 2 ∨ k = 3 ∨ k = 4 := by omega
  rcases this with rfl | rfl | rfl | rfl <;> rfl
theorem askE_eq {k : Int} (h : 1 ≤ k ∧ k ≤ 4) (a c : Int) : askE k a c = if a < 0 ∨ 65536 ≤ a then 21 else if c < 1 ∨ mostK k < c then 22 else if 65536 < a + c then 21 else 0 := by
  have hk : k = 1 ∨ k = 2 ∨ k = 3 ∨ k = 4 := by omega
  unfold askE
  rw [if_neg (by omega)]
  have hm := mm_low h
  have he : chkQ (reqK k a c) = chk k a c 0 0 0 [] := by simp [chkQ, reqK]
  rw [he]
  unfold chk
  have hs : stray k a c 0 0 0 = false := by rcases hk with rfl | rfl | rfl | rfl <;> rfl
  have hmn : many k c 0 0 0 = c := by rcases hk with rfl | rfl | rfl | rfl <;> rfl
  have hmp : ¬ mm k ≤ 0 := by rw [hm]; unfold mostK; split <;> omega
  rw [if_neg hmp, if_neg (by rw [hs]; simp), hmn, hm]
  have h20 : ¬ k = 20 := by omega
  rw [if_neg h20]
theorem good_ask {l : List Tg} {p : Pol} (h : PGood l p) : askE p.ki p.ad p.ct = 0 := by
  have h1 := h.ct
  have h2 := h.ad
  rw [askE_eq h.ki, if_neg (by omega), if_neg (by omega), if_neg (by omega)]
theorem askE_zero {k a c : Int} (h : askE k a c = 0) : (1 ≤ k ∧ k ≤ 4) ∧ (0 ≤ a ∧ a < 65536) ∧ (1 ≤ c ∧ c ≤ mostK k) ∧ a + c ≤ 65536 := by
  by_cases hk : k < 1 ∨ 4 < k
  · unfold askE at h; rw [if_pos hk] at h; cases h
  · rw [askE_eq (by omega)] at h
    by_cases h1 : a < 0 ∨ 65536 ≤ a
    · rw [if_pos h1] at h; cases h
    · rw [if_neg h1] at h
      by_cases h2 : c < 1 ∨ mostK k < c
      · rw [if_pos h2] at h; cases h
      · rw [if_neg h2] at h
        by_cases h3 : 65536 < a + c
        · rw [if_pos h3] at h; cases h
        · omega
end Go.Proofs.YtcmbdhmhkfhjfaaGreat
namespace Go.Proofs.YtcmbdhmhkfhjfaaGreat
open Go.RowKit
set_option linter.unusedVariables false

theorem pLetter_any (c : Int) (w : World) : Calls Tryz.prog 128 #[.int .i32 c] w fun e w' => e = .returned (.bool (letB c)) ∧ w' = w := by
  refine letter_cases c _ ?_ ?_ ?_ ?_ ?_
  · intro h1 h2 h
    rw [h]
    go_enter Tryz.func128, Tryz.ntmps128
    go_wp2
    go_ret
    exact ⟨rfl, rfl⟩
  · intro h1 h2 h
    have h3 : ¬ c ≤ 90 := by omega
    have h4 : 65 ≤ c := by omega
    rw [h]
    go_enter Tryz.func128, Tryz.ntmps128
    go_wp2
    go_ret
    exact ⟨rfl, rfl⟩
  · intro h1 h2 h3 h
    rw [h]
    go_enter Tryz.func128, Tryz.ntmps128
    go_wp2
    go_ret
    exact ⟨rfl, rfl⟩
  · intro h1 h2 h3 h
    rw [h]
    go_enter Tryz.func128, Tryz.ntmps128
    go_wp2
    go_ret
    exact ⟨rfl, rfl⟩
  · intro h1 h2 h
    rw [h]
    go_enter Tryz.func128, Tryz.ntmps128
    go_wp2
    go_ret
    exact ⟨rfl, rfl⟩

/-- What may stand behind a first letter, beside a letter. -/
def ltrB (c : Int) : Bool := (decide (48 ≤ c) && decide (c ≤ 57)) || (decide (c = 95) || (decide (c = 46) || decide (c = 45)))
theorem chB_ltr (c : Int) : chB c = (letB c || ltrB c) := by
  unfold chB ltrB
  cases letB c <;> cases (decide (48 ≤ c) && decide (c ≤ 57)) <;> cases decide (c = 95) <;> cases decide (c = 46) <;> cases decide (c = 45) <;> rfl
theorem pLater_any (c : Int) (w : World) : Calls Tryz.prog 129 #[.int .i32 c] w fun e w' => e = .returned (.bool (ltrB c)) ∧ w' = w := by
  by_cases h1 : c = 95
  · subst h1
    rw [show ltrB 95 = true from rfl]
    go_enter Tryz.func129, Tryz.ntmps129
    go_wp2
    go_ret
    exact ⟨rfl, rfl⟩
  by_cases h2 : c = 46
  · subst h2
    rw [show ltrB 46 = true from rfl]
    go_enter Tryz.func129, Tryz.ntmps129
    go_wp2
    go_ret
    exact ⟨rfl, rfl⟩
  by_cases h3 : c = 45
  · subst h3
    rw [show ltrB 45 = true from rfl]
    go_enter Tryz.func129, Tryz.ntmps129
    go_wp2
    go_ret
    exact ⟨rfl, rfl⟩
  have e1 : (c == 95) = false := by simp [h1]
  have e2 : (c == 46) = false := by simp [h2]
  have e3 : (c == 45) = false := by simp [h3]
  by_cases h4 : 48 ≤ c
  · by_cases h5 : c ≤ 57
    · have HB : Hid (ltrB c = true) := Lib.hid (by unfold ltrB; simp [h4, h5])
      rw [HB.out]
      go_enter Tryz.func129, Tryz.ntmps129
      go_wp2
      go_ret
      exact ⟨rfl, rfl⟩
    · have HB : Hid (ltrB c = false) := Lib.hid (by unfold ltrB; simp [h1, h2, h3, h5])
      rw [HB.out]
      go_enter Tryz.func129, Tryz.ntmps129
      go_wp2
      go_ret
      exact ⟨rfl, rfl⟩
  · have HB : Hid (ltrB c = false) := Lib.hid (by unfold ltrB; simp [h1, h2, h3, h4])
    rw [HB.out]
    go_enter Tryz.func129, Tryz.ntmps129
    go_wp2
    go_ret
    exact ⟨rfl, rfl⟩
theorem let_high {c : Int} (h : 128 ≤ c) : letB c = false ∧ ltrB c = false ∧ chB c = false := by
  have h1 : letB c = false := by
    simp only [letB, Bool.or_eq_false_iff, Bool.and_eq_false_iff, decide_eq_false_iff_not]
    omega
  have h2 : ltrB c = false := by
    simp only [ltrB, Bool.or_eq_false_iff, Bool.and_eq_false_iff, decide_eq_false_iff_not]
    omega
  exact ⟨h1, h2, by rw [chB_ltr, h1, h2]; rfl⟩
/-- What a range over a text gives at a place: that byte, or a number that is none of a name's. -/
theorem rune_at (s : ByteArray) (p : Nat) (h : p < s.size) :
    (nth (bys s) p < 128 ∧ (Utf8.decode s p).1 = (nth (bys s) p).toNat ∧ (Utf8.decode s p).2 = 1) ∨ (128 ≤ nth (bys s) p ∧ 128 ≤ (Utf8.decode s p).1) := by
  rw [bys_get s p h]
  by_cases ha : (s[p]'h).toNat < 128
  · left
    rw [decode_ascii s p h ha]
    exact ⟨by omega, by simp, rfl⟩
  · right
    exact ⟨by omega, (decode_high s p h (by omega)).1⟩
theorem iter_bel (w : World) (s : ByteArray) (p : Nat) : Below w.heap.size w (w.iter s p) := bel_alloc w _
set_option maxHeartbeats 1000000 in
theorem Name9_any (s : ByteArray) (w : World) (hs : s.size ≤ maxLen) : Calls Tryz.prog 114 #[.string s] w fun e w' => e = .returned (.bool (nameB (bys s))) ∧ Below w.heap.size w w' := by
  unfold maxLen at hs
  have hl := bys_len s
  by_cases h1 : s.size < 1
  · have HB : Hid (nameB (bys s) = false) := Lib.hid (nameB_len (.inl (by omega)))
    rw [HB.out]
    have h1' : (s.size : Int) < 1 := by omega
    clear hl
    go_enter Tryz.func114, Tryz.ntmps114
    go_wp2
    go_ret
    exact ⟨rfl, Below.refl _ _⟩
  by_cases h2 : 16 < s.size
  · have HB : Hid (nameB (bys s) = false) := Lib.hid (nameB_len (.inr (by omega)))
    rw [HB.out]
    have h1' : ¬ (s.size : Int) < 1 := by omega
    have h2' : (s.size : Int) > 16 := by omega
    clear hl
    go_enter Tryz.func114, Tryz.ntmps114
    go_wp2
    go_ret
    exact ⟨rfl, Below.refl _ _⟩
  have h1' : ¬ (s.size : Int) < 1 := by omega
  have h2' : ¬ (s.size : Int) > 16 := by omega
  have HL := Lib.hid hl
  clear hl
  go_enter Tryz.func114, Tryz.ntmps114
  go_wp2
  go_loopw [] (fun wr => ∃ p : Nat, p ≤ s.size ∧ wr = w.iter s p ∧ Hid (∀ i, i < p → chB (nth (bys s) i) = true) ∧ Hid (0 < p → letB (nth (bys s) 0) = true)) (fun wr => s.size - wr.iterPos w.heap.size)
  case atStart => exact ⟨0, by omega, rfl, Lib.hid (fun i hi => absurd hi (by omega)), Lib.hid (fun h => absurd h (by omega))⟩
  case round =>
    obtain ⟨p, hp, rfl, hall, hfst⟩ := hrel
    by_cases hlt : p < s.size
    · have hnx : ∀ ty, (Instr.next (.pointer (some ⟨w.heap.size, 0, none⟩)) true ty).run Tryz.prog (w.iter s p) = _ := fun ty => run_next_any w s p ty hlt
      have hpl : p < (bys s).length := by rw [HL.out]; exact hlt
      rcases rune_at s p hlt with ⟨a1, a2, a3⟩ | ⟨a1, a2⟩
      · have hb0 := (bys_bound s p hlt).1
        obtain ⟨c, hc⟩ : ∃ c, nth (bys s) p = c := ⟨_, rfl⟩
        have HC := Lib.hid hc
        rw [hc] at a1 a2 hb0
        have e1 : ((Utf8.decode s p).1 : Int) = c := by rw [a2]; omega
        rw [e1, a3] at hnx
        clear hc e1 a2 a3 hpl
        cases hl1 : letB c
        case true =>
          have hall2 : Hid (∀ i, i < p + 1 → chB (nth (bys s) i) = true) := Lib.hid (fun i hi => by
            rcases Nat.lt_or_ge i p with h | h
            · exact hall.out i h
            · obtain rfl : i = p := by omega
              rw [HC.out]; exact chB_letter hl1)
          have hfst2 : Hid (0 < p + 1 → letB (nth (bys s) 0) = true) := Lib.hid (fun _ => by
            rcases Nat.eq_zero_or_pos p with h | h
            · subst h; rw [HC.out]; exact hl1
            · exact hfst.out h)
          have HL1 := Lib.hid hl1
          go_wp2_with (go_at_call 128; refine (pLetter_any _ _).mono ?_; rintro e w' ⟨rfl, rfl⟩; rw [HL1.out])
          go_roundw
          case rel => exact ⟨p + 1, by omega, rfl, hall2, hfst2⟩
          case measure => simp; omega
        case false =>
          have HL1 := Lib.hid hl1
          rcases Nat.eq_zero_or_pos p with h0 | h0
          · subst h0
            have HB : Hid (nameB (bys s) = false) := Lib.hid (nameB_first (by rw [HC.out]; exact hl1))
            clear hl1
            go_wp2_with (go_at_call 128; refine (pLetter_any _ _).mono ?_; rintro e w' ⟨rfl, rfl⟩; rw [HL1.out])
            go_ret
            exact ⟨by rw [HB.out]; rfl, iter_bel w s _⟩
          · have hp0 : (p == 0) = false := by simp; omega
            have hp1 : ¬ (p : Int) = 0 := by omega
            cases hl2 : ltrB c
            case true =>
              have hall2 : Hid (∀ i, i < p + 1 → chB (nth (bys s) i) = true) := Lib.hid (fun i hi => by
                rcases Nat.lt_or_ge i p with h | h
                · exact hall.out i h
                · obtain rfl : i = p := by omega
                  rw [HC.out, chB_ltr, hl2, Bool.or_true])
              have hfst2 : Hid (0 < p + 1 → letB (nth (bys s) 0) = true) := Lib.hid (fun _ => hfst.out h0)
              have HL2 := Lib.hid hl2
              clear hl1 hl2
              go_wp2_with (first | (go_at_call 128; refine (pLetter_any _ _).mono ?_; rintro e w' ⟨rfl, rfl⟩; rw [HL1.out]) | (go_at_call 129; refine (pLater_any _ _).mono ?_; rintro e w' ⟨rfl, rfl⟩; rw [HL2.out]) | fail)
              go_roundw
              case rel => exact ⟨p + 1, by omega, rfl, hall2, hfst2⟩
              case measure => simp; omega
            case false =>
              have HB : Hid (nameB (bys s) = false) := Lib.hid (nameB_bad p (by rw [HL.out]; exact hlt) (by rw [HC.out, chB_ltr, hl1, hl2]; rfl))
              have HL2 := Lib.hid hl2
              clear hl1 hl2
              go_wp2_with (first | (go_at_call 128; refine (pLetter_any _ _).mono ?_; rintro e w' ⟨rfl, rfl⟩; rw [HL1.out]) | (go_at_call 129; refine (pLater_any _ _).mono ?_; rintro e w' ⟨rfl, rfl⟩; rw [HL2.out]) | fail)
              go_ret
              exact ⟨by rw [HB.out]; rfl, iter_bel w s _⟩
      · have HB : Hid (nameB (bys s) = false) := Lib.hid (nameB_bad p (by rw [HL.out]; exact hlt) (let_high a1).2.2)
        obtain ⟨c, hc⟩ : ∃ c : Nat, (Utf8.decode s p).1 = c := ⟨_, rfl⟩
        obtain ⟨d, hd⟩ : ∃ d : Nat, (Utf8.decode s p).2 = d := ⟨_, rfl⟩
        rw [hc, hd] at hnx
        rw [hc] at a2
        have HL1 : Hid (letB (c : Int) = false) := Lib.hid (let_high (by omega)).1
        have HL2 : Hid (ltrB (c : Int) = false) := Lib.hid (let_high (by omega)).2.1
        clear hc hd a1 a2 hpl
        rcases Nat.eq_zero_or_pos p with h0 | h0
        · subst h0
          go_wp2_with (first | (go_at_call 128; refine (pLetter_any _ _).mono ?_; rintro e w' ⟨rfl, rfl⟩; rw [HL1.out]) | (go_at_call 129; refine (pLater_any _ _).mono ?_; rintro e w' ⟨rfl, rfl⟩; rw [HL2.out]) | fail)
          go_ret
          exact ⟨by rw [HB.out]; rfl, iter_bel w s _⟩
        · have hp0 : (p == 0) = false := by simp; omega
          have hp1 : ¬ (p : Int) = 0 := by omega
          go_wp2_with (first | (go_at_call 128; refine (pLetter_any _ _).mono ?_; rintro e w' ⟨rfl, rfl⟩; rw [HL1.out]) | (go_at_call 129; refine (pLater_any _ _).mono ?_; rintro e w' ⟨rfl, rfl⟩; rw [HL2.out]) | fail)
          go_ret
          exact ⟨by rw [HB.out]; rfl, iter_bel w s _⟩
    · obtain rfl : p = s.size := by omega
      have HB : Hid (nameB (bys s) = true) := Lib.hid (nameB_good (by rw [HL.out]; omega) (by rw [HL.out]; omega) (hfst.out (by omega)) (fun i hi => hall.out i (by rw [HL.out] at hi; exact hi)))
      have hnx : ∀ ty, (Instr.next (.pointer (some ⟨w.heap.size, 0, none⟩)) true ty).run Tryz.prog (w.iter s s.size) = _ := fun ty => run_next_end w s s.size ty hlt
      go_wp2
      go_ret
      exact ⟨by rw [HB.out]; rfl, iter_bel w s _⟩
end Go.Proofs.YtcmbdhmhkfhjfaaGreat
namespace Go.Proofs.YtcmbdhmhkfhjfaaGreat
open Go.RowKit
set_option linter.unusedVariables false

/-- An alarm as a value; what Step and Ack give. -/
def almV (a : Alm) : Value := .agg #[.int .i64 a.st, .bool a.wt]
def stepR (r : Alm × Int) : Value := .tuple #[almV r.1, .int .i64 r.2]
def ackR (r : Alm × Bool) : Value := .tuple #[almV r.1, .bool r.2]
theorem chkL_ok {l : Lim} (h : okL l = true) : chkL l = 0 := by unfold chkL; rw [h]; rfl
theorem chkL_bad {l : Lim} (h : okL l = false) : chkL l = 27 := by unfold chkL; rw [h]; rfl
theorem isSt_no {st : Int} (h0 : ¬ st = 0) (h1 : ¬ st = 1) (h2 : ¬ st = 2) : isSt st = false := by unfold isSt; simp [h0, h1, h2]

end Go.Proofs.YtcmbdhmhkfhjfaaGreat
namespace Go.Proofs.YtcmbdhmhkfhjfaaGreat
open Go.RowKit
set_option linter.unusedVariables false

theorem bel_two (w : World) (a b : Obj) : Below w.heap.size w ((w.alloc a).alloc b) := (bel_alloc w a).alloc (by simp) b
end Go.Proofs.YtcmbdhmhkfhjfaaGreat
namespace Go.Proofs.YtcmbdhmhkfhjfaaGreat
open Go.RowKit
set_option linter.unusedVariables false

def fitsB8 (use : Bool) (v : Int) : Bool := bif use then decide (v ≥ -1099511627776) && decide (v ≤ 1099511627776) else decide (v = 0)
theorem fits_any8 (use : Bool) (v : Int) (w : World) : Calls Tryz.prog 137 #[.bool use, .int .i64 v] w fun e w' => e = .returned (.bool (fitsB8 use v)) ∧ w' = w := by
  cases use
  · have HB : Hid (fitsB8 false v = (v == 0)) := Lib.hid (by unfold fitsB8; rw [cond_false]; by_cases h : v = 0 <;> simp [h])
    rw [HB.out]
    go_enter Tryz.func137, Tryz.ntmps137
    go_wp2
    go_ret
    exact ⟨rfl, rfl⟩
  · by_cases h : v ≥ -1099511627776
    · have HB : Hid (fitsB8 true v = decide (v ≤ 1099511627776)) := Lib.hid (by unfold fitsB8; rw [cond_true, decide_eq_true h, Bool.true_and])
      rw [HB.out]
      go_enter Tryz.func137, Tryz.ntmps137
      go_wp2
      go_ret
      exact ⟨rfl, rfl⟩
    · have HB : Hid (fitsB8 true v = false) := Lib.hid (by unfold fitsB8; rw [cond_true, decide_eq_false h, Bool.false_and])
      rw [HB.out]
      go_enter Tryz.func137, Tryz.ntmps137
      go_wp2
      go_ret
      exact ⟨rfl, rfl⟩

theorem fits_false8 {use : Bool} {v : Int} (h : fitsB8 use v = false) : (beyB v = true) ∨ (use = false ∧ v ≠ 0) := by
  cases use
  · right
    refine ⟨rfl, ?_⟩
    simpa [fitsB8] using h
  · left
    simp only [fitsB8, cond_true, Bool.and_eq_false_iff, decide_eq_false_iff_not] at h
    simp only [beyB, Bool.or_eq_true, decide_eq_true_eq]
    omega
theorem fits_true8 {use : Bool} {v : Int} (h : fitsB8 use v = true) : beyB v = false ∧ (use = true ∨ v = 0) := by
  cases use
  · have h0 : v = 0 := by simpa [fitsB8] using h
    subst h0
    exact ⟨rfl, .inr rfl⟩
  · simp only [fitsB8, cond_true, Bool.and_eq_true, decide_eq_true_eq] at h
    refine ⟨?_, .inl rfl⟩
    simp only [beyB, Bool.or_eq_false_iff, decide_eq_false_iff_not]
    omega

theorem pchk_cases (l : Lim) (P : Prop)
    (c1 : l.hy < 0 → chkL l = 27 → P)
    (c2 : ¬ l.hy < 0 → l.hy > 1099511627776 → chkL l = 27 → P)
    (c3 : ¬ l.hy < 0 → ¬ l.hy > 1099511627776 → fitsB8 l.ul l.lo = false → chkL l = 27 → P)
    (c4 : ¬ l.hy < 0 → ¬ l.hy > 1099511627776 → fitsB8 l.ul l.lo = true → fitsB8 l.uh l.hi = false → chkL l = 27 → P)
    (c5 : ¬ l.hy < 0 → ¬ l.hy > 1099511627776 → fitsB8 l.ul l.lo = true → fitsB8 l.uh l.hi = true → l.ul = false → chkL l = 0 → P)
    (c6 : ¬ l.hy < 0 → ¬ l.hy > 1099511627776 → fitsB8 l.ul l.lo = true → fitsB8 l.uh l.hi = true → l.ul = true → l.uh = false → chkL l = 0 → P)
    (c7 : ¬ l.hy < 0 → ¬ l.hy > 1099511627776 → fitsB8 l.ul l.lo = true → fitsB8 l.uh l.hi = true → l.ul = true → l.uh = true → l.hy ≥ l.hi - l.lo → chkL l = 27 → P)
    (c8 : ¬ l.hy < 0 → ¬ l.hy > 1099511627776 → fitsB8 l.ul l.lo = true → fitsB8 l.uh l.hi = true → l.ul = true → l.uh = true → ¬ l.hy ≥ l.hi - l.lo → chkL l = 0 → P) : P := by
  cases h3 : fitsB8 l.ul l.lo
  case false =>
    refine chk_cases l P c1 c2 ?_ ?_ ?_ ?_ ?_ ?_ ?_ ?_ ?_ ?_
    all_goals intro h1 h2
    · intro _; exact c3 h1 h2 h3
    · intro _ _; exact c3 h1 h2 h3
    · intro _ _ _ _; exact c3 h1 h2 h3
    · intro _ _ _ _ _ _; exact c3 h1 h2 h3
    · intro _ _ _ _ _; exact c3 h1 h2 h3
    all_goals
      intros
      rcases fits_false8 h3 with h | ⟨h, h'⟩
      · simp_all
      · simp_all
  case true =>
  obtain ⟨t1, t2⟩ := fits_true8 h3
  cases h4 : fitsB8 l.uh l.hi
  case false =>
    refine chk_cases l P c1 c2 ?_ ?_ ?_ ?_ ?_ ?_ ?_ ?_ ?_ ?_
    all_goals intro h1 h2
    · intro h; rw [t1] at h; cases h
    · intro _ _; exact c4 h1 h2 h3 h4
    · intro _ _ h h'; rw [h] at t2; rcases t2 with t2 | t2
      · cases t2
      · exact absurd t2 h'
    · intro _ _ _ _ _ _; exact c4 h1 h2 h3 h4
    · intro _ _ _ _ _; exact c4 h1 h2 h3 h4
    all_goals
      intros
      rcases fits_false8 h4 with h | ⟨h, h'⟩
      · simp_all
      · simp_all
  case true =>
  obtain ⟨u1, u2⟩ := fits_true8 h4
  refine chk_cases l P c1 c2 ?_ ?_ ?_ ?_ ?_ ?_ ?_ ?_ ?_ ?_
  all_goals intro h1 h2
  · intro h; rw [t1] at h; cases h
  · intro _ h; rw [u1] at h; cases h
  · intro _ _ h h'; rw [h] at t2; rcases t2 with t2 | t2
    · cases t2
    · exact absurd t2 h'
  · intro _ _ _ _ h h'; rw [h] at u2; rcases u2 with u2 | u2
    · cases u2
    · exact absurd u2 h'
  · intro _ _ _ h h'; rw [h] at u2; rcases u2 with u2 | u2
    · cases u2
    · exact absurd u2 h'
  · intro _ _ h _ _ _; exact c5 h1 h2 h3 h4 h
  · intro _ _ h _ _; exact c5 h1 h2 h3 h4 h
  · intro _ _ h h' _; exact c6 h1 h2 h3 h4 h h'
  · intro _ _ h h' h9; exact c7 h1 h2 h3 h4 h h' h9
  · intro _ _ h h' h9; exact c8 h1 h2 h3 h4 h h' h9

set_option maxHeartbeats 2000000 in
theorem Check8_any (ul uh la : Bool) (lo hi hy : Int) (w : World) : Calls Tryz.prog 131 #[.agg #[.bool ul, .bool uh, .bool la, .int .i64 lo, .int .i64 hi, .int .i64 hy]] w fun e w' => e = .returned (.int .i64 (chkL ⟨ul, uh, la, lo, hi, hy⟩)) ∧ Below w.heap.size w w' := by
  have bel := bel_alloc w (.cells #[.bool ul, .bool uh, .bool la, .int .i64 lo, .int .i64 hi, .int .i64 hy] 49)
  refine pchk_cases ⟨ul, uh, la, lo, hi, hy⟩ _ ?_ ?_ ?_ ?_ ?_ ?_ ?_ ?_ <;> simp only
  · intro h1 HC
    rw [HC]
    clear HC
    go_enter Tryz.func131, Tryz.ntmps131
    go_wp2
    go_ret
    exact ⟨rfl, bel⟩
  · intro h1 h2 HC
    rw [HC]
    clear HC
    go_enter Tryz.func131, Tryz.ntmps131
    go_wp2
    go_ret
    exact ⟨rfl, bel⟩
  · intro h1 h2 h3 HC
    rw [HC]
    clear HC
    go_enter Tryz.func131, Tryz.ntmps131
    go_wp2_with fail
    refine (fits_any8 ul lo _).mono ?_
    rintro e w' ⟨rfl, rfl⟩
    rw [h3]
    go_wp2
    go_ret
    exact ⟨rfl, bel⟩
  · intro h1 h2 h3 h4 HC
    rw [HC]
    clear HC
    go_enter Tryz.func131, Tryz.ntmps131
    go_wp2_with fail
    refine (fits_any8 ul lo _).mono ?_
    rintro e w' ⟨rfl, rfl⟩
    rw [h3]
    go_wp2_with fail
    refine (fits_any8 uh hi _).mono ?_
    rintro e w' ⟨rfl, rfl⟩
    rw [h4]
    go_wp2
    go_ret
    exact ⟨rfl, bel⟩
  · intro h1 h2 h3 h4 h5 HC
    rw [HC]
    clear HC
    subst h5
    go_enter Tryz.func131, Tryz.ntmps131
    go_wp2_with fail
    refine (fits_any8 false lo _).mono ?_
    rintro e w' ⟨rfl, rfl⟩
    rw [h3]
    go_wp2_with fail
    refine (fits_any8 uh hi _).mono ?_
    rintro e w' ⟨rfl, rfl⟩
    rw [h4]
    go_wp2
    go_ret
    exact ⟨rfl, bel⟩
  · intro h1 h2 h3 h4 h5 h6 HC
    rw [HC]
    clear HC
    subst h5 h6
    go_enter Tryz.func131, Tryz.ntmps131
    go_wp2_with fail
    refine (fits_any8 true lo _).mono ?_
    rintro e w' ⟨rfl, rfl⟩
    rw [h3]
    go_wp2_with fail
    refine (fits_any8 false hi _).mono ?_
    rintro e w' ⟨rfl, rfl⟩
    rw [h4]
    go_wp2
    go_ret
    exact ⟨rfl, bel⟩
  all_goals
    intro h1 h2 h3 h4 h5 h6 h9 HC
    rw [HC]
    clear HC
    subst h5 h6
    have hw : IntKind.i64.wrap (hi - lo) = hi - lo := by
      have := bey_false (fits_true8 h3).1
      have := bey_false (fits_true8 h4).1
      rw [IntKind.wrap_i64]; omega
    go_enter Tryz.func131, Tryz.ntmps131
    go_wp2_with fail
    refine (fits_any8 true lo _).mono ?_
    rintro e w' ⟨rfl, rfl⟩
    rw [h3]
    go_wp2_with fail
    refine (fits_any8 true hi _).mono ?_
    rintro e w' ⟨rfl, rfl⟩
    rw [h4]
    go_wp2
    go_ret
    exact ⟨rfl, bel⟩

/-- What the sides' functions say; g: the box of the limits. -/
def leftLow (l : Lim) (v : Int) : Bool := !l.ul || decide (v > l.lo + l.hy)
def leftHigh (l : Lim) (v : Int) : Bool := !l.uh || decide (v < l.hi - l.hy)
end Go.Proofs.YtcmbdhmhkfhjfaaGreat
