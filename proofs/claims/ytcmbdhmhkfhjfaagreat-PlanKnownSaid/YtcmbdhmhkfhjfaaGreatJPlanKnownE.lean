/-
  Texts of the proof of PlanKnown, joined.
-/
import Derived.Test.YtcmbdhmhkfhjfaaGreatJPlanKnownD
import Derived.Test.YtcmbdhmhkfhjfaaGreatJPlanKnownC
import Derived.Test.YtcmbdhmhkfhjfaaGreatJPlanKnownA
import Derived.Laws.RangeAny
import Derived.LoopTactic
import Derived.Laws.EntriesVeiled
import Derived.Test.YtcmbdhmhkfhjfaaGreatJPlanKnownB
namespace Go.Proofs.YtcmbdhmhkfhjfaaGreat
open Go.RowKit
set_option linter.unusedVariables false

def fitsB (fl : List Int) (fs : List (List Int)) : Bool := decide (fl.length = 3 * fs.length) && (List.range fs.length).all fun i => decide (((nthF fs i).length : Int) = nth fl (3 * i + 2))
theorem fitsB_len {fl : List Int} {fs : List (List Int)} (h : fl.length ≠ 3 * fs.length) : fitsB fl fs = false := by rw [fitsB, decide_eq_false h, Bool.false_and]
theorem fitsB_no {fl : List Int} {fs : List (List Int)} {i : Nat} (hi : i < fs.length) (h : ((nthF fs i).length : Int) ≠ nth fl (3 * i + 2)) : fitsB fl fs = false := by
  rw [fitsB, Bool.and_eq_false_iff]
  right
  rw [List.all_eq_false]
  exact ⟨i, List.mem_range.2 hi, by rw [decide_eq_false h]; simp⟩
theorem fitsB_yes {fl : List Int} {fs : List (List Int)} (hl : fl.length = 3 * fs.length) (h : ∀ i, i < fs.length → ((nthF fs i).length : Int) = nth fl (3 * i + 2)) : fitsB fl fs = true := by
  rw [fitsB, Bool.and_eq_true, decide_eq_true_eq, List.all_eq_true]
  exact ⟨hl, fun i hi => decide_eq_true (h i (List.mem_range.1 hi))⟩

set_option maxHeartbeats 1000000 in
theorem fitParts_any (Ap Bf : Option Addr) (lp cp mf ef : Nat) (fl : List Int) (fs : List (List Int)) (w : World) (hp : Row .i64 w w.heap.size Ap fl) (hl : fl.length = 3 * lp) (hf : FRow w w.heap.size Bf fs) (hm : fs.length = mf) (hb : lp ≤ 100000) :
    Calls Tryz.prog 110 #[.slice Ap lp cp, .slice Bf mf ef] w fun e w' => e = .returned (.bool (fitsB fl fs)) ∧ Below w.heap.size w w' := by
  obtain ⟨u, hu⟩ : ∃ u, Hid (fitsB fl fs = u) := ⟨_, Lib.hid rfl⟩
  rw [hu.out]
  have HL := Lib.hid hl
  have HM := Lib.hid hm
  have HP := Lib.hid hp
  have HF := Lib.hid hf
  clear hl hm hp hf
  by_cases hne : mf = lp
  · subst hne
    have t0 : ((mf : Int) != (mf : Int)) = false := by simp
    go_enter Tryz.func110, Tryz.ntmps110
    go_wp2
    go_loopw [5, 6, 14] (fun _ _ i wr => ∃ k : Nat, k ≤ mf ∧ i = .int .i64 k ∧ Hid (∀ j, j < k → ((nthF fs j).length : Int) = nth fl (3 * j + 2)) ∧ Below w.heap.size w wr) (fun _ _ i _ => mf - (intOf i).toNat)
    case atStart => exact ⟨0, by omega, rfl, Lib.hid (fun j h => by omega), Below.refl _ _⟩
    case round =>
      obtain ⟨k, hk, rfl, hs, bel⟩ := hrel
      by_cases hlt : k < mf
      · obtain ⟨b, o, rfl, hb1, hc1, hc2, hc3⟩ := (HP.out.below bel).three (k := k) (by have := HL.out; omega)
        obtain ⟨b2, o2, rfl, hb2, hcf⟩ := HF.out (by have := HM.out; omega)
        obtain ⟨Ai, ci, hci, _, _⟩ := hcf k (by have := HM.out; omega)
        have hci2 := (bel.cell (p := ⟨b2, o2 + k, none⟩) hb2).trans hci
        obtain ⟨p, hpp⟩ : ∃ p, Hid (nth fl (3 * k + 2) = p) := ⟨_, Lib.hid rfl⟩
        obtain ⟨q, hqq⟩ : ∃ q, Hid ((nthF fs k).length = q) := ⟨_, Lib.hid rfl⟩
        rw [hpp.out] at hc3
        rw [hqq.out] at hci2
        generalize nth fl (3 * k) = y0 at *
        generalize nth fl (3 * k + 1) = y1 at *
        clear hci hcf
        have hbelB : Below w.heap.size w (wr.alloc (.cells #[.int .i64 y0, .int .i64 y1, .int .i64 p] 94)) := bel.alloc bel.size _
        have hci3 : (wr.alloc (.cells #[.int .i64 y0, .int .i64 y1, .int .i64 p] 94)).cell? ⟨b2, o2 + k, none⟩ = some (.slice Ai q ci) := by
          have h1 := bel.size
          exact (World.cell?_alloc_some wr ⟨b2, o2 + k, none⟩ _ (by rw [hci2]; rfl)).trans hci2
        by_cases he : (q : Int) = p
        · have u1 : ((q : Int) != p) = false := by simp [he]
          have u2 : ((q : Int) == p) = true := by simp [he]
          have HE := Lib.hid he
          clear he
          go_wp2_with fail
          go_quiet (fail)
          have hb3 := below_drewN hbelB nq
          go_wp2
          go_roundw
          case rel => exact ⟨k + 1, by omega, by go_num, Lib.hid (fun j hj => by
            rcases Nat.lt_succ_iff_lt_or_eq.1 hj with h | h
            · exact hs.out j h
            · subst h; rw [hqq.out, hpp.out]; exact HE.out), hb3⟩
          case measure => simp [intOf]; omega
        · have u1 : ((q : Int) != p) = true := by simpa using he
          have u2 : ((q : Int) == p) = false := beq_false_of_ne he
          have HU : Hid (u = false) := Lib.hid (by rw [← hu.out]; exact fitsB_no (i := k) (by rw [HM.out]; exact hlt) (by rw [hqq.out, hpp.out]; exact he))
          clear he
          go_wp2_with fail
          go_quiet (fail)
          have hb3 := below_drewN hbelB nq
          go_wp2
          go_ret
          exact ⟨by rw [HU.out]; rfl, hb3⟩
      · obtain rfl : k = mf := by omega
        have HU : Hid (u = true) := Lib.hid (by rw [← hu.out]; exact fitsB_yes (by rw [HL.out, HM.out]) (fun i hi => hs.out i (by rw [← HM.out]; exact hi)))
        go_wp2
        go_ret
        exact ⟨by rw [HU.out]; rfl, bel⟩
  · have HU : Hid (u = false) := Lib.hid (by rw [← hu.out]; exact fitsB_len (by rw [HL.out, HM.out]; omega))
    have t0 : ((mf : Int) != (lp : Int)) = true := by simp; omega
    have t1 : ((mf : Int) == (lp : Int)) = false := beq_false_of_ne (by omega)
    clear hne
    go_enter Tryz.func110, Tryz.ntmps110
    go_wp2
    go_ret
    exact ⟨by rw [HU.out]; rfl, Below.refl _ _⟩

def manyB (q : Req) (r : Rep) : Bool :=
  if q.c = 1 ∨ q.c = 2 then decide ((r.on.length : Int) = q.n) else if q.c = 3 ∨ q.c = 4 then decide ((r.set.length : Int) = q.n) else if q.c = 20 then fitsB q.fl r.fs else true

theorem TB.new2 (w : World) (c1 c2 : Array Value) (t u : TypeId) : TB w w.heap.size (.cells c1 t (0, 0)) (.cells c2 u (0, 0)) ((w.alloc (.cells c1 t)).alloc (.cells c2 u)) :=
  ⟨(heap_alloc_old _ _ (by simp)).trans (heap_alloc_new w _), heap_new_at _ _ (by simp), (bel_alloc w _).alloc (by simp) _⟩
set_option maxHeartbeats 1000000 in
theorem hasAsMany_any (q : Req) (r : Rep) (Ao As Ap Bo Bs Bf : Option Addr) (lo ls lp co cs cp mo ms mf eo es ef : Nat) (w : World) (h : Asked w w.heap.size q Ao As Ap lo ls lp) (hr : Repd w w.heap.size r Bo Bs Bf mo ms mf) (hb : lp ≤ 100000) :
    Calls Tryz.prog 78 #[.agg #[.int .i64 q.c, .int .i64 q.a, .int .i64 q.n, .slice Ao lo co, .slice As ls cs, .slice Ap lp cp], .agg #[.int .i64 r.x, .slice Bo mo eo, .slice Bs ms es, .slice Bf mf ef]] w fun e w' => e = .returned (.bool (manyB q r)) ∧ Below w.heap.size w w' := by
  have t0 := TB.new2 w #[.int .i64 q.c, .int .i64 q.a, .int .i64 q.n, .slice Ao lo co, .slice As ls cs, .slice Ap lp cp] #[.int .i64 r.x, .slice Bo mo eo, .slice Bs ms es, .slice Bf mf ef] 68 30
  have H := Lib.hid (h.below t0.bel)
  have HR := Lib.hid (hr.below t0.bel)
  have bel0 := t0.bel
  have hsz : w.heap.size ≤ ((w.alloc (.cells #[.int .i64 q.c, .int .i64 q.a, .int .i64 q.n, .slice Ao lo co, .slice As ls cs, .slice Ap lp cp] 68)).alloc (.cells #[.int .i64 r.x, .slice Bo mo eo, .slice Bs ms es, .slice Bf mf ef] 30)).heap.size := bel0.size
  have HMO := Lib.hid hr.mo
  have HMS := Lib.hid hr.ms
  obtain ⟨u, hu⟩ : ∃ u, Hid (manyB q r = u) := ⟨_, Lib.hid rfl⟩
  rw [hu.out]
  obtain ⟨c, a, n, on, set, fl⟩ := q
  obtain ⟨x, ron, rset, fs⟩ := r
  simp only at *
  clear h hr t0
  by_cases h1 : c = 1 ∨ c = 2
  · have HU : Hid (decide ((mo : Int) = n) = u) := Lib.hid (by rw [← hu.out]; unfold manyB; rw [if_pos h1, HMO.out])
    have e1 : ((mo : Int) == n) = u := by rw [← HU.out]; by_cases h : (mo : Int) = n <;> simp [h]
    rcases h1 with rfl | rfl
    all_goals
      go_enter Tryz.func78, Tryz.ntmps78
      go_wp2
      go_ret
      exact ⟨rfl, bel0⟩
  · by_cases h2 : c = 3 ∨ c = 4
    · have HU : Hid (decide ((ms : Int) = n) = u) := Lib.hid (by rw [← hu.out]; unfold manyB; rw [if_neg h1, if_pos h2, HMS.out])
      have e1 : ((ms : Int) == n) = u := by rw [← HU.out]; by_cases h : (ms : Int) = n <;> simp [h]
      clear h1
      rcases h2 with rfl | rfl
      all_goals
        go_enter Tryz.func78, Tryz.ntmps78
        go_wp2
        go_ret
        exact ⟨rfl, bel0⟩
    · by_cases h3 : c = 20
      · have HU : Hid (fitsB fl fs = u) := Lib.hid (by rw [← hu.out]; unfold manyB; rw [if_neg h1, if_neg h2, if_pos h3])
        subst h3
        clear h1 h2
        go_enter Tryz.func78, Tryz.ntmps78
        go_wp2_with fail
        refine (fitParts_any Ap Bf lp cp mf ef fl fs _ (H.out.fl.more hsz) H.out.lp (HR.out.fs.more hsz) HR.out.mf hb).mono ?_
        rintro e w1 ⟨rfl, b1⟩
        rw [HU.out]
        go_wp2
        go_ret
        exact ⟨rfl, bel0.trans (b1.mono hsz)⟩
      · have HU : Hid (u = true) := Lib.hid (by rw [← hu.out]; unfold manyB; rw [if_neg h1, if_neg h2, if_neg h3])
        have b1 : (c == 1) = false := beq_false_of_ne (by omega)
        have b2 : (c == 2) = false := beq_false_of_ne (by omega)
        have b3 : (c == 3) = false := beq_false_of_ne (by omega)
        have b4 : (c == 4) = false := beq_false_of_ne (by omega)
        have b5 : (c == 20) = false := beq_false_of_ne h3
        clear h1 h2 h3
        go_enter Tryz.func78, Tryz.ntmps78
        go_wp2
        go_ret
        exact ⟨by rw [HU.out]; rfl, bel0⟩

def chkR (q : Req) (r : Rep) : Int :=
  if chkQ q ≠ 0 then chkQ q else if r.x ≠ 0 then (if 1 ≤ r.x ∧ r.x ≤ 127 then (if anyB r.on.length r.set.length r.fs.length = true then 23 else 0) else 3)
  else if strayB q.c r.on.length r.set.length r.fs.length = true then 23 else if manyB q r = false then 22 else 0

set_option maxHeartbeats 1000000 in
theorem rpCheck_any (q : Req) (r : Rep) (Ao As Ap Bo Bs Bf : Option Addr) (lo ls lp co cs cp mo ms mf eo es ef : Nat) (w : World) (h : Asked w w.heap.size q Ao As Ap lo ls lp) (hr : Repd w w.heap.size r Bo Bs Bf mo ms mf) (hb : lp ≤ 100000) :
    Calls Tryz.prog 50 #[.agg #[.int .i64 q.c, .int .i64 q.a, .int .i64 q.n, .slice Ao lo co, .slice As ls cs, .slice Ap lp cp], .agg #[.int .i64 r.x, .slice Bo mo eo, .slice Bs ms es, .slice Bf mf ef]] w fun e w' => e = .returned (.int .i64 (chkR q r)) ∧ Below w.heap.size w w' := by
  have t0 := TB.new2 w #[.int .i64 q.c, .int .i64 q.a, .int .i64 q.n, .slice Ao lo co, .slice As ls cs, .slice Ap lp cp] #[.int .i64 r.x, .slice Bo mo eo, .slice Bs ms es, .slice Bf mf ef] 68 30
  have hsz : w.heap.size ≤ ((w.alloc (.cells #[.int .i64 q.c, .int .i64 q.a, .int .i64 q.n, .slice Ao lo co, .slice As ls cs, .slice Ap lp cp] 68)).alloc (.cells #[.int .i64 r.x, .slice Bo mo eo, .slice Bs ms es, .slice Bf mf ef] 30)).heap.size := t0.bel.size
  have H := Lib.hid ((h.below t0.bel).more hsz)
  have HR := Lib.hid ((hr.below t0.bel).more hsz)
  obtain ⟨E, hE⟩ : ∃ E, Hid (chkR q r = E) := ⟨_, Lib.hid rfl⟩
  rw [hE.out]
  obtain ⟨k, hk⟩ : ∃ k, Hid (chkQ q = k) := ⟨_, Lib.hid rfl⟩
  have HC := Lib.hid (Check_Q q Ao As Ap lo ls lp co cs cp _ H.out)
  rw [hk.out] at HC
  clear h hr
  by_cases hk0 : k = 0
  · have HK0 := Lib.hid hk0
    subst hk0
    by_cases hx : r.x = 0
    · have u1 : (r.x != 0) = false := by simp [hx]
      have u2 : (r.x == 0) = true := by simp [hx]
      have HX := Lib.hid hx
      obtain ⟨s, hs⟩ : ∃ s, Hid (strayB q.c mo ms mf = s) := ⟨_, Lib.hid rfl⟩
      obtain ⟨m, hm⟩ : ∃ m, Hid (manyB q r = m) := ⟨_, Lib.hid rfl⟩
      have HE : Hid (E = if s = true then 23 else if m = false then 22 else 0) := Lib.hid (by
        rw [← hE.out]; unfold chkR; rw [if_neg (show ¬ chkQ q ≠ 0 by rw [hk.out]; simp), if_neg (show ¬ r.x ≠ 0 by simp [hx]), HR.out.mo, HR.out.ms, HR.out.mf, hs.out, hm.out])
      clear hx
      go_enter Tryz.func50, Tryz.ntmps50
      go_wp2_with fail
      refine HC.out.mono ?_
      rintro e w1 ⟨rfl, b1⟩
      have t1 := t0.below b1
      have H1 := Lib.hid (H.out.up b1)
      have HR1 := Lib.hid (HR.out.up b1)
      clear t0 b1
      obtain ⟨d0, d1, d2, d3, d4⟩ := t1.c4
      obtain ⟨r0, r1, r2, r3, r4, r5, r6⟩ := t1.r6
      go_wp2_with fail
      clear d0 d1 d2 d3 d4 r0 r1 r2 r3 r4 r5 r6
      refine (rpStray_any q.c r.x Bo Bs Bf mo ms mf eo es ef _).mono ?_
      rintro e w2 ⟨rfl, b2⟩
      rw [hs.out]
      have t2 := t1.below b2
      have H2 := Lib.hid (H1.out.up b2)
      have HR2 := Lib.hid (HR1.out.up b2)
      clear t1 b2
      obtain ⟨d0, d1, d2, d3, d4⟩ := t2.c4
      obtain ⟨r0, r1, r2, r3, r4, r5, r6⟩ := t2.r6
      cases s with
      | true =>
        go_wp2
        go_ret
        exact ⟨by rw [HE.out]; rfl, t2.bel⟩
      | false =>
        go_wp2_with fail
        clear d0 d1 d2 d3 d4 r0 r1 r2 r3 r4 r5 r6
        refine (hasAsMany_any q r Ao As Ap Bo Bs Bf lo ls lp co cs cp mo ms mf eo es ef _ H2.out HR2.out hb).mono ?_
        rintro e w3 ⟨rfl, b3⟩
        rw [hm.out]
        have t3 := t2.below b3
        clear t2 b3
        cases m with
        | true =>
          go_wp2
          go_ret
          exact ⟨by rw [HE.out]; rfl, t3.bel⟩
        | false =>
          go_wp2
          go_ret
          exact ⟨by rw [HE.out]; rfl, t3.bel⟩
    · have u1 : (r.x != 0) = true := by simpa using hx
      have u2 : (r.x == 0) = false := beq_false_of_ne hx
      have HE : Hid ((if 1 ≤ r.x ∧ r.x ≤ 127 then (if anyB mo ms mf = true then 23 else 0) else 3) = E) := Lib.hid (by
        rw [← hE.out]; unfold chkR; rw [if_neg (show ¬ chkQ q ≠ 0 by rw [hk.out]; simp), if_pos hx, HR.out.mo, HR.out.ms, HR.out.mf])
      clear hx
      go_enter Tryz.func50, Tryz.ntmps50
      go_wp2_with fail
      refine HC.out.mono ?_
      rintro e w1 ⟨rfl, b1⟩
      have t1 := t0.below b1
      clear t0 b1
      obtain ⟨d0, d1, d2, d3, d4⟩ := t1.c4
      obtain ⟨r0, r1, r2, r3, r4, r5, r6⟩ := t1.r6
      go_wp2_with fail
      clear d0 d1 d2 d3 d4 r0 r1 r2 r3 r4 r5 r6
      refine (checkExc_any r.x Bo Bs Bf mo ms mf eo es ef _).mono ?_
      rintro e w2 ⟨rfl, b2⟩
      rw [HE.out]
      have t2 := t1.below b2
      go_wp2
      go_ret
      exact ⟨rfl, t2.bel⟩
  · have u1 : (k != 0) = true := by simpa using hk0
    have u2 : (k == 0) = false := beq_false_of_ne hk0
    have HE : Hid (E = k) := Lib.hid (by rw [← hE.out]; unfold chkR; rw [hk.out, if_pos hk0])
    clear hk0
    go_enter Tryz.func50, Tryz.ntmps50
    go_wp2_with fail
    refine HC.out.mono ?_
    rintro e w1 ⟨rfl, b1⟩
    have t1 := t0.below b1
    go_wp2
    go_ret
    exact ⟨by rw [HE.out]; rfl, t1.bel⟩
end Go.Proofs.YtcmbdhmhkfhjfaaGreat
namespace Go.Proofs.YtcmbdhmhkfhjfaaGreat
open Go.RowKit
set_option linter.unusedVariables false

structure Pol where
  un : Int
  ki : Int
  ad : Int
  ct : Int
  ev : Int
  tg : List Int
def noT : Tg := ⟨⟨#[]⟩, 0, 0, 0, 0, false, false, false, 0, 0, 0, 0, 0, false, false, false, 0, 0, 0⟩
def tgAt (l : List Tg) (i : Nat) : Tg := l.getD i noT
theorem tgAt_eq {l : List Tg} {i : Nat} (h : i < l.length) : tgAt l i = l[i] := by simp [tgAt, List.getD_eq_getElem?_getD, List.getElem?_eq_getElem h]

def aheadP (a b : Tg) (i k : Nat) : Prop := a.un < b.un ∨ (a.un = b.un ∧ (a.ev < b.ev ∨ (a.ev = b.ev ∧ (a.ki < b.ki ∨ (a.ki = b.ki ∧ (a.ad < b.ad ∨ (a.ad = b.ad ∧ i < k)))))))
instance (a b : Tg) (i k : Nat) : Decidable (aheadP a b i k) := by unfold aheadP; infer_instance
def aheadB (l : List Tg) (i k : Nat) : Bool := decide (aheadP (tgAt l i) (tgAt l k) i k)
theorem ahead_iff {l : List Tg} {i k : Nat} : aheadB l i k = true ↔ aheadP (tgAt l i) (tgAt l k) i k := decide_eq_true_iff
theorem ahead_irrefl (l : List Tg) (i : Nat) : aheadB l i i = false := by
  cases h : aheadB l i i with
  | false => rfl
  | true => have := ahead_iff.1 h; unfold aheadP at this; omega
theorem ahead_trans {l : List Tg} {i j k : Nat} (h1 : aheadB l i j = true) (h2 : aheadB l j k = true) : aheadB l i k = true := by
  have h1 := ahead_iff.1 h1
  have h2 := ahead_iff.1 h2
  rw [ahead_iff]
  unfold aheadP at *; omega
theorem ahead_total (l : List Tg) {i k : Nat} (h : i ≠ k) : aheadB l i k = true ∨ aheadB l k i = true := by
  rw [ahead_iff, ahead_iff]
  unfold aheadP; omega
theorem ahead_asymm {l : List Tg} {i k : Nat} (h1 : aheadB l i k = true) (h2 : aheadB l k i = true) : False := by
  have := ahead_trans h1 h2
  rw [ahead_irrefl] at this; cases this

def insT (l : List Tg) (i : Nat) : List Nat → List Nat
  | [] => [i]
  | k :: ks => if aheadB l i k then i :: k :: ks else k :: insT l i ks
def ordT (l : List Tg) : List Nat := (List.range l.length).foldr (insT l) []
theorem insT_perm (l : List Tg) (i : Nat) (ks : List Nat) : (insT l i ks).Perm (i :: ks) := by
  induction ks with
  | nil => exact List.Perm.refl _
  | cons k ks ih =>
    unfold insT
    split
    · exact List.Perm.refl _
    · exact (ih.cons k).trans (List.Perm.swap i k ks)
theorem insT_sorted (l : List Tg) (i : Nat) (ks : List Nat) (hi : i ∉ ks) (h : ks.Pairwise (fun a b => aheadB l a b = true)) : (insT l i ks).Pairwise (fun a b => aheadB l a b = true) := by
  induction ks with
  | nil => exact List.pairwise_singleton _ _
  | cons k ks ih =>
    obtain ⟨h1, h2⟩ := List.pairwise_cons.1 h
    unfold insT
    split
    · rename_i hik
      refine List.pairwise_cons.2 ⟨fun x hx => ?_, h⟩
      rcases List.mem_cons.1 hx with rfl | hx
      · exact hik
      · exact ahead_trans hik (h1 x hx)
    · rename_i hik
      have hne : i ≠ k := fun e => hi (by rw [e]; exact List.mem_cons_self)
      have hki : aheadB l k i = true := (ahead_total l hne).resolve_left hik
      refine List.pairwise_cons.2 ⟨fun x hx => ?_, ih (fun hm => hi (List.mem_cons_of_mem _ hm)) h2⟩
      rcases List.mem_cons.1 ((insT_perm l i ks).mem_iff.1 hx) with rfl | hx
      · exact hki
      · exact h1 x hx
theorem ordT_both (l : List Tg) (ks : List Nat) (hd : ks.Nodup) : (ks.foldr (insT l) []).Perm ks ∧ (ks.foldr (insT l) []).Pairwise (fun a b => aheadB l a b = true) := by
  induction ks with
  | nil => exact ⟨List.Perm.refl _, List.Pairwise.nil⟩
  | cons k ks ih =>
    obtain ⟨h1, h2⟩ := List.nodup_cons.1 hd
    obtain ⟨p, s⟩ := ih h2
    rw [List.foldr_cons]
    exact ⟨(insT_perm l k _).trans (p.cons k), insT_sorted l k _ (fun hm => h1 (p.mem_iff.1 hm)) s⟩
theorem ordT_perm (l : List Tg) : (ordT l).Perm (List.range l.length) := (ordT_both l _ List.nodup_range).1
theorem ordT_sorted (l : List Tg) : (ordT l).Pairwise (fun a b => aheadB l a b = true) := (ordT_both l _ List.nodup_range).2
theorem ordT_len (l : List Tg) : (ordT l).length = l.length := by rw [(ordT_perm l).length_eq, List.length_range]
theorem ordT_lt {l : List Tg} {k : Nat} (h : k ∈ ordT l) : k < l.length := List.mem_range.1 ((ordT_perm l).mem_iff.1 h)
theorem ordT_only {l : List Tg} {o : List Nat} (hp : o.Perm (List.range l.length)) (hs : o.Pairwise (fun a b => aheadB l a b = true)) : o = ordT l :=
  List.Perm.eq_of_pairwise (le := fun a b => aheadB l a b = true) (fun a b _ _ h1 h2 => (ahead_asymm h1 h2).elim) hs (ordT_sorted l) (hp.trans (ordT_perm l).symm)
theorem ordT_only2 {l : List Tg} {o : List Nat} (hl : o.length = l.length) (hlt : ∀ k ∈ o, k < l.length) (hs : o.Pairwise (fun a b => aheadB l a b = true)) : o = ordT l := by
  have hn : o.Nodup := hs.imp (fun {a b} h e => by subst e; rw [ahead_irrefl] at h; cases h)
  refine ordT_only ?_ hs
  refine (List.perm_ext_iff_of_nodup hn List.nodup_range).2 fun a => ⟨fun ha => List.mem_range.2 (hlt a ha), fun ha => ?_⟩
  by_cases hm : a ∈ o
  · exact hm
  · have := (List.nodup_cons.2 ⟨hm, hn⟩).length_le_of_subset (l₂ := List.range l.length) (fun x hx => by
      rcases List.mem_cons.1 hx with rfl | hx
      · exact ha
      · exact List.mem_range.2 (hlt x hx))
    rw [List.length_cons, List.length_range] at this
    omega

def mostK (k : Int) : Int := if k = 1 ∨ k = 2 then 2000 else 125
def cntJ (p : Pol) (t : Tg) : Int := if t.ad + widT t - p.ad < p.ct then p.ct else t.ad + widT t - p.ad
def joinB (p : Pol) (t : Tg) : Bool := decide (p.un = t.un ∧ p.ev = t.ev ∧ p.ki = t.ki ∧ t.ad - 8 ≤ p.ad + p.ct ∧ cntJ p t ≤ mostK t.ki)
def newP (t : Tg) (k : Nat) : Pol := ⟨t.un, t.ki, t.ad, widT t, t.ev, [(k : Int)]⟩
def Pol.join (p : Pol) (t : Tg) (k : Nat) : Pol := ⟨p.un, p.ki, p.ad, cntJ p t, p.ev, p.tg ++ [(k : Int)]⟩
def addP (ps : List Pol) (t : Tg) (k : Nat) : List Pol := match ps.getLast? with
  | none => [newP t k]
  | some p => if joinB p t then ps.dropLast ++ [p.join t k] else ps ++ [newP t k]
def pollsO (l : List Tg) (o : List Nat) : List Pol := o.foldl (fun ps k => addP ps (tgAt l k) k) []
theorem pollsO_nil (l : List Tg) : pollsO l [] = [] := rfl
theorem pollsO_snoc (l : List Tg) (o : List Nat) (k : Nat) : pollsO l (o ++ [k]) = addP (pollsO l o) (tgAt l k) k := by simp [pollsO, List.foldl_append]
theorem addP_nil (t : Tg) (k : Nat) : addP [] t k = [newP t k] := rfl
theorem addP_join {ps : List Pol} {p : Pol} {t : Tg} {k : Nat} (h : joinB p t = true) : addP (ps ++ [p]) t k = ps ++ [p.join t k] := by
  simp [addP, h]
theorem addP_new {ps : List Pol} {p : Pol} {t : Tg} {k : Nat} (h : joinB p t = false) : addP (ps ++ [p]) t k = ps ++ [p, newP t k] := by
  simp [addP, h]
def planL (l : List Tg) : List Pol := if (chkAll l).1 = 0 then pollsO l (ordT l) else []
theorem snoc_cases {α : Type} (l : List α) : l = [] ∨ ∃ m a, l = m ++ [a] := by
  rcases List.eq_nil_or_concat l with h | ⟨m, a, h⟩
  · exact .inl h
  · exact .inr ⟨m, a, by rw [h, List.concat_eq_append]⟩

structure PGood (l : List Tg) (p : Pol) : Prop where
  ki : 1 ≤ p.ki ∧ p.ki ≤ 4
  ct : 1 ≤ p.ct ∧ p.ct ≤ mostK p.ki
  ad : 0 ≤ p.ad ∧ p.ad + p.ct ≤ 65536
  un : 1 ≤ p.un ∧ p.un ≤ 247
  ev : 1 ≤ p.ev ∧ p.ev ≤ 1048576
  hd : ∃ k : Nat, p.tg.head? = some (k : Int) ∧ k < l.length ∧ (tgAt l k).un = p.un ∧ (tgAt l k).ev = p.ev ∧ (tgAt l k).ki = p.ki ∧ (tgAt l k).ad = p.ad
  all : ∀ x ∈ p.tg, ∃ k : Nat, x = (k : Int) ∧ k < l.length ∧ (tgAt l k).un = p.un ∧ (tgAt l k).ev = p.ev ∧ (tgAt l k).ki = p.ki ∧ p.ad ≤ (tgAt l k).ad ∧ (tgAt l k).ad + widT (tgAt l k) ≤ p.ad + p.ct
def keyLe (a b : Pol) : Prop := a.un < b.un ∨ (a.un = b.un ∧ (a.ev < b.ev ∨ (a.ev = b.ev ∧ (a.ki < b.ki ∨ (a.ki = b.ki ∧ a.ad ≤ b.ad)))))
def PFar (l : List Tg) (a b : Pol) : Prop := keyLe a b ∧ ∃ k : Nat, b.tg.head? = some (k : Int) ∧ k < l.length ∧ joinB a (tgAt l k) = false
structure PInv (l : List Tg) (o : List Nat) (ps : List Pol) : Prop where
  flat : ps.flatMap Pol.tg = o.map (fun k : Nat => (k : Int))
  each : ∀ p ∈ ps, PGood l p
  next : ∀ i (h : i + 1 < ps.length), PFar l ps[i] ps[i + 1]
theorem tag_right {l : List Tg} (h : (chkAll l).1 = 0) {k : Nat} (hk : k < l.length) : chkT (tgAt l k) = 0 := by
  rw [tgAt_eq hk]
  exact (tab_of (k := (chkAll l).2) (by rw [← h])).2.2.1 _ (List.getElem_mem hk)
theorem tag_tab {l : List Tg} (h : (chkAll l).1 = 0) : TabT l := (tab_of (k := (chkAll l).2) (by rw [← h])).2

theorem wid_most (t : Tg) : widT t ≤ mostK t.ki := by
  have := widT_le t
  unfold mostK; split <;> omega
theorem newP_good {l : List Tg} {k : Nat} (hk : k < l.length) (hc : chkT (tgAt l k) = 0) : PGood l (newP (tgAt l k) k) := by
  obtain ⟨_, h2, h3, h4, h5, _⟩ := chkT_zero hc
  have hw := widT_le (tgAt l k)
  refine ⟨h3, ⟨hw.1, wid_most _⟩, ⟨h4.1, by show (tgAt l k).ad + widT (tgAt l k) ≤ 65536; omega⟩, h2, h5, ⟨k, rfl, hk, rfl, rfl, rfl, rfl⟩, fun x hx => ?_⟩
  have hx : x = (k : Int) := by simpa [newP] using hx
  exact ⟨k, hx, hk, rfl, rfl, rfl, Int.le_refl _, Int.le_refl _⟩
theorem join_good {l : List Tg} {p : Pol} {k : Nat} (h : PGood l p) (hk : k < l.length) (hc : chkT (tgAt l k) = 0) (hj : joinB p (tgAt l k) = true) (ha : p.ad ≤ (tgAt l k).ad) : PGood l (p.join (tgAt l k) k) := by
  obtain ⟨_, h2, h3, h4, h5, _⟩ := chkT_zero hc
  have hw := widT_le (tgAt l k)
  obtain ⟨g1, g2, g3, g4, g5⟩ := of_decide_eq_true hj
  have hcnt : cntJ p (tgAt l k) = p.ct ∧ (tgAt l k).ad + widT (tgAt l k) ≤ p.ad + p.ct ∨ cntJ p (tgAt l k) = (tgAt l k).ad + widT (tgAt l k) - p.ad ∧ p.ct ≤ cntJ p (tgAt l k) := by
    unfold cntJ; split <;> omega
  have hct := h.ct
  have had := h.ad
  refine ⟨h.ki, ⟨?_, ?_⟩, ⟨had.1, ?_⟩, h.un, h.ev, ?_, fun x hx => ?_⟩
  · show 1 ≤ cntJ p (tgAt l k)
    rcases hcnt with h | h <;> omega
  · show cntJ p (tgAt l k) ≤ mostK p.ki
    rw [g3]; exact g5
  · show p.ad + cntJ p (tgAt l k) ≤ 65536
    rcases hcnt with h | h <;> omega
  · obtain ⟨k', e, r⟩ := h.hd
    refine ⟨k', ?_, r⟩
    show (p.tg ++ [(k : Int)]).head? = _
    rw [List.head?_append, e]; rfl
  · rcases List.mem_append.1 (show x ∈ p.tg ++ [(k : Int)] from hx) with hx | hx
    · obtain ⟨k', e, k1, k2, k3, k4, k5, k6⟩ := h.all x hx
      refine ⟨k', e, k1, k2, k3, k4, k5, ?_⟩
      show _ ≤ p.ad + cntJ p (tgAt l k)
      rcases hcnt with h | h <;> omega
    · refine ⟨k, by simpa using hx, hk, g1.symm, g2.symm, g3.symm, ha, ?_⟩
      show _ ≤ p.ad + cntJ p (tgAt l k)
      rcases hcnt with h | h <;> omega
theorem pinv_nil (l : List Tg) : PInv l [] [] := ⟨rfl, fun p hp => (by cases hp), fun i h => (by simp at h)⟩
theorem pinv_head {l : List Tg} {o : List Nat} {ps : List Pol} (h : PInv l o ps) {p : Pol} (hp : p ∈ ps) {k : Nat} (hk : p.tg.head? = some (k : Int)) : k ∈ o := by
  have hm : (k : Int) ∈ ps.flatMap Pol.tg := List.mem_flatMap.2 ⟨p, hp, List.mem_of_mem_head? (by rw [hk]; rfl)⟩
  rw [h.flat, List.mem_map] at hm
  obtain ⟨k', h1, h2⟩ := hm
  have : k' = k := by omega
  rw [← this]; exact h1
theorem pinv_step {l : List Tg} {o : List Nat} {ps : List Pol} (h : PInv l o ps) {k : Nat} (hk : k < l.length) (hc : chkT (tgAt l k) = 0) (ho : ∀ j ∈ o, aheadB l j k = true) : PInv l (o ++ [k]) (addP ps (tgAt l k) k) := by
  rcases snoc_cases ps with rfl | ⟨qs, p, rfl⟩
  · rw [addP_nil]
    have hn : o = [] := by
      have := h.flat
      simpa using this.symm
    subst hn
    refine ⟨by simp [newP], fun p hp => ?_, fun i hi => by simp at hi⟩
    obtain rfl : p = newP (tgAt l k) k := by simpa using hp
    exact newP_good hk hc
  · have hpm : p ∈ qs ++ [p] := List.mem_append_right _ (by simp)
    have hg := h.each p hpm
    obtain ⟨kh, e1, e2, e3, e4, e5, e6⟩ := hg.hd
    have hah : aheadP (tgAt l kh) (tgAt l k) kh k := of_decide_eq_true (ho kh (pinv_head h hpm e1))
    cases hj : joinB p (tgAt l k) with
    | true =>
      rw [addP_join hj]
      obtain ⟨g1, g2, g3, g4, g5⟩ := of_decide_eq_true hj
      have hgood := join_good hg hk hc hj (by unfold aheadP at hah; omega)
      refine ⟨?_, fun q hq => ?_, fun i hi => ?_⟩
      · have := h.flat
        rw [List.flatMap_append] at this ⊢
        simp only [List.flatMap_cons, List.flatMap_nil, List.append_nil] at this ⊢
        rw [List.map_append, ← this, List.append_assoc]; rfl
      · rcases List.mem_append.1 hq with hq | hq
        · exact h.each q (List.mem_append_left _ hq)
        · obtain rfl : q = p.join (tgAt l k) k := by simpa using hq
          exact hgood
      · have hi2 : i + 1 < (qs ++ [p]).length := by simpa using hi
        have hq := h.next i hi2
        have hi3 : i < qs.length := by simp at hi; omega
        rw [List.getElem_append_left hi3] at hq ⊢
        by_cases hl : i + 1 < qs.length
        · rw [List.getElem_append_left hl] at hq ⊢
          exact hq
        · have : i + 1 = qs.length := by simp at hi; omega
          rw [List.getElem_append_right (by omega)] at hq ⊢
          simp only [this, Nat.sub_self, List.getElem_cons_zero] at hq ⊢
          obtain ⟨q1, k', q2, q3, q4⟩ := hq
          refine ⟨q1, k', ?_, q3, q4⟩
          show (p.tg ++ [(k : Int)]).head? = _
          rw [List.head?_append, q2]; rfl
    | false =>
      rw [addP_new hj]
      have hgood := newP_good hk hc
      refine ⟨?_, fun q hq => ?_, fun i hi => ?_⟩
      · have := h.flat
        rw [List.flatMap_append] at this ⊢
        simp only [List.flatMap_cons, List.flatMap_nil, List.append_nil] at this ⊢
        rw [List.map_append, ← this, List.append_assoc]; rfl
      · rcases List.mem_append.1 hq with hq | hq
        · exact h.each q (List.mem_append_left _ hq)
        · rcases List.mem_cons.1 hq with rfl | hq
          · exact hg
          · obtain rfl : q = newP (tgAt l k) k := by simpa using hq
            exact hgood
      · by_cases hl : i + 1 < (qs ++ [p]).length
        · have hq := h.next i hl
          have a1 : (qs ++ [p, newP (tgAt l k) k])[i] = (qs ++ [p])[i] := by
            simp only [show qs ++ [p, newP (tgAt l k) k] = (qs ++ [p]) ++ [newP (tgAt l k) k] by simp]
            rw [List.getElem_append_left]
          have a2 : (qs ++ [p, newP (tgAt l k) k])[i + 1] = (qs ++ [p])[i + 1] := by
            simp only [show qs ++ [p, newP (tgAt l k) k] = (qs ++ [p]) ++ [newP (tgAt l k) k] by simp]
            rw [List.getElem_append_left]
          rw [a1, a2]
          exact hq
        · have hil : i = qs.length := by simp at hl hi; omega
          subst hil
          have a1 : (qs ++ [p, newP (tgAt l k) k])[qs.length] = p := by
            rw [List.getElem_append_right (Nat.le_refl _)]; simp
          have a2 : (qs ++ [p, newP (tgAt l k) k])[qs.length + 1] = newP (tgAt l k) k := by
            rw [List.getElem_append_right (by omega)]; simp
          rw [a1, a2]
          refine ⟨?_, k, rfl, hk, hj⟩
          unfold aheadP at hah
          show p.un < (tgAt l k).un ∨ (p.un = (tgAt l k).un ∧ (p.ev < (tgAt l k).ev ∨ (p.ev = (tgAt l k).ev ∧ (p.ki < (tgAt l k).ki ∨ (p.ki = (tgAt l k).ki ∧ p.ad ≤ (tgAt l k).ad)))))
          omega
theorem pinv_all {l : List Tg} (hc : ∀ k, k < l.length → chkT (tgAt l k) = 0) (o : List Nat) (hlt : ∀ k ∈ o, k < l.length) (hs : o.Pairwise (fun a b => aheadB l a b = true)) : PInv l o (pollsO l o) := by
  have key : ∀ m, m ≤ o.length → PInv l (o.take m) (pollsO l (o.take m)) := by
    intro m
    induction m with
    | zero => intro _; rw [List.take_zero, pollsO_nil]; exact pinv_nil l
    | succ m ih =>
      intro hm
      have hmo : m < o.length := by omega
      rw [List.take_succ_eq_append_getElem hmo, pollsO_snoc]
      have hko := List.getElem_mem hmo
      refine pinv_step (ih (by omega)) (hlt _ hko) (hc _ (hlt _ hko)) fun j hj => ?_
      obtain ⟨i, hi, rfl⟩ := List.mem_iff_getElem.1 hj
      rw [List.length_take] at hi
      rw [List.getElem_take]
      exact List.pairwise_iff_getElem.1 hs i m (by omega) hmo (by omega)
  have := key o.length (Nat.le_refl _)
  rwa [List.take_length] at this
theorem plan_inv {l : List Tg} (h : (chkAll l).1 = 0) : PInv l (ordT l) (planL l) := by
  rw [planL, if_pos h]
  exact pinv_all (fun k hk => tag_right h hk) _ (fun k hk => ordT_lt hk) (ordT_sorted l)
theorem plan_bad {l : List Tg} (h : (chkAll l).1 ≠ 0) : planL l = [] := by rw [planL, if_neg h]

def reqK (k a c : Int) : Req := ⟨k, a, c, [], [], []⟩
def askE (k a c : Int) : Int := if k < 1 ∨ 4 < k then 28 else chkQ (reqK k a c)
def askN (k a c x : Int) : Int := if askE k a c = 0 then x else 0
theorem mm_low {k : Int} (h : 1 ≤ k ∧ k ≤ 4) : mm k = mostK k := by
  have : k = 1 ∨ k = 2 ∨ k = 3 ∨ k = 4 := by omega
  rcases this with rfl | rfl | rfl | rfl <;> rfl
theorem askE_eq {k : Int} (h : 1 ≤ k ∧ k ≤ 4) (a c : Int) : askE k a c = if a < 0 ∨ 65536 ≤ a then 21 else if c < 1 ∨ mostK k < c then 22 else if 65536 < a + c then 21 else 0 := by
  have hk : k = 1 ∨ k = 2 ∨ k = 3 ∨ k = 4 := by omega
  unfold askE
  rw [if_neg (by omega)]
  have hm := mm_low h
  have he : chkQ (reqK k a c) = chk k a c 0 0 0 [] := by simp [chkQ, reqK]
  rw [he]
  unfold chk
  have hs : stray k a c 0 0 0 = false := by rcases hk with rfl | rfl | rfl | rfl <;> rfl
  have hmn : many k c 0 0 0 = c := by rcases hk with rfl | rfl | rfl | rfl <;> rfl
  have hmp : ¬ mm k ≤ 0 := by rw [hm]; unfold mostK; split <;> omega
  rw [if_neg hmp, if_neg (by rw [hs]; simp), hmn, hm]
  have h20 : ¬ k = 20 := by omega
  rw [if_neg h20]
theorem good_ask {l : List Tg} {p : Pol} (h : PGood l p) : askE p.ki p.ad p.ct = 0 := by
  have h1 := h.ct
  have h2 := h.ad
  rw [askE_eq h.ki, if_neg (by omega), if_neg (by omega), if_neg (by omega)]
theorem askE_zero {k a c : Int} (h : askE k a c = 0) : (1 ≤ k ∧ k ≤ 4) ∧ (0 ≤ a ∧ a < 65536) ∧ (1 ≤ c ∧ c ≤ mostK k) ∧ a + c ≤ 65536 := by
  by_cases hk : k < 1 ∨ 4 < k
  · unfold askE at h; rw [if_pos hk] at h; cases h
  · rw [askE_eq (by omega)] at h
    by_cases h1 : a < 0 ∨ 65536 ≤ a
    · rw [if_pos h1] at h; cases h
    · rw [if_neg h1] at h
      by_cases h2 : c < 1 ∨ mostK k < c
      · rw [if_pos h2] at h; cases h
      · rw [if_neg h2] at h
        by_cases h3 : 65536 < a + c
        · rw [if_pos h3] at h; cases h
        · omega
end Go.Proofs.YtcmbdhmhkfhjfaaGreat
namespace Go.Proofs.YtcmbdhmhkfhjfaaGreat
open Go.RowKit
set_option linter.unusedVariables false

theorem pLetter_any (c : Int) (w : World) : Calls Tryz.prog 128 #[.int .i32 c] w fun e w' => e = .returned (.bool (letB c)) ∧ w' = w := by
  refine letter_cases c _ ?_ ?_ ?_ ?_ ?_
  · intro h1 h2 h
    rw [h]
    go_enter Tryz.func128, Tryz.ntmps128
    go_wp2
    go_ret
    exact ⟨rfl, rfl⟩
  · intro h1 h2 h
    have h3 : ¬ c ≤ 90 := by omega
    have h4 : 65 ≤ c := by omega
    rw [h]
    go_enter Tryz.func128, Tryz.ntmps128
    go_wp2
    go_ret
    exact ⟨rfl, rfl⟩
  · intro h1 h2 h3 h
    rw [h]
    go_enter Tryz.func128, Tryz.ntmps128
    go_wp2
    go_ret
    exact ⟨rfl, rfl⟩
  · intro h1 h2 h3 h
    rw [h]
    go_enter Tryz.func128, Tryz.ntmps128
    go_wp2
    go_ret
    exact ⟨rfl, rfl⟩
  · intro h1 h2 h
    rw [h]
    go_enter Tryz.func128, Tryz.ntmps128
    go_wp2
    go_ret
    exact ⟨rfl, rfl⟩

def ltrB (c : Int) : Bool := (decide (48 ≤ c) && decide (c ≤ 57)) || (decide (c = 95) || (decide (c = 46) || decide (c = 45)))
theorem chB_ltr (c : Int) : chB c = (letB c || ltrB c) := by
  unfold chB ltrB
  cases letB c <;> cases (decide (48 ≤ c) && decide (c ≤ 57)) <;> cases decide (c = 95) <;> cases decide (c = 46) <;> cases decide (c = 45) <;> rfl
theorem pLater_any (c : Int) (w : World) : Calls Tryz.prog 129 #[.int .i32 c] w fun e w' => e = .returned (.bool (ltrB c)) ∧ w' = w := by
  by_cases h1 : c = 95
  · subst h1
    rw [show ltrB 95 = true from rfl]
    go_enter Tryz.func129, Tryz.ntmps129
    go_wp2
    go_ret
    exact ⟨rfl, rfl⟩
  by_cases h2 : c = 46
  · subst h2
    rw [show ltrB 46 = true from rfl]
    go_enter Tryz.func129, Tryz.ntmps129
    go_wp2
    go_ret
    exact ⟨rfl, rfl⟩
  by_cases h3 : c = 45
  · subst h3
    rw [show ltrB 45 = true from rfl]
    go_enter Tryz.func129, Tryz.ntmps129
    go_wp2
    go_ret
    exact ⟨rfl, rfl⟩
  have e1 : (c == 95) = false := by simp [h1]
  have e2 : (c == 46) = false := by simp [h2]
  have e3 : (c == 45) = false := by simp [h3]
  by_cases h4 : 48 ≤ c
  · by_cases h5 : c ≤ 57
    · have HB : Hid (ltrB c = true) := Lib.hid (by unfold ltrB; simp [h4, h5])
      rw [HB.out]
      go_enter Tryz.func129, Tryz.ntmps129
      go_wp2
      go_ret
      exact ⟨rfl, rfl⟩
    · have HB : Hid (ltrB c = false) := Lib.hid (by unfold ltrB; simp [h1, h2, h3, h5])
      rw [HB.out]
      go_enter Tryz.func129, Tryz.ntmps129
      go_wp2
      go_ret
      exact ⟨rfl, rfl⟩
  · have HB : Hid (ltrB c = false) := Lib.hid (by unfold ltrB; simp [h1, h2, h3, h4])
    rw [HB.out]
    go_enter Tryz.func129, Tryz.ntmps129
    go_wp2
    go_ret
    exact ⟨rfl, rfl⟩
theorem let_high {c : Int} (h : 128 ≤ c) : letB c = false ∧ ltrB c = false ∧ chB c = false := by
  have h1 : letB c = false := by
    simp only [letB, Bool.or_eq_false_iff, Bool.and_eq_false_iff, decide_eq_false_iff_not]
    omega
  have h2 : ltrB c = false := by
    simp only [ltrB, Bool.or_eq_false_iff, Bool.and_eq_false_iff, decide_eq_false_iff_not]
    omega
  exact ⟨h1, h2, by rw [chB_ltr, h1, h2]; rfl⟩
theorem rune_at (s : ByteArray) (p : Nat) (h : p < s.size) :
    (nth (bys s) p < 128 ∧ (Utf8.decode s p).1 = (nth (bys s) p).toNat ∧ (Utf8.decode s p).2 = 1) ∨ (128 ≤ nth (bys s) p ∧ 128 ≤ (Utf8.decode s p).1) := by
  rw [bys_get s p h]
  by_cases ha : (s[p]'h).toNat < 128
  · left
    rw [decode_ascii s p h ha]
    exact ⟨by omega, by simp, rfl⟩
  · right
    exact ⟨by omega, (decode_high s p h (by omega)).1⟩
theorem iter_bel (w : World) (s : ByteArray) (p : Nat) : Below w.heap.size w (w.iter s p) := bel_alloc w _
set_option maxHeartbeats 1000000 in
theorem Name9_any (s : ByteArray) (w : World) (hs : s.size ≤ maxLen) : Calls Tryz.prog 114 #[.string s] w fun e w' => e = .returned (.bool (nameB (bys s))) ∧ Below w.heap.size w w' := by
  unfold maxLen at hs
  have hl := bys_len s
  by_cases h1 : s.size < 1
  · have HB : Hid (nameB (bys s) = false) := Lib.hid (nameB_len (.inl (by omega)))
    rw [HB.out]
    have h1' : (s.size : Int) < 1 := by omega
    clear hl
    go_enter Tryz.func114, Tryz.ntmps114
    go_wp2
    go_ret
    exact ⟨rfl, Below.refl _ _⟩
  by_cases h2 : 16 < s.size
  · have HB : Hid (nameB (bys s) = false) := Lib.hid (nameB_len (.inr (by omega)))
    rw [HB.out]
    have h1' : ¬ (s.size : Int) < 1 := by omega
    have h2' : (s.size : Int) > 16 := by omega
    clear hl
    go_enter Tryz.func114, Tryz.ntmps114
    go_wp2
    go_ret
    exact ⟨rfl, Below.refl _ _⟩
  have h1' : ¬ (s.size : Int) < 1 := by omega
  have h2' : ¬ (s.size : Int) > 16 := by omega
  have HL := Lib.hid hl
  clear hl
  go_enter Tryz.func114, Tryz.ntmps114
  go_wp2
  go_loopw [] (fun wr => ∃ p : Nat, p ≤ s.size ∧ wr = w.iter s p ∧ Hid (∀ i, i < p → chB (nth (bys s) i) = true) ∧ Hid (0 < p → letB (nth (bys s) 0) = true)) (fun wr => s.size - wr.iterPos w.heap.size)
  case atStart => exact ⟨0, by omega, rfl, Lib.hid (fun i hi => absurd hi (by omega)), Lib.hid (fun h => absurd h (by omega))⟩
  case round =>
    obtain ⟨p, hp, rfl, hall, hfst⟩ := hrel
    by_cases hlt : p < s.size
    · have hnx : ∀ ty, (Instr.next (.pointer (some ⟨w.heap.size, 0, none⟩)) true ty).run Tryz.prog (w.iter s p) = _ := fun ty => run_next_any w s p ty hlt
      have hpl : p < (bys s).length := by rw [HL.out]; exact hlt
      rcases rune_at s p hlt with ⟨a1, a2, a3⟩ | ⟨a1, a2⟩
      · have hb0 := (bys_bound s p hlt).1
        obtain ⟨c, hc⟩ : ∃ c, nth (bys s) p = c := ⟨_, rfl⟩
        have HC := Lib.hid hc
        rw [hc] at a1 a2 hb0
        have e1 : ((Utf8.decode s p).1 : Int) = c := by rw [a2]; omega
        rw [e1, a3] at hnx
        clear hc e1 a2 a3 hpl
        cases hl1 : letB c
        case true =>
          have hall2 : Hid (∀ i, i < p + 1 → chB (nth (bys s) i) = true) := Lib.hid (fun i hi => by
            rcases Nat.lt_or_ge i p with h | h
            · exact hall.out i h
            · obtain rfl : i = p := by omega
              rw [HC.out]; exact chB_letter hl1)
          have hfst2 : Hid (0 < p + 1 → letB (nth (bys s) 0) = true) := Lib.hid (fun _ => by
            rcases Nat.eq_zero_or_pos p with h | h
            · subst h; rw [HC.out]; exact hl1
            · exact hfst.out h)
          have HL1 := Lib.hid hl1
          go_wp2_with (go_at_call 128; refine (pLetter_any _ _).mono ?_; rintro e w' ⟨rfl, rfl⟩; rw [HL1.out])
          go_roundw
          case rel => exact ⟨p + 1, by omega, rfl, hall2, hfst2⟩
          case measure => simp; omega
        case false =>
          have HL1 := Lib.hid hl1
          rcases Nat.eq_zero_or_pos p with h0 | h0
          · subst h0
            have HB : Hid (nameB (bys s) = false) := Lib.hid (nameB_first (by rw [HC.out]; exact hl1))
            clear hl1
            go_wp2_with (go_at_call 128; refine (pLetter_any _ _).mono ?_; rintro e w' ⟨rfl, rfl⟩; rw [HL1.out])
            go_ret
            exact ⟨by rw [HB.out]; rfl, iter_bel w s _⟩
          · have hp0 : (p == 0) = false := by simp; omega
            have hp1 : ¬ (p : Int) = 0 := by omega
            cases hl2 : ltrB c
            case true =>
              have hall2 : Hid (∀ i, i < p + 1 → chB (nth (bys s) i) = true) := Lib.hid (fun i hi => by
                rcases Nat.lt_or_ge i p with h | h
                · exact hall.out i h
                · obtain rfl : i = p := by omega
                  rw [HC.out, chB_ltr, hl2, Bool.or_true])
              have hfst2 : Hid (0 < p + 1 → letB (nth (bys s) 0) = true) := Lib.hid (fun _ => hfst.out h0)
              have HL2 := Lib.hid hl2
              clear hl1 hl2
              go_wp2_with (first | (go_at_call 128; refine (pLetter_any _ _).mono ?_; rintro e w' ⟨rfl, rfl⟩; rw [HL1.out]) | (go_at_call 129; refine (pLater_any _ _).mono ?_; rintro e w' ⟨rfl, rfl⟩; rw [HL2.out]) | fail)
              go_roundw
              case rel => exact ⟨p + 1, by omega, rfl, hall2, hfst2⟩
              case measure => simp; omega
            case false =>
              have HB : Hid (nameB (bys s) = false) := Lib.hid (nameB_bad p (by rw [HL.out]; exact hlt) (by rw [HC.out, chB_ltr, hl1, hl2]; rfl))
              have HL2 := Lib.hid hl2
              clear hl1 hl2
              go_wp2_with (first | (go_at_call 128; refine (pLetter_any _ _).mono ?_; rintro e w' ⟨rfl, rfl⟩; rw [HL1.out]) | (go_at_call 129; refine (pLater_any _ _).mono ?_; rintro e w' ⟨rfl, rfl⟩; rw [HL2.out]) | fail)
              go_ret
              exact ⟨by rw [HB.out]; rfl, iter_bel w s _⟩
      · have HB : Hid (nameB (bys s) = false) := Lib.hid (nameB_bad p (by rw [HL.out]; exact hlt) (let_high a1).2.2)
        obtain ⟨c, hc⟩ : ∃ c : Nat, (Utf8.decode s p).1 = c := ⟨_, rfl⟩
        obtain ⟨d, hd⟩ : ∃ d : Nat, (Utf8.decode s p).2 = d := ⟨_, rfl⟩
        rw [hc, hd] at hnx
        rw [hc] at a2
        have HL1 : Hid (letB (c : Int) = false) := Lib.hid (let_high (by omega)).1
        have HL2 : Hid (ltrB (c : Int) = false) := Lib.hid (let_high (by omega)).2.1
        clear hc hd a1 a2 hpl
        rcases Nat.eq_zero_or_pos p with h0 | h0
        · subst h0
          go_wp2_with (first | (go_at_call 128; refine (pLetter_any _ _).mono ?_; rintro e w' ⟨rfl, rfl⟩; rw [HL1.out]) | (go_at_call 129; refine (pLater_any _ _).mono ?_; rintro e w' ⟨rfl, rfl⟩; rw [HL2.out]) | fail)
          go_ret
          exact ⟨by rw [HB.out]; rfl, iter_bel w s _⟩
        · have hp0 : (p == 0) = false := by simp; omega
          have hp1 : ¬ (p : Int) = 0 := by omega
          go_wp2_with (first | (go_at_call 128; refine (pLetter_any _ _).mono ?_; rintro e w' ⟨rfl, rfl⟩; rw [HL1.out]) | (go_at_call 129; refine (pLater_any _ _).mono ?_; rintro e w' ⟨rfl, rfl⟩; rw [HL2.out]) | fail)
          go_ret
          exact ⟨by rw [HB.out]; rfl, iter_bel w s _⟩
    · obtain rfl : p = s.size := by omega
      have HB : Hid (nameB (bys s) = true) := Lib.hid (nameB_good (by rw [HL.out]; omega) (by rw [HL.out]; omega) (hfst.out (by omega)) (fun i hi => hall.out i (by rw [HL.out] at hi; exact hi)))
      have hnx : ∀ ty, (Instr.next (.pointer (some ⟨w.heap.size, 0, none⟩)) true ty).run Tryz.prog (w.iter s s.size) = _ := fun ty => run_next_end w s s.size ty hlt
      go_wp2
      go_ret
      exact ⟨by rw [HB.out]; rfl, iter_bel w s _⟩
end Go.Proofs.YtcmbdhmhkfhjfaaGreat
namespace Go.Proofs.YtcmbdhmhkfhjfaaGreat
open Go.RowKit
set_option linter.unusedVariables false

def almV (a : Alm) : Value := .agg #[.int .i64 a.st, .bool a.wt]
def stepR (r : Alm × Int) : Value := .tuple #[almV r.1, .int .i64 r.2]
def ackR (r : Alm × Bool) : Value := .tuple #[almV r.1, .bool r.2]
end Go.Proofs.YtcmbdhmhkfhjfaaGreat
namespace Go.Proofs.YtcmbdhmhkfhjfaaGreat
open Go.RowKit
set_option linter.unusedVariables false

end Go.Proofs.YtcmbdhmhkfhjfaaGreat
namespace Go.Proofs.YtcmbdhmhkfhjfaaGreat
open Go.RowKit
set_option linter.unusedVariables false

def fitsB8 (use : Bool) (v : Int) : Bool := bif use then decide (v ≥ -1099511627776) && decide (v ≤ 1099511627776) else decide (v = 0)
theorem fits_any8 (use : Bool) (v : Int) (w : World) : Calls Tryz.prog 137 #[.bool use, .int .i64 v] w fun e w' => e = .returned (.bool (fitsB8 use v)) ∧ w' = w := by
  cases use
  · have HB : Hid (fitsB8 false v = (v == 0)) := Lib.hid (by unfold fitsB8; rw [cond_false]; by_cases h : v = 0 <;> simp [h])
    rw [HB.out]
    go_enter Tryz.func137, Tryz.ntmps137
    go_wp2
    go_ret
    exact ⟨rfl, rfl⟩
  · by_cases h : v ≥ -1099511627776
    · have HB : Hid (fitsB8 true v = decide (v ≤ 1099511627776)) := Lib.hid (by unfold fitsB8; rw [cond_true, decide_eq_true h, Bool.true_and])
      rw [HB.out]
      go_enter Tryz.func137, Tryz.ntmps137
      go_wp2
      go_ret
      exact ⟨rfl, rfl⟩
    · have HB : Hid (fitsB8 true v = false) := Lib.hid (by unfold fitsB8; rw [cond_true, decide_eq_false h, Bool.false_and])
      rw [HB.out]
      go_enter Tryz.func137, Tryz.ntmps137
      go_wp2
      go_ret
      exact ⟨rfl, rfl⟩

theorem fits_false8 {use : Bool} {v : Int} (h : fitsB8 use v = false) : (beyB v = true) ∨ (use = false ∧ v ≠ 0) := by
  cases use
  · right
    refine ⟨rfl, ?_⟩
    simpa [fitsB8] using h
  · left
    simp only [fitsB8, cond_true, Bool.and_eq_false_iff, decide_eq_false_iff_not] at h
    simp only [beyB, Bool.or_eq_true, decide_eq_true_eq]
    omega
theorem fits_true8 {use : Bool} {v : Int} (h : fitsB8 use v = true) : beyB v = false ∧ (use = true ∨ v = 0) := by
  cases use
  · have h0 : v = 0 := by simpa [fitsB8] using h
    subst h0
    exact ⟨rfl, .inr rfl⟩
  · simp only [fitsB8, cond_true, Bool.and_eq_true, decide_eq_true_eq] at h
    refine ⟨?_, .inl rfl⟩
    simp only [beyB, Bool.or_eq_false_iff, decide_eq_false_iff_not]
    omega

theorem pchk_cases (l : Lim) (P : Prop)
    (c1 : l.hy < 0 → chkL l = 27 → P)
    (c2 : ¬ l.hy < 0 → l.hy > 1099511627776 → chkL l = 27 → P)
    (c3 : ¬ l.hy < 0 → ¬ l.hy > 1099511627776 → fitsB8 l.ul l.lo = false → chkL l = 27 → P)
    (c4 : ¬ l.hy < 0 → ¬ l.hy > 1099511627776 → fitsB8 l.ul l.lo = true → fitsB8 l.uh l.hi = false → chkL l = 27 → P)
    (c5 : ¬ l.hy < 0 → ¬ l.hy > 1099511627776 → fitsB8 l.ul l.lo = true → fitsB8 l.uh l.hi = true → l.ul = false → chkL l = 0 → P)
    (c6 : ¬ l.hy < 0 → ¬ l.hy > 1099511627776 → fitsB8 l.ul l.lo = true → fitsB8 l.uh l.hi = true → l.ul = true → l.uh = false → chkL l = 0 → P)
    (c7 : ¬ l.hy < 0 → ¬ l.hy > 1099511627776 → fitsB8 l.ul l.lo = true → fitsB8 l.uh l.hi = true → l.ul = true → l.uh = true → l.hy ≥ l.hi - l.lo → chkL l = 27 → P)
    (c8 : ¬ l.hy < 0 → ¬ l.hy > 1099511627776 → fitsB8 l.ul l.lo = true → fitsB8 l.uh l.hi = true → l.ul = true → l.uh = true → ¬ l.hy ≥ l.hi - l.lo → chkL l = 0 → P) : P := by
  cases h3 : fitsB8 l.ul l.lo
  case false =>
    refine chk_cases l P c1 c2 ?_ ?_ ?_ ?_ ?_ ?_ ?_ ?_ ?_ ?_
    all_goals intro h1 h2
    · intro _; exact c3 h1 h2 h3
    · intro _ _; exact c3 h1 h2 h3
    · intro _ _ _ _; exact c3 h1 h2 h3
    · intro _ _ _ _ _ _; exact c3 h1 h2 h3
    · intro _ _ _ _ _; exact c3 h1 h2 h3
    all_goals
      intros
      rcases fits_false8 h3 with h | ⟨h, h'⟩
      · simp_all
      · simp_all
  case true =>
  obtain ⟨t1, t2⟩ := fits_true8 h3
  cases h4 : fitsB8 l.uh l.hi
  case false =>
    refine chk_cases l P c1 c2 ?_ ?_ ?_ ?_ ?_ ?_ ?_ ?_ ?_ ?_
    all_goals intro h1 h2
    · intro h; rw [t1] at h; cases h
    · intro _ _; exact c4 h1 h2 h3 h4
    · intro _ _ h h'; rw [h] at t2; rcases t2 with t2 | t2
      · cases t2
      · exact absurd t2 h'
    · intro _ _ _ _ _ _; exact c4 h1 h2 h3 h4
    · intro _ _ _ _ _; exact c4 h1 h2 h3 h4
    all_goals
      intros
      rcases fits_false8 h4 with h | ⟨h, h'⟩
      · simp_all
      · simp_all
  case true =>
  obtain ⟨u1, u2⟩ := fits_true8 h4
  refine chk_cases l P c1 c2 ?_ ?_ ?_ ?_ ?_ ?_ ?_ ?_ ?_ ?_
  all_goals intro h1 h2
  · intro h; rw [t1] at h; cases h
  · intro _ h; rw [u1] at h; cases h
  · intro _ _ h h'; rw [h] at t2; rcases t2 with t2 | t2
    · cases t2
    · exact absurd t2 h'
  · intro _ _ _ _ h h'; rw [h] at u2; rcases u2 with u2 | u2
    · cases u2
    · exact absurd u2 h'
  · intro _ _ _ h h'; rw [h] at u2; rcases u2 with u2 | u2
    · cases u2
    · exact absurd u2 h'
  · intro _ _ h _ _ _; exact c5 h1 h2 h3 h4 h
  · intro _ _ h _ _; exact c5 h1 h2 h3 h4 h
  · intro _ _ h h' _; exact c6 h1 h2 h3 h4 h h'
  · intro _ _ h h' h9; exact c7 h1 h2 h3 h4 h h' h9
  · intro _ _ h h' h9; exact c8 h1 h2 h3 h4 h h' h9

set_option maxHeartbeats 2000000 in
theorem Check8_any (ul uh la : Bool) (lo hi hy : Int) (w : World) : Calls Tryz.prog 131 #[.agg #[.bool ul, .bool uh, .bool la, .int .i64 lo, .int .i64 hi, .int .i64 hy]] w fun e w' => e = .returned (.int .i64 (chkL ⟨ul, uh, la, lo, hi, hy⟩)) ∧ Below w.heap.size w w' := by
  have bel := bel_alloc w (.cells #[.bool ul, .bool uh, .bool la, .int .i64 lo, .int .i64 hi, .int .i64 hy] 49)
  refine pchk_cases ⟨ul, uh, la, lo, hi, hy⟩ _ ?_ ?_ ?_ ?_ ?_ ?_ ?_ ?_ <;> simp only
  · intro h1 HC
    rw [HC]
    clear HC
    go_enter Tryz.func131, Tryz.ntmps131
    go_wp2
    go_ret
    exact ⟨rfl, bel⟩
  · intro h1 h2 HC
    rw [HC]
    clear HC
    go_enter Tryz.func131, Tryz.ntmps131
    go_wp2
    go_ret
    exact ⟨rfl, bel⟩
  · intro h1 h2 h3 HC
    rw [HC]
    clear HC
    go_enter Tryz.func131, Tryz.ntmps131
    go_wp2_with fail
    refine (fits_any8 ul lo _).mono ?_
    rintro e w' ⟨rfl, rfl⟩
    rw [h3]
    go_wp2
    go_ret
    exact ⟨rfl, bel⟩
  · intro h1 h2 h3 h4 HC
    rw [HC]
    clear HC
    go_enter Tryz.func131, Tryz.ntmps131
    go_wp2_with fail
    refine (fits_any8 ul lo _).mono ?_
    rintro e w' ⟨rfl, rfl⟩
    rw [h3]
    go_wp2_with fail
    refine (fits_any8 uh hi _).mono ?_
    rintro e w' ⟨rfl, rfl⟩
    rw [h4]
    go_wp2
    go_ret
    exact ⟨rfl, bel⟩
  · intro h1 h2 h3 h4 h5 HC
    rw [HC]
    clear HC
    subst h5
    go_enter Tryz.func131, Tryz.ntmps131
    go_wp2_with fail
    refine (fits_any8 false lo _).mono ?_
    rintro e w' ⟨rfl, rfl⟩
    rw [h3]
    go_wp2_with fail
    refine (fits_any8 uh hi _).mono ?_
    rintro e w' ⟨rfl, rfl⟩
    rw [h4]
    go_wp2
    go_ret
    exact ⟨rfl, bel⟩
  · intro h1 h2 h3 h4 h5 h6 HC
    rw [HC]
    clear HC
    subst h5 h6
    go_enter Tryz.func131, Tryz.ntmps131
    go_wp2_with fail
    refine (fits_any8 true lo _).mono ?_
    rintro e w' ⟨rfl, rfl⟩
    rw [h3]
    go_wp2_with fail
    refine (fits_any8 false hi _).mono ?_
    rintro e w' ⟨rfl, rfl⟩
    rw [h4]
    go_wp2
    go_ret
    exact ⟨rfl, bel⟩
  all_goals
    intro h1 h2 h3 h4 h5 h6 h9 HC
    rw [HC]
    clear HC
    subst h5 h6
    have hw : IntKind.i64.wrap (hi - lo) = hi - lo := by
      have := bey_false (fits_true8 h3).1
      have := bey_false (fits_true8 h4).1
      rw [IntKind.wrap_i64]; omega
    go_enter Tryz.func131, Tryz.ntmps131
    go_wp2_with fail
    refine (fits_any8 true lo _).mono ?_
    rintro e w' ⟨rfl, rfl⟩
    rw [h3]
    go_wp2_with fail
    refine (fits_any8 true hi _).mono ?_
    rintro e w' ⟨rfl, rfl⟩
    rw [h4]
    go_wp2
    go_ret
    exact ⟨rfl, bel⟩

def leftLow (l : Lim) (v : Int) : Bool := !l.ul || decide (v > l.lo + l.hy)
def leftHigh (l : Lim) (v : Int) : Bool := !l.uh || decide (v < l.hi - l.hy)
end Go.Proofs.YtcmbdhmhkfhjfaaGreat
namespace Go.Proofs.YtcmbdhmhkfhjfaaGreat
open Go.RowKit
set_option linter.unusedVariables false
set_option maxRecDepth 100000
attribute [local go_sem ↓] ldTag_fold

theorem Width9_any (nm : ByteArray) (un ki ad ev : Int) (we sg sw : Bool) (mu di aa de qu : Int) (ul uh la : Bool) (lo hi hy : Int) (w : World) : Calls Tryz.prog 44 #[.agg #[.string nm, .int .i64 un, .int .i64 ki, .int .i64 ad, .int .i64 ev, .bool we, .bool sg, .bool sw, .int .i64 mu, .int .i64 di, .int .i64 aa, .int .i64 de, .int .i64 qu, .bool ul, .bool uh, .bool la, .int .i64 lo, .int .i64 hi, .int .i64 hy]] w fun e w' => e = .returned (.int .i64 (widT ⟨nm, un, ki, ad, ev, we, sg, sw, mu, di, aa, de, qu, ul, uh, la, lo, hi, hy⟩)) ∧ Below w.heap.size w w' := by
  have bel := bel_alloc w (.cells #[.string nm, .int .i64 un, .int .i64 ki, .int .i64 ad, .int .i64 ev, .bool we, .bool sg, .bool sw, .int .i64 mu, .int .i64 di, .int .i64 aa, .int .i64 de, .int .i64 qu, .bool ul, .bool uh, .bool la, .int .i64 lo, .int .i64 hi, .int .i64 hy] 51)
  cases we
  · have HW : Hid (widT ⟨nm, un, ki, ad, ev, false, sg, sw, mu, di, aa, de, qu, ul, uh, la, lo, hi, hy⟩ = 1) := Lib.hid (by simp [widT])
    rw [HW.out]
    go_enter Tryz.func44, Tryz.ntmps44
    go_wp2
    go_ret
    exact ⟨rfl, bel⟩
  by_cases h3 : ki = 3
  · subst h3
    have HW : Hid (widT ⟨nm, un, 3, ad, ev, true, sg, sw, mu, di, aa, de, qu, ul, uh, la, lo, hi, hy⟩ = 2) := Lib.hid rfl
    rw [HW.out]
    go_enter Tryz.func44, Tryz.ntmps44
    go_wp2
    go_ret
    exact ⟨rfl, bel⟩
  by_cases h4 : ki = 4
  · subst h4
    have HW : Hid (widT ⟨nm, un, 4, ad, ev, true, sg, sw, mu, di, aa, de, qu, ul, uh, la, lo, hi, hy⟩ = 2) := Lib.hid rfl
    rw [HW.out]
    go_enter Tryz.func44, Tryz.ntmps44
    go_wp2
    go_ret
    exact ⟨rfl, bel⟩
  · have HW : Hid (widT ⟨nm, un, ki, ad, ev, true, sg, sw, mu, di, aa, de, qu, ul, uh, la, lo, hi, hy⟩ = 1) := Lib.hid (by simp [widT, h3, h4])
    have e3 : (ki == 3) = false := beq_false_of_ne h3
    have e4 : (ki == 4) = false := beq_false_of_ne h4
    rw [HW.out]
    go_enter Tryz.func44, Tryz.ntmps44
    go_wp2
    go_ret
    exact ⟨rfl, bel⟩

def lieB (v a b : Int) : Bool := decide (v ≥ a) && decide (v ≤ b)
theorem lies_any (v a b : Int) (w : World) : Calls Tryz.prog 115 #[.int .i64 v, .int .i64 a, .int .i64 b] w fun e w' => e = .returned (.bool (lieB v a b)) ∧ w' = w := by
  by_cases h : v ≥ a
  · have HB : Hid (lieB v a b = decide (v ≤ b)) := Lib.hid (by unfold lieB; rw [decide_eq_true h, Bool.true_and])
    rw [HB.out]
    go_enter Tryz.func115, Tryz.ntmps115
    go_wp2
    go_ret
    exact ⟨rfl, rfl⟩
  · have HB : Hid (lieB v a b = false) := Lib.hid (by unfold lieB; rw [decide_eq_false h, Bool.false_and])
    rw [HB.out]
    go_enter Tryz.func115, Tryz.ntmps115
    go_wp2
    go_ret
    exact ⟨rfl, rfl⟩
theorem lieB_yes {v a b : Int} (h1 : ¬ v < a) (h2 : ¬ v > b) : lieB v a b = true := by
  unfold lieB; rw [decide_eq_true (show v ≥ a by omega), decide_eq_true (show v ≤ b by omega)]; rfl
theorem lieB_low {v a b : Int} (h1 : v < a) : lieB v a b = false := by
  unfold lieB; rw [decide_eq_false (show ¬ v ≥ a by omega)]; rfl
theorem lieB_high {v a b : Int} (h1 : v > b) : lieB v a b = false := by
  unfold lieB; rw [decide_eq_false (show ¬ v ≤ b by omega), Bool.and_false]

def meanT (t : Tg) : Int :=
  bif !decide (t.sc.Ok) then 25
  else bif decide (t.ki ≤ 2) && !bitS t then 25
  else bif !decide (chkB t.de t.qu = 0) then 26
  else chkL t.li
theorem mean_cases (t : Tg) (P : Prop) (c10 : chkS t.sc = 25 → meanT t = 25 → P) (c11 : chkS t.sc = 0 → t.ki ≤ 2 → bitS t = false → meanT t = 25 → P)
    (c12 : chkS t.sc = 0 → (¬ t.ki ≤ 2 ∨ bitS t = true) → chkB t.de t.qu = 26 → meanT t = 26 → P)
    (c13 : chkS t.sc = 0 → (¬ t.ki ≤ 2 ∨ bitS t = true) → chkB t.de t.qu = 0 → meanT t = chkL t.li → P) : P := by
  unfold meanT at c10 c11 c12 c13
  by_cases h10 : t.sc.Ok
  case neg => exact c10 (chkS_no h10) (by simp [h10])
  have hs := chkS_yes h10
  by_cases h11 : t.ki ≤ 2 ∧ bitS t = false
  · exact c11 hs h11.1 h11.2 (by simp [h10, h11])
  have h12 : (decide (t.ki ≤ 2) && !bitS t) = false := by
    by_cases h : t.ki ≤ 2
    · cases hb : bitS t
      · exact absurd ⟨h, hb⟩ h11
      · simp
    · simp [h]
  have h13 : ¬ t.ki ≤ 2 ∨ bitS t = true := by
    by_cases h : t.ki ≤ 2
    · cases hb : bitS t
      · exact absurd ⟨h, hb⟩ h11
      · exact .inr rfl
    · exact .inl h
  rcases chkB_two t.de t.qu with hb | hb
  · exact c13 hs h13 hb (by simp only [decide_eq_true h10, h12, hb]; rfl)
  · exact c12 hs h13 hb (by simp only [decide_eq_true h10, h12, hb]; rfl)
set_option maxHeartbeats 1000000 in
theorem cm_10 (nm : ByteArray) (un ki ad ev : Int) (we sg sw : Bool) (mu di aa de qu : Int) (ul uh la : Bool) (lo hi hy : Int) (w : World) (S0 : chkS ⟨we, sg, sw, mu, di, aa⟩ = 25) : Calls Tryz.prog 116 #[.agg #[.string nm, .int .i64 un, .int .i64 ki, .int .i64 ad, .int .i64 ev, .bool we, .bool sg, .bool sw, .int .i64 mu, .int .i64 di, .int .i64 aa, .int .i64 de, .int .i64 qu, .bool ul, .bool uh, .bool la, .int .i64 lo, .int .i64 hi, .int .i64 hy]] w fun e w' => e = .returned (.int .i64 25) ∧ Below w.heap.size w w' := by
  have h0 := heap_alloc_new w (.cells #[.string nm, .int .i64 un, .int .i64 ki, .int .i64 ad, .int .i64 ev, .bool we, .bool sg, .bool sw, .int .i64 mu, .int .i64 di, .int .i64 aa, .int .i64 de, .int .i64 qu, .bool ul, .bool uh, .bool la, .int .i64 lo, .int .i64 hi, .int .i64 hy] 51)
  have bel0 := bel_alloc w (.cells #[.string nm, .int .i64 un, .int .i64 ki, .int .i64 ad, .int .i64 ev, .bool we, .bool sg, .bool sw, .int .i64 mu, .int .i64 di, .int .i64 aa, .int .i64 de, .int .i64 qu, .bool ul, .bool uh, .bool la, .int .i64 lo, .int .i64 hi, .int .i64 hy] 51)
  have hld := ldTag_run (b := w.heap.size) (o := 0) rfl (rangeB (cs := [.string nm, .int .i64 un, .int .i64 ki, .int .i64 ad, .int .i64 ev, .bool we, .bool sg, .bool sw, .int .i64 mu, .int .i64 di, .int .i64 aa, .int .i64 de, .int .i64 qu, .bool ul, .bool uh, .bool la, .int .i64 lo, .int .i64 hi, .int .i64 hy]) h0)
  go_enter Tryz.func116, Tryz.ntmps116
  go_wp2_with fail
  refine (Check6_any we sg sw mu di aa _).mono ?_
  rintro e w1 ⟨rfl, b1⟩
  rw [S0]
  have h1 := keepB b1 h0
  have bel1 := bel0.trans (b1.mono bel0.size)
  clear hld b1 h0 bel0
  obtain ⟨c0, c1, c2, c3, c4, c5, c6, c7, c8, c9, c10, c11, c12, c13, c14, c15, c16, c17, c18⟩ := of19 nm un ki ad ev we sg sw mu di aa de qu ul uh la lo hi hy h1
  go_wp2
  go_ret
  exact ⟨rfl, bel1⟩
set_option maxHeartbeats 1000000 in
theorem cm_11we1 (nm : ByteArray) (un ad ev : Int) (sg sw : Bool) (mu di aa de qu : Int) (ul uh la : Bool) (lo hi hy : Int) (w : World) (S : chkS ⟨true, sg, sw, mu, di, aa⟩ = 0)  : Calls Tryz.prog 116 #[.agg #[.string nm, .int .i64 un, .int .i64 1, .int .i64 ad, .int .i64 ev, .bool true, .bool sg, .bool sw, .int .i64 mu, .int .i64 di, .int .i64 aa, .int .i64 de, .int .i64 qu, .bool ul, .bool uh, .bool la, .int .i64 lo, .int .i64 hi, .int .i64 hy]] w fun e w' => e = .returned (.int .i64 25) ∧ Below w.heap.size w w' := by
  have h0 := heap_alloc_new w (.cells #[.string nm, .int .i64 un, .int .i64 1, .int .i64 ad, .int .i64 ev, .bool true, .bool sg, .bool sw, .int .i64 mu, .int .i64 di, .int .i64 aa, .int .i64 de, .int .i64 qu, .bool ul, .bool uh, .bool la, .int .i64 lo, .int .i64 hi, .int .i64 hy] 51)
  have bel0 := bel_alloc w (.cells #[.string nm, .int .i64 un, .int .i64 1, .int .i64 ad, .int .i64 ev, .bool true, .bool sg, .bool sw, .int .i64 mu, .int .i64 di, .int .i64 aa, .int .i64 de, .int .i64 qu, .bool ul, .bool uh, .bool la, .int .i64 lo, .int .i64 hi, .int .i64 hy] 51)
  have hld := ldTag_run (b := w.heap.size) (o := 0) rfl (rangeB (cs := [.string nm, .int .i64 un, .int .i64 1, .int .i64 ad, .int .i64 ev, .bool true, .bool sg, .bool sw, .int .i64 mu, .int .i64 di, .int .i64 aa, .int .i64 de, .int .i64 qu, .bool ul, .bool uh, .bool la, .int .i64 lo, .int .i64 hi, .int .i64 hy]) h0)
  go_enter Tryz.func116, Tryz.ntmps116
  go_wp2_with fail
  refine (Check6_any true sg sw mu di aa _).mono ?_
  rintro e w1 ⟨rfl, b1⟩
  rw [S]
  have h1 := keepB b1 h0
  have bel1 := bel0.trans (b1.mono bel0.size)
  clear hld b1 h0 bel0
  obtain ⟨c0, c1, c2, c3, c4, c5, c6, c7, c8, c9, c10, c11, c12, c13, c14, c15, c16, c17, c18⟩ := of19 nm un 1 ad ev true sg sw mu di aa de qu ul uh la lo hi hy h1
  go_wp2
  go_ret
  exact ⟨rfl, bel1⟩
set_option maxHeartbeats 1000000 in
theorem cm_11sg1 (nm : ByteArray) (un ad ev : Int) (we sw : Bool) (mu di aa de qu : Int) (ul uh la : Bool) (lo hi hy : Int) (w : World) (S : chkS ⟨we, true, sw, mu, di, aa⟩ = 0)  : Calls Tryz.prog 116 #[.agg #[.string nm, .int .i64 un, .int .i64 1, .int .i64 ad, .int .i64 ev, .bool we, .bool true, .bool sw, .int .i64 mu, .int .i64 di, .int .i64 aa, .int .i64 de, .int .i64 qu, .bool ul, .bool uh, .bool la, .int .i64 lo, .int .i64 hi, .int .i64 hy]] w fun e w' => e = .returned (.int .i64 25) ∧ Below w.heap.size w w' := by
  have h0 := heap_alloc_new w (.cells #[.string nm, .int .i64 un, .int .i64 1, .int .i64 ad, .int .i64 ev, .bool we, .bool true, .bool sw, .int .i64 mu, .int .i64 di, .int .i64 aa, .int .i64 de, .int .i64 qu, .bool ul, .bool uh, .bool la, .int .i64 lo, .int .i64 hi, .int .i64 hy] 51)
  have bel0 := bel_alloc w (.cells #[.string nm, .int .i64 un, .int .i64 1, .int .i64 ad, .int .i64 ev, .bool we, .bool true, .bool sw, .int .i64 mu, .int .i64 di, .int .i64 aa, .int .i64 de, .int .i64 qu, .bool ul, .bool uh, .bool la, .int .i64 lo, .int .i64 hi, .int .i64 hy] 51)
  have hld := ldTag_run (b := w.heap.size) (o := 0) rfl (rangeB (cs := [.string nm, .int .i64 un, .int .i64 1, .int .i64 ad, .int .i64 ev, .bool we, .bool true, .bool sw, .int .i64 mu, .int .i64 di, .int .i64 aa, .int .i64 de, .int .i64 qu, .bool ul, .bool uh, .bool la, .int .i64 lo, .int .i64 hi, .int .i64 hy]) h0)
  go_enter Tryz.func116, Tryz.ntmps116
  go_wp2_with fail
  refine (Check6_any we true sw mu di aa _).mono ?_
  rintro e w1 ⟨rfl, b1⟩
  rw [S]
  have h1 := keepB b1 h0
  have bel1 := bel0.trans (b1.mono bel0.size)
  clear hld b1 h0 bel0
  obtain ⟨c0, c1, c2, c3, c4, c5, c6, c7, c8, c9, c10, c11, c12, c13, c14, c15, c16, c17, c18⟩ := of19 nm un 1 ad ev we true sw mu di aa de qu ul uh la lo hi hy h1
  go_wp2
  go_ret
  exact ⟨rfl, bel1⟩
set_option maxHeartbeats 1000000 in
theorem cm_11sw1 (nm : ByteArray) (un ad ev : Int) (we sg : Bool) (mu di aa de qu : Int) (ul uh la : Bool) (lo hi hy : Int) (w : World) (S : chkS ⟨we, sg, true, mu, di, aa⟩ = 0)  : Calls Tryz.prog 116 #[.agg #[.string nm, .int .i64 un, .int .i64 1, .int .i64 ad, .int .i64 ev, .bool we, .bool sg, .bool true, .int .i64 mu, .int .i64 di, .int .i64 aa, .int .i64 de, .int .i64 qu, .bool ul, .bool uh, .bool la, .int .i64 lo, .int .i64 hi, .int .i64 hy]] w fun e w' => e = .returned (.int .i64 25) ∧ Below w.heap.size w w' := by
  have h0 := heap_alloc_new w (.cells #[.string nm, .int .i64 un, .int .i64 1, .int .i64 ad, .int .i64 ev, .bool we, .bool sg, .bool true, .int .i64 mu, .int .i64 di, .int .i64 aa, .int .i64 de, .int .i64 qu, .bool ul, .bool uh, .bool la, .int .i64 lo, .int .i64 hi, .int .i64 hy] 51)
  have bel0 := bel_alloc w (.cells #[.string nm, .int .i64 un, .int .i64 1, .int .i64 ad, .int .i64 ev, .bool we, .bool sg, .bool true, .int .i64 mu, .int .i64 di, .int .i64 aa, .int .i64 de, .int .i64 qu, .bool ul, .bool uh, .bool la, .int .i64 lo, .int .i64 hi, .int .i64 hy] 51)
  have hld := ldTag_run (b := w.heap.size) (o := 0) rfl (rangeB (cs := [.string nm, .int .i64 un, .int .i64 1, .int .i64 ad, .int .i64 ev, .bool we, .bool sg, .bool true, .int .i64 mu, .int .i64 di, .int .i64 aa, .int .i64 de, .int .i64 qu, .bool ul, .bool uh, .bool la, .int .i64 lo, .int .i64 hi, .int .i64 hy]) h0)
  go_enter Tryz.func116, Tryz.ntmps116
  go_wp2_with fail
  refine (Check6_any we sg true mu di aa _).mono ?_
  rintro e w1 ⟨rfl, b1⟩
  rw [S]
  have h1 := keepB b1 h0
  have bel1 := bel0.trans (b1.mono bel0.size)
  clear hld b1 h0 bel0
  obtain ⟨c0, c1, c2, c3, c4, c5, c6, c7, c8, c9, c10, c11, c12, c13, c14, c15, c16, c17, c18⟩ := of19 nm un 1 ad ev we sg true mu di aa de qu ul uh la lo hi hy h1
  go_wp2
  go_ret
  exact ⟨rfl, bel1⟩
set_option maxHeartbeats 1000000 in
theorem cm_11mu1 (nm : ByteArray) (un ad ev : Int) (we sg sw : Bool) (mu di aa de qu : Int) (ul uh la : Bool) (lo hi hy : Int) (w : World) (S : chkS ⟨we, sg, sw, mu, di, aa⟩ = 0) (hx : mu ≠ 1) : Calls Tryz.prog 116 #[.agg #[.string nm, .int .i64 un, .int .i64 1, .int .i64 ad, .int .i64 ev, .bool we, .bool sg, .bool sw, .int .i64 mu, .int .i64 di, .int .i64 aa, .int .i64 de, .int .i64 qu, .bool ul, .bool uh, .bool la, .int .i64 lo, .int .i64 hi, .int .i64 hy]] w fun e w' => e = .returned (.int .i64 25) ∧ Below w.heap.size w w' := by
  have hx2 : (mu == 1) = false := beq_false_of_ne hx
  have h0 := heap_alloc_new w (.cells #[.string nm, .int .i64 un, .int .i64 1, .int .i64 ad, .int .i64 ev, .bool we, .bool sg, .bool sw, .int .i64 mu, .int .i64 di, .int .i64 aa, .int .i64 de, .int .i64 qu, .bool ul, .bool uh, .bool la, .int .i64 lo, .int .i64 hi, .int .i64 hy] 51)
  have bel0 := bel_alloc w (.cells #[.string nm, .int .i64 un, .int .i64 1, .int .i64 ad, .int .i64 ev, .bool we, .bool sg, .bool sw, .int .i64 mu, .int .i64 di, .int .i64 aa, .int .i64 de, .int .i64 qu, .bool ul, .bool uh, .bool la, .int .i64 lo, .int .i64 hi, .int .i64 hy] 51)
  have hld := ldTag_run (b := w.heap.size) (o := 0) rfl (rangeB (cs := [.string nm, .int .i64 un, .int .i64 1, .int .i64 ad, .int .i64 ev, .bool we, .bool sg, .bool sw, .int .i64 mu, .int .i64 di, .int .i64 aa, .int .i64 de, .int .i64 qu, .bool ul, .bool uh, .bool la, .int .i64 lo, .int .i64 hi, .int .i64 hy]) h0)
  go_enter Tryz.func116, Tryz.ntmps116
  go_wp2_with fail
  refine (Check6_any we sg sw mu di aa _).mono ?_
  rintro e w1 ⟨rfl, b1⟩
  rw [S]
  have h1 := keepB b1 h0
  have bel1 := bel0.trans (b1.mono bel0.size)
  clear hld b1 h0 bel0
  obtain ⟨c0, c1, c2, c3, c4, c5, c6, c7, c8, c9, c10, c11, c12, c13, c14, c15, c16, c17, c18⟩ := of19 nm un 1 ad ev we sg sw mu di aa de qu ul uh la lo hi hy h1
  go_wp2
  go_ret
  exact ⟨rfl, bel1⟩
set_option maxHeartbeats 1000000 in
theorem cm_11di1 (nm : ByteArray) (un ad ev : Int) (we sg sw : Bool) (mu di aa de qu : Int) (ul uh la : Bool) (lo hi hy : Int) (w : World) (S : chkS ⟨we, sg, sw, mu, di, aa⟩ = 0) (hx : di ≠ 1) : Calls Tryz.prog 116 #[.agg #[.string nm, .int .i64 un, .int .i64 1, .int .i64 ad, .int .i64 ev, .bool we, .bool sg, .bool sw, .int .i64 mu, .int .i64 di, .int .i64 aa, .int .i64 de, .int .i64 qu, .bool ul, .bool uh, .bool la, .int .i64 lo, .int .i64 hi, .int .i64 hy]] w fun e w' => e = .returned (.int .i64 25) ∧ Below w.heap.size w w' := by
  have hx2 : (di == 1) = false := beq_false_of_ne hx
  have h0 := heap_alloc_new w (.cells #[.string nm, .int .i64 un, .int .i64 1, .int .i64 ad, .int .i64 ev, .bool we, .bool sg, .bool sw, .int .i64 mu, .int .i64 di, .int .i64 aa, .int .i64 de, .int .i64 qu, .bool ul, .bool uh, .bool la, .int .i64 lo, .int .i64 hi, .int .i64 hy] 51)
  have bel0 := bel_alloc w (.cells #[.string nm, .int .i64 un, .int .i64 1, .int .i64 ad, .int .i64 ev, .bool we, .bool sg, .bool sw, .int .i64 mu, .int .i64 di, .int .i64 aa, .int .i64 de, .int .i64 qu, .bool ul, .bool uh, .bool la, .int .i64 lo, .int .i64 hi, .int .i64 hy] 51)
  have hld := ldTag_run (b := w.heap.size) (o := 0) rfl (rangeB (cs := [.string nm, .int .i64 un, .int .i64 1, .int .i64 ad, .int .i64 ev, .bool we, .bool sg, .bool sw, .int .i64 mu, .int .i64 di, .int .i64 aa, .int .i64 de, .int .i64 qu, .bool ul, .bool uh, .bool la, .int .i64 lo, .int .i64 hi, .int .i64 hy]) h0)
  go_enter Tryz.func116, Tryz.ntmps116
  go_wp2_with fail
  refine (Check6_any we sg sw mu di aa _).mono ?_
  rintro e w1 ⟨rfl, b1⟩
  rw [S]
  have h1 := keepB b1 h0
  have bel1 := bel0.trans (b1.mono bel0.size)
  clear hld b1 h0 bel0
  obtain ⟨c0, c1, c2, c3, c4, c5, c6, c7, c8, c9, c10, c11, c12, c13, c14, c15, c16, c17, c18⟩ := of19 nm un 1 ad ev we sg sw mu di aa de qu ul uh la lo hi hy h1
  go_wp2
  go_ret
  exact ⟨rfl, bel1⟩
set_option maxHeartbeats 1000000 in
theorem cm_11aa1 (nm : ByteArray) (un ad ev : Int) (we sg sw : Bool) (mu di aa de qu : Int) (ul uh la : Bool) (lo hi hy : Int) (w : World) (S : chkS ⟨we, sg, sw, mu, di, aa⟩ = 0) (hx : aa ≠ 0) : Calls Tryz.prog 116 #[.agg #[.string nm, .int .i64 un, .int .i64 1, .int .i64 ad, .int .i64 ev, .bool we, .bool sg, .bool sw, .int .i64 mu, .int .i64 di, .int .i64 aa, .int .i64 de, .int .i64 qu, .bool ul, .bool uh, .bool la, .int .i64 lo, .int .i64 hi, .int .i64 hy]] w fun e w' => e = .returned (.int .i64 25) ∧ Below w.heap.size w w' := by
  have hx2 : (aa == 0) = false := beq_false_of_ne hx
  have h0 := heap_alloc_new w (.cells #[.string nm, .int .i64 un, .int .i64 1, .int .i64 ad, .int .i64 ev, .bool we, .bool sg, .bool sw, .int .i64 mu, .int .i64 di, .int .i64 aa, .int .i64 de, .int .i64 qu, .bool ul, .bool uh, .bool la, .int .i64 lo, .int .i64 hi, .int .i64 hy] 51)
  have bel0 := bel_alloc w (.cells #[.string nm, .int .i64 un, .int .i64 1, .int .i64 ad, .int .i64 ev, .bool we, .bool sg, .bool sw, .int .i64 mu, .int .i64 di, .int .i64 aa, .int .i64 de, .int .i64 qu, .bool ul, .bool uh, .bool la, .int .i64 lo, .int .i64 hi, .int .i64 hy] 51)
  have hld := ldTag_run (b := w.heap.size) (o := 0) rfl (rangeB (cs := [.string nm, .int .i64 un, .int .i64 1, .int .i64 ad, .int .i64 ev, .bool we, .bool sg, .bool sw, .int .i64 mu, .int .i64 di, .int .i64 aa, .int .i64 de, .int .i64 qu, .bool ul, .bool uh, .bool la, .int .i64 lo, .int .i64 hi, .int .i64 hy]) h0)
  go_enter Tryz.func116, Tryz.ntmps116
  go_wp2_with fail
  refine (Check6_any we sg sw mu di aa _).mono ?_
  rintro e w1 ⟨rfl, b1⟩
  rw [S]
  have h1 := keepB b1 h0
  have bel1 := bel0.trans (b1.mono bel0.size)
  clear hld b1 h0 bel0
  obtain ⟨c0, c1, c2, c3, c4, c5, c6, c7, c8, c9, c10, c11, c12, c13, c14, c15, c16, c17, c18⟩ := of19 nm un 1 ad ev we sg sw mu di aa de qu ul uh la lo hi hy h1
  go_wp2
  go_ret
  exact ⟨rfl, bel1⟩
set_option maxHeartbeats 1000000 in
theorem cm_11we2 (nm : ByteArray) (un ad ev : Int) (sg sw : Bool) (mu di aa de qu : Int) (ul uh la : Bool) (lo hi hy : Int) (w : World) (S : chkS ⟨true, sg, sw, mu, di, aa⟩ = 0)  : Calls Tryz.prog 116 #[.agg #[.string nm, .int .i64 un, .int .i64 2, .int .i64 ad, .int .i64 ev, .bool true, .bool sg, .bool sw, .int .i64 mu, .int .i64 di, .int .i64 aa, .int .i64 de, .int .i64 qu, .bool ul, .bool uh, .bool la, .int .i64 lo, .int .i64 hi, .int .i64 hy]] w fun e w' => e = .returned (.int .i64 25) ∧ Below w.heap.size w w' := by
  have h0 := heap_alloc_new w (.cells #[.string nm, .int .i64 un, .int .i64 2, .int .i64 ad, .int .i64 ev, .bool true, .bool sg, .bool sw, .int .i64 mu, .int .i64 di, .int .i64 aa, .int .i64 de, .int .i64 qu, .bool ul, .bool uh, .bool la, .int .i64 lo, .int .i64 hi, .int .i64 hy] 51)
  have bel0 := bel_alloc w (.cells #[.string nm, .int .i64 un, .int .i64 2, .int .i64 ad, .int .i64 ev, .bool true, .bool sg, .bool sw, .int .i64 mu, .int .i64 di, .int .i64 aa, .int .i64 de, .int .i64 qu, .bool ul, .bool uh, .bool la, .int .i64 lo, .int .i64 hi, .int .i64 hy] 51)
  have hld := ldTag_run (b := w.heap.size) (o := 0) rfl (rangeB (cs := [.string nm, .int .i64 un, .int .i64 2, .int .i64 ad, .int .i64 ev, .bool true, .bool sg, .bool sw, .int .i64 mu, .int .i64 di, .int .i64 aa, .int .i64 de, .int .i64 qu, .bool ul, .bool uh, .bool la, .int .i64 lo, .int .i64 hi, .int .i64 hy]) h0)
  go_enter Tryz.func116, Tryz.ntmps116
  go_wp2_with fail
  refine (Check6_any true sg sw mu di aa _).mono ?_
  rintro e w1 ⟨rfl, b1⟩
  rw [S]
  have h1 := keepB b1 h0
  have bel1 := bel0.trans (b1.mono bel0.size)
  clear hld b1 h0 bel0
  obtain ⟨c0, c1, c2, c3, c4, c5, c6, c7, c8, c9, c10, c11, c12, c13, c14, c15, c16, c17, c18⟩ := of19 nm un 2 ad ev true sg sw mu di aa de qu ul uh la lo hi hy h1
  go_wp2
  go_ret
  exact ⟨rfl, bel1⟩
set_option maxHeartbeats 1000000 in
theorem cm_11sg2 (nm : ByteArray) (un ad ev : Int) (we sw : Bool) (mu di aa de qu : Int) (ul uh la : Bool) (lo hi hy : Int) (w : World) (S : chkS ⟨we, true, sw, mu, di, aa⟩ = 0)  : Calls Tryz.prog 116 #[.agg #[.string nm, .int .i64 un, .int .i64 2, .int .i64 ad, .int .i64 ev, .bool we, .bool true, .bool sw, .int .i64 mu, .int .i64 di, .int .i64 aa, .int .i64 de, .int .i64 qu, .bool ul, .bool uh, .bool la, .int .i64 lo, .int .i64 hi, .int .i64 hy]] w fun e w' => e = .returned (.int .i64 25) ∧ Below w.heap.size w w' := by
  have h0 := heap_alloc_new w (.cells #[.string nm, .int .i64 un, .int .i64 2, .int .i64 ad, .int .i64 ev, .bool we, .bool true, .bool sw, .int .i64 mu, .int .i64 di, .int .i64 aa, .int .i64 de, .int .i64 qu, .bool ul, .bool uh, .bool la, .int .i64 lo, .int .i64 hi, .int .i64 hy] 51)
  have bel0 := bel_alloc w (.cells #[.string nm, .int .i64 un, .int .i64 2, .int .i64 ad, .int .i64 ev, .bool we, .bool true, .bool sw, .int .i64 mu, .int .i64 di, .int .i64 aa, .int .i64 de, .int .i64 qu, .bool ul, .bool uh, .bool la, .int .i64 lo, .int .i64 hi, .int .i64 hy] 51)
  have hld := ldTag_run (b := w.heap.size) (o := 0) rfl (rangeB (cs := [.string nm, .int .i64 un, .int .i64 2, .int .i64 ad, .int .i64 ev, .bool we, .bool true, .bool sw, .int .i64 mu, .int .i64 di, .int .i64 aa, .int .i64 de, .int .i64 qu, .bool ul, .bool uh, .bool la, .int .i64 lo, .int .i64 hi, .int .i64 hy]) h0)
  go_enter Tryz.func116, Tryz.ntmps116
  go_wp2_with fail
  refine (Check6_any we true sw mu di aa _).mono ?_
  rintro e w1 ⟨rfl, b1⟩
  rw [S]
  have h1 := keepB b1 h0
  have bel1 := bel0.trans (b1.mono bel0.size)
  clear hld b1 h0 bel0
  obtain ⟨c0, c1, c2, c3, c4, c5, c6, c7, c8, c9, c10, c11, c12, c13, c14, c15, c16, c17, c18⟩ := of19 nm un 2 ad ev we true sw mu di aa de qu ul uh la lo hi hy h1
  go_wp2
  go_ret
  exact ⟨rfl, bel1⟩
set_option maxHeartbeats 1000000 in
theorem cm_11sw2 (nm : ByteArray) (un ad ev : Int) (we sg : Bool) (mu di aa de qu : Int) (ul uh la : Bool) (lo hi hy : Int) (w : World) (S : chkS ⟨we, sg, true, mu, di, aa⟩ = 0)  : Calls Tryz.prog 116 #[.agg #[.string nm, .int .i64 un, .int .i64 2, .int .i64 ad, .int .i64 ev, .bool we, .bool sg, .bool true, .int .i64 mu, .int .i64 di, .int .i64 aa, .int .i64 de, .int .i64 qu, .bool ul, .bool uh, .bool la, .int .i64 lo, .int .i64 hi, .int .i64 hy]] w fun e w' => e = .returned (.int .i64 25) ∧ Below w.heap.size w w' := by
  have h0 := heap_alloc_new w (.cells #[.string nm, .int .i64 un, .int .i64 2, .int .i64 ad, .int .i64 ev, .bool we, .bool sg, .bool true, .int .i64 mu, .int .i64 di, .int .i64 aa, .int .i64 de, .int .i64 qu, .bool ul, .bool uh, .bool la, .int .i64 lo, .int .i64 hi, .int .i64 hy] 51)
  have bel0 := bel_alloc w (.cells #[.string nm, .int .i64 un, .int .i64 2, .int .i64 ad, .int .i64 ev, .bool we, .bool sg, .bool true, .int .i64 mu, .int .i64 di, .int .i64 aa, .int .i64 de, .int .i64 qu, .bool ul, .bool uh, .bool la, .int .i64 lo, .int .i64 hi, .int .i64 hy] 51)
  have hld := ldTag_run (b := w.heap.size) (o := 0) rfl (rangeB (cs := [.string nm, .int .i64 un, .int .i64 2, .int .i64 ad, .int .i64 ev, .bool we, .bool sg, .bool true, .int .i64 mu, .int .i64 di, .int .i64 aa, .int .i64 de, .int .i64 qu, .bool ul, .bool uh, .bool la, .int .i64 lo, .int .i64 hi, .int .i64 hy]) h0)
  go_enter Tryz.func116, Tryz.ntmps116
  go_wp2_with fail
  refine (Check6_any we sg true mu di aa _).mono ?_
  rintro e w1 ⟨rfl, b1⟩
  rw [S]
  have h1 := keepB b1 h0
  have bel1 := bel0.trans (b1.mono bel0.size)
  clear hld b1 h0 bel0
  obtain ⟨c0, c1, c2, c3, c4, c5, c6, c7, c8, c9, c10, c11, c12, c13, c14, c15, c16, c17, c18⟩ := of19 nm un 2 ad ev we sg true mu di aa de qu ul uh la lo hi hy h1
  go_wp2
  go_ret
  exact ⟨rfl, bel1⟩
set_option maxHeartbeats 1000000 in
theorem cm_11mu2 (nm : ByteArray) (un ad ev : Int) (we sg sw : Bool) (mu di aa de qu : Int) (ul uh la : Bool) (lo hi hy : Int) (w : World) (S : chkS ⟨we, sg, sw, mu, di, aa⟩ = 0) (hx : mu ≠ 1) : Calls Tryz.prog 116 #[.agg #[.string nm, .int .i64 un, .int .i64 2, .int .i64 ad, .int .i64 ev, .bool we, .bool sg, .bool sw, .int .i64 mu, .int .i64 di, .int .i64 aa, .int .i64 de, .int .i64 qu, .bool ul, .bool uh, .bool la, .int .i64 lo, .int .i64 hi, .int .i64 hy]] w fun e w' => e = .returned (.int .i64 25) ∧ Below w.heap.size w w' := by
  have hx2 : (mu == 1) = false := beq_false_of_ne hx
  have h0 := heap_alloc_new w (.cells #[.string nm, .int .i64 un, .int .i64 2, .int .i64 ad, .int .i64 ev, .bool we, .bool sg, .bool sw, .int .i64 mu, .int .i64 di, .int .i64 aa, .int .i64 de, .int .i64 qu, .bool ul, .bool uh, .bool la, .int .i64 lo, .int .i64 hi, .int .i64 hy] 51)
  have bel0 := bel_alloc w (.cells #[.string nm, .int .i64 un, .int .i64 2, .int .i64 ad, .int .i64 ev, .bool we, .bool sg, .bool sw, .int .i64 mu, .int .i64 di, .int .i64 aa, .int .i64 de, .int .i64 qu, .bool ul, .bool uh, .bool la, .int .i64 lo, .int .i64 hi, .int .i64 hy] 51)
  have hld := ldTag_run (b := w.heap.size) (o := 0) rfl (rangeB (cs := [.string nm, .int .i64 un, .int .i64 2, .int .i64 ad, .int .i64 ev, .bool we, .bool sg, .bool sw, .int .i64 mu, .int .i64 di, .int .i64 aa, .int .i64 de, .int .i64 qu, .bool ul, .bool uh, .bool la, .int .i64 lo, .int .i64 hi, .int .i64 hy]) h0)
  go_enter Tryz.func116, Tryz.ntmps116
  go_wp2_with fail
  refine (Check6_any we sg sw mu di aa _).mono ?_
  rintro e w1 ⟨rfl, b1⟩
  rw [S]
  have h1 := keepB b1 h0
  have bel1 := bel0.trans (b1.mono bel0.size)
  clear hld b1 h0 bel0
  obtain ⟨c0, c1, c2, c3, c4, c5, c6, c7, c8, c9, c10, c11, c12, c13, c14, c15, c16, c17, c18⟩ := of19 nm un 2 ad ev we sg sw mu di aa de qu ul uh la lo hi hy h1
  go_wp2
  go_ret
  exact ⟨rfl, bel1⟩
set_option maxHeartbeats 1000000 in
theorem cm_11di2 (nm : ByteArray) (un ad ev : Int) (we sg sw : Bool) (mu di aa de qu : Int) (ul uh la : Bool) (lo hi hy : Int) (w : World) (S : chkS ⟨we, sg, sw, mu, di, aa⟩ = 0) (hx : di ≠ 1) : Calls Tryz.prog 116 #[.agg #[.string nm, .int .i64 un, .int .i64 2, .int .i64 ad, .int .i64 ev, .bool we, .bool sg, .bool sw, .int .i64 mu, .int .i64 di, .int .i64 aa, .int .i64 de, .int .i64 qu, .bool ul, .bool uh, .bool la, .int .i64 lo, .int .i64 hi, .int .i64 hy]] w fun e w' => e = .returned (.int .i64 25) ∧ Below w.heap.size w w' := by
  have hx2 : (di == 1) = false := beq_false_of_ne hx
  have h0 := heap_alloc_new w (.cells #[.string nm, .int .i64 un, .int .i64 2, .int .i64 ad, .int .i64 ev, .bool we, .bool sg, .bool sw, .int .i64 mu, .int .i64 di, .int .i64 aa, .int .i64 de, .int .i64 qu, .bool ul, .bool uh, .bool la, .int .i64 lo, .int .i64 hi, .int .i64 hy] 51)
  have bel0 := bel_alloc w (.cells #[.string nm, .int .i64 un, .int .i64 2, .int .i64 ad, .int .i64 ev, .bool we, .bool sg, .bool sw, .int .i64 mu, .int .i64 di, .int .i64 aa, .int .i64 de, .int .i64 qu, .bool ul, .bool uh, .bool la, .int .i64 lo, .int .i64 hi, .int .i64 hy] 51)
  have hld := ldTag_run (b := w.heap.size) (o := 0) rfl (rangeB (cs := [.string nm, .int .i64 un, .int .i64 2, .int .i64 ad, .int .i64 ev, .bool we, .bool sg, .bool sw, .int .i64 mu, .int .i64 di, .int .i64 aa, .int .i64 de, .int .i64 qu, .bool ul, .bool uh, .bool la, .int .i64 lo, .int .i64 hi, .int .i64 hy]) h0)
  go_enter Tryz.func116, Tryz.ntmps116
  go_wp2_with fail
  refine (Check6_any we sg sw mu di aa _).mono ?_
  rintro e w1 ⟨rfl, b1⟩
  rw [S]
  have h1 := keepB b1 h0
  have bel1 := bel0.trans (b1.mono bel0.size)
  clear hld b1 h0 bel0
  obtain ⟨c0, c1, c2, c3, c4, c5, c6, c7, c8, c9, c10, c11, c12, c13, c14, c15, c16, c17, c18⟩ := of19 nm un 2 ad ev we sg sw mu di aa de qu ul uh la lo hi hy h1
  go_wp2
  go_ret
  exact ⟨rfl, bel1⟩
set_option maxHeartbeats 1000000 in
theorem cm_11aa2 (nm : ByteArray) (un ad ev : Int) (we sg sw : Bool) (mu di aa de qu : Int) (ul uh la : Bool) (lo hi hy : Int) (w : World) (S : chkS ⟨we, sg, sw, mu, di, aa⟩ = 0) (hx : aa ≠ 0) : Calls Tryz.prog 116 #[.agg #[.string nm, .int .i64 un, .int .i64 2, .int .i64 ad, .int .i64 ev, .bool we, .bool sg, .bool sw, .int .i64 mu, .int .i64 di, .int .i64 aa, .int .i64 de, .int .i64 qu, .bool ul, .bool uh, .bool la, .int .i64 lo, .int .i64 hi, .int .i64 hy]] w fun e w' => e = .returned (.int .i64 25) ∧ Below w.heap.size w w' := by
  have hx2 : (aa == 0) = false := beq_false_of_ne hx
  have h0 := heap_alloc_new w (.cells #[.string nm, .int .i64 un, .int .i64 2, .int .i64 ad, .int .i64 ev, .bool we, .bool sg, .bool sw, .int .i64 mu, .int .i64 di, .int .i64 aa, .int .i64 de, .int .i64 qu, .bool ul, .bool uh, .bool la, .int .i64 lo, .int .i64 hi, .int .i64 hy] 51)
  have bel0 := bel_alloc w (.cells #[.string nm, .int .i64 un, .int .i64 2, .int .i64 ad, .int .i64 ev, .bool we, .bool sg, .bool sw, .int .i64 mu, .int .i64 di, .int .i64 aa, .int .i64 de, .int .i64 qu, .bool ul, .bool uh, .bool la, .int .i64 lo, .int .i64 hi, .int .i64 hy] 51)
  have hld := ldTag_run (b := w.heap.size) (o := 0) rfl (rangeB (cs := [.string nm, .int .i64 un, .int .i64 2, .int .i64 ad, .int .i64 ev, .bool we, .bool sg, .bool sw, .int .i64 mu, .int .i64 di, .int .i64 aa, .int .i64 de, .int .i64 qu, .bool ul, .bool uh, .bool la, .int .i64 lo, .int .i64 hi, .int .i64 hy]) h0)
  go_enter Tryz.func116, Tryz.ntmps116
  go_wp2_with fail
  refine (Check6_any we sg sw mu di aa _).mono ?_
  rintro e w1 ⟨rfl, b1⟩
  rw [S]
  have h1 := keepB b1 h0
  have bel1 := bel0.trans (b1.mono bel0.size)
  clear hld b1 h0 bel0
  obtain ⟨c0, c1, c2, c3, c4, c5, c6, c7, c8, c9, c10, c11, c12, c13, c14, c15, c16, c17, c18⟩ := of19 nm un 2 ad ev we sg sw mu di aa de qu ul uh la lo hi hy h1
  go_wp2
  go_ret
  exact ⟨rfl, bel1⟩
set_option maxHeartbeats 1000000 in
theorem cm_121 (nm : ByteArray) (un ad ev : Int) (de qu : Int) (ul uh la : Bool) (lo hi hy : Int) (w : World) (S : chkS ⟨false, false, false, 1, 1, 0⟩ = 0) (B0 : chkB de qu = 26) : Calls Tryz.prog 116 #[.agg #[.string nm, .int .i64 un, .int .i64 1, .int .i64 ad, .int .i64 ev, .bool false, .bool false, .bool false, .int .i64 1, .int .i64 1, .int .i64 0, .int .i64 de, .int .i64 qu, .bool ul, .bool uh, .bool la, .int .i64 lo, .int .i64 hi, .int .i64 hy]] w fun e w' => e = .returned (.int .i64 26) ∧ Below w.heap.size w w' := by
  have h0 := heap_alloc_new w (.cells #[.string nm, .int .i64 un, .int .i64 1, .int .i64 ad, .int .i64 ev, .bool false, .bool false, .bool false, .int .i64 1, .int .i64 1, .int .i64 0, .int .i64 de, .int .i64 qu, .bool ul, .bool uh, .bool la, .int .i64 lo, .int .i64 hi, .int .i64 hy] 51)
  have bel0 := bel_alloc w (.cells #[.string nm, .int .i64 un, .int .i64 1, .int .i64 ad, .int .i64 ev, .bool false, .bool false, .bool false, .int .i64 1, .int .i64 1, .int .i64 0, .int .i64 de, .int .i64 qu, .bool ul, .bool uh, .bool la, .int .i64 lo, .int .i64 hi, .int .i64 hy] 51)
  have hld := ldTag_run (b := w.heap.size) (o := 0) rfl (rangeB (cs := [.string nm, .int .i64 un, .int .i64 1, .int .i64 ad, .int .i64 ev, .bool false, .bool false, .bool false, .int .i64 1, .int .i64 1, .int .i64 0, .int .i64 de, .int .i64 qu, .bool ul, .bool uh, .bool la, .int .i64 lo, .int .i64 hi, .int .i64 hy]) h0)
  go_enter Tryz.func116, Tryz.ntmps116
  go_wp2_with fail
  refine (Check6_any false false false 1 1 0 _).mono ?_
  rintro e w1 ⟨rfl, b1⟩
  rw [S]
  have h1 := keepB b1 h0
  have bel1 := bel0.trans (b1.mono bel0.size)
  clear hld b1 h0 bel0
  obtain ⟨c0, c1, c2, c3, c4, c5, c6, c7, c8, c9, c10, c11, c12, c13, c14, c15, c16, c17, c18⟩ := of19 nm un 1 ad ev false false false 1 1 0 de qu ul uh la lo hi hy h1
  go_wp2_with fail
  refine (Check7_any de qu _).mono ?_
  rintro e w2 ⟨rfl, b2⟩
  rw [B0]
  have h2 := keepB b2 h1
  have bel2 := bel1.trans (b2.mono bel1.size)
  clear c0 c1 c2 c3 c4 c5 c6 c7 c8 c9 c10 c11 c12 c13 c14 c15 c16 c17 c18 b2 h1 bel1
  obtain ⟨c0, c1, c2, c3, c4, c5, c6, c7, c8, c9, c10, c11, c12, c13, c14, c15, c16, c17, c18⟩ := of19 nm un 1 ad ev false false false 1 1 0 de qu ul uh la lo hi hy h2
  go_wp2
  go_ret
  exact ⟨rfl, bel2⟩
set_option maxHeartbeats 1000000 in
theorem cm_131 (nm : ByteArray) (un ad ev : Int) (de qu : Int) (ul uh la : Bool) (lo hi hy : Int) (w : World) (S : chkS ⟨false, false, false, 1, 1, 0⟩ = 0) (B0 : chkB de qu = 0) : Calls Tryz.prog 116 #[.agg #[.string nm, .int .i64 un, .int .i64 1, .int .i64 ad, .int .i64 ev, .bool false, .bool false, .bool false, .int .i64 1, .int .i64 1, .int .i64 0, .int .i64 de, .int .i64 qu, .bool ul, .bool uh, .bool la, .int .i64 lo, .int .i64 hi, .int .i64 hy]] w fun e w' => e = .returned (.int .i64 (chkL ⟨ul, uh, la, lo, hi, hy⟩)) ∧ Below w.heap.size w w' := by
  have h0 := heap_alloc_new w (.cells #[.string nm, .int .i64 un, .int .i64 1, .int .i64 ad, .int .i64 ev, .bool false, .bool false, .bool false, .int .i64 1, .int .i64 1, .int .i64 0, .int .i64 de, .int .i64 qu, .bool ul, .bool uh, .bool la, .int .i64 lo, .int .i64 hi, .int .i64 hy] 51)
  have bel0 := bel_alloc w (.cells #[.string nm, .int .i64 un, .int .i64 1, .int .i64 ad, .int .i64 ev, .bool false, .bool false, .bool false, .int .i64 1, .int .i64 1, .int .i64 0, .int .i64 de, .int .i64 qu, .bool ul, .bool uh, .bool la, .int .i64 lo, .int .i64 hi, .int .i64 hy] 51)
  have hld := ldTag_run (b := w.heap.size) (o := 0) rfl (rangeB (cs := [.string nm, .int .i64 un, .int .i64 1, .int .i64 ad, .int .i64 ev, .bool false, .bool false, .bool false, .int .i64 1, .int .i64 1, .int .i64 0, .int .i64 de, .int .i64 qu, .bool ul, .bool uh, .bool la, .int .i64 lo, .int .i64 hi, .int .i64 hy]) h0)
  go_enter Tryz.func116, Tryz.ntmps116
  go_wp2_with fail
  refine (Check6_any false false false 1 1 0 _).mono ?_
  rintro e w1 ⟨rfl, b1⟩
  rw [S]
  have h1 := keepB b1 h0
  have bel1 := bel0.trans (b1.mono bel0.size)
  clear hld b1 h0 bel0
  obtain ⟨c0, c1, c2, c3, c4, c5, c6, c7, c8, c9, c10, c11, c12, c13, c14, c15, c16, c17, c18⟩ := of19 nm un 1 ad ev false false false 1 1 0 de qu ul uh la lo hi hy h1
  go_wp2_with fail
  refine (Check7_any de qu _).mono ?_
  rintro e w2 ⟨rfl, b2⟩
  rw [B0]
  have h2 := keepB b2 h1
  have bel2 := bel1.trans (b2.mono bel1.size)
  clear c0 c1 c2 c3 c4 c5 c6 c7 c8 c9 c10 c11 c12 c13 c14 c15 c16 c17 c18 b2 h1 bel1
  obtain ⟨c0, c1, c2, c3, c4, c5, c6, c7, c8, c9, c10, c11, c12, c13, c14, c15, c16, c17, c18⟩ := of19 nm un 1 ad ev false false false 1 1 0 de qu ul uh la lo hi hy h2
  go_wp2_with fail
  refine (Check8_any ul uh la lo hi hy _).mono ?_
  rintro e w3 ⟨rfl, b3⟩
  go_wp2
  go_ret
  exact ⟨rfl, bel2.trans (b3.mono bel2.size)⟩
set_option maxHeartbeats 1000000 in
theorem cm_122 (nm : ByteArray) (un ad ev : Int) (de qu : Int) (ul uh la : Bool) (lo hi hy : Int) (w : World) (S : chkS ⟨false, false, false, 1, 1, 0⟩ = 0) (B0 : chkB de qu = 26) : Calls Tryz.prog 116 #[.agg #[.string nm, .int .i64 un, .int .i64 2, .int .i64 ad, .int .i64 ev, .bool false, .bool false, .bool false, .int .i64 1, .int .i64 1, .int .i64 0, .int .i64 de, .int .i64 qu, .bool ul, .bool uh, .bool la, .int .i64 lo, .int .i64 hi, .int .i64 hy]] w fun e w' => e = .returned (.int .i64 26) ∧ Below w.heap.size w w' := by
  have h0 := heap_alloc_new w (.cells #[.string nm, .int .i64 un, .int .i64 2, .int .i64 ad, .int .i64 ev, .bool false, .bool false, .bool false, .int .i64 1, .int .i64 1, .int .i64 0, .int .i64 de, .int .i64 qu, .bool ul, .bool uh, .bool la, .int .i64 lo, .int .i64 hi, .int .i64 hy] 51)
  have bel0 := bel_alloc w (.cells #[.string nm, .int .i64 un, .int .i64 2, .int .i64 ad, .int .i64 ev, .bool false, .bool false, .bool false, .int .i64 1, .int .i64 1, .int .i64 0, .int .i64 de, .int .i64 qu, .bool ul, .bool uh, .bool la, .int .i64 lo, .int .i64 hi, .int .i64 hy] 51)
  have hld := ldTag_run (b := w.heap.size) (o := 0) rfl (rangeB (cs := [.string nm, .int .i64 un, .int .i64 2, .int .i64 ad, .int .i64 ev, .bool false, .bool false, .bool false, .int .i64 1, .int .i64 1, .int .i64 0, .int .i64 de, .int .i64 qu, .bool ul, .bool uh, .bool la, .int .i64 lo, .int .i64 hi, .int .i64 hy]) h0)
  go_enter Tryz.func116, Tryz.ntmps116
  go_wp2_with fail
  refine (Check6_any false false false 1 1 0 _).mono ?_
  rintro e w1 ⟨rfl, b1⟩
  rw [S]
  have h1 := keepB b1 h0
  have bel1 := bel0.trans (b1.mono bel0.size)
  clear hld b1 h0 bel0
  obtain ⟨c0, c1, c2, c3, c4, c5, c6, c7, c8, c9, c10, c11, c12, c13, c14, c15, c16, c17, c18⟩ := of19 nm un 2 ad ev false false false 1 1 0 de qu ul uh la lo hi hy h1
  go_wp2_with fail
  refine (Check7_any de qu _).mono ?_
  rintro e w2 ⟨rfl, b2⟩
  rw [B0]
  have h2 := keepB b2 h1
  have bel2 := bel1.trans (b2.mono bel1.size)
  clear c0 c1 c2 c3 c4 c5 c6 c7 c8 c9 c10 c11 c12 c13 c14 c15 c16 c17 c18 b2 h1 bel1
  obtain ⟨c0, c1, c2, c3, c4, c5, c6, c7, c8, c9, c10, c11, c12, c13, c14, c15, c16, c17, c18⟩ := of19 nm un 2 ad ev false false false 1 1 0 de qu ul uh la lo hi hy h2
  go_wp2
  go_ret
  exact ⟨rfl, bel2⟩
set_option maxHeartbeats 1000000 in
theorem cm_132 (nm : ByteArray) (un ad ev : Int) (de qu : Int) (ul uh la : Bool) (lo hi hy : Int) (w : World) (S : chkS ⟨false, false, false, 1, 1, 0⟩ = 0) (B0 : chkB de qu = 0) : Calls Tryz.prog 116 #[.agg #[.string nm, .int .i64 un, .int .i64 2, .int .i64 ad, .int .i64 ev, .bool false, .bool false, .bool false, .int .i64 1, .int .i64 1, .int .i64 0, .int .i64 de, .int .i64 qu, .bool ul, .bool uh, .bool la, .int .i64 lo, .int .i64 hi, .int .i64 hy]] w fun e w' => e = .returned (.int .i64 (chkL ⟨ul, uh, la, lo, hi, hy⟩)) ∧ Below w.heap.size w w' := by
  have h0 := heap_alloc_new w (.cells #[.string nm, .int .i64 un, .int .i64 2, .int .i64 ad, .int .i64 ev, .bool false, .bool false, .bool false, .int .i64 1, .int .i64 1, .int .i64 0, .int .i64 de, .int .i64 qu, .bool ul, .bool uh, .bool la, .int .i64 lo, .int .i64 hi, .int .i64 hy] 51)
  have bel0 := bel_alloc w (.cells #[.string nm, .int .i64 un, .int .i64 2, .int .i64 ad, .int .i64 ev, .bool false, .bool false, .bool false, .int .i64 1, .int .i64 1, .int .i64 0, .int .i64 de, .int .i64 qu, .bool ul, .bool uh, .bool la, .int .i64 lo, .int .i64 hi, .int .i64 hy] 51)
  have hld := ldTag_run (b := w.heap.size) (o := 0) rfl (rangeB (cs := [.string nm, .int .i64 un, .int .i64 2, .int .i64 ad, .int .i64 ev, .bool false, .bool false, .bool false, .int .i64 1, .int .i64 1, .int .i64 0, .int .i64 de, .int .i64 qu, .bool ul, .bool uh, .bool la, .int .i64 lo, .int .i64 hi, .int .i64 hy]) h0)
  go_enter Tryz.func116, Tryz.ntmps116
  go_wp2_with fail
  refine (Check6_any false false false 1 1 0 _).mono ?_
  rintro e w1 ⟨rfl, b1⟩
  rw [S]
  have h1 := keepB b1 h0
  have bel1 := bel0.trans (b1.mono bel0.size)
  clear hld b1 h0 bel0
  obtain ⟨c0, c1, c2, c3, c4, c5, c6, c7, c8, c9, c10, c11, c12, c13, c14, c15, c16, c17, c18⟩ := of19 nm un 2 ad ev false false false 1 1 0 de qu ul uh la lo hi hy h1
  go_wp2_with fail
  refine (Check7_any de qu _).mono ?_
  rintro e w2 ⟨rfl, b2⟩
  rw [B0]
  have h2 := keepB b2 h1
  have bel2 := bel1.trans (b2.mono bel1.size)
  clear c0 c1 c2 c3 c4 c5 c6 c7 c8 c9 c10 c11 c12 c13 c14 c15 c16 c17 c18 b2 h1 bel1
  obtain ⟨c0, c1, c2, c3, c4, c5, c6, c7, c8, c9, c10, c11, c12, c13, c14, c15, c16, c17, c18⟩ := of19 nm un 2 ad ev false false false 1 1 0 de qu ul uh la lo hi hy h2
  go_wp2_with fail
  refine (Check8_any ul uh la lo hi hy _).mono ?_
  rintro e w3 ⟨rfl, b3⟩
  go_wp2
  go_ret
  exact ⟨rfl, bel2.trans (b3.mono bel2.size)⟩
set_option maxHeartbeats 1000000 in
theorem cm_123 (nm : ByteArray) (un ad ev : Int) (we sg sw : Bool) (mu di aa de qu : Int) (ul uh la : Bool) (lo hi hy : Int) (w : World) (S : chkS ⟨we, sg, sw, mu, di, aa⟩ = 0) (B0 : chkB de qu = 26) : Calls Tryz.prog 116 #[.agg #[.string nm, .int .i64 un, .int .i64 3, .int .i64 ad, .int .i64 ev, .bool we, .bool sg, .bool sw, .int .i64 mu, .int .i64 di, .int .i64 aa, .int .i64 de, .int .i64 qu, .bool ul, .bool uh, .bool la, .int .i64 lo, .int .i64 hi, .int .i64 hy]] w fun e w' => e = .returned (.int .i64 26) ∧ Below w.heap.size w w' := by
  have h0 := heap_alloc_new w (.cells #[.string nm, .int .i64 un, .int .i64 3, .int .i64 ad, .int .i64 ev, .bool we, .bool sg, .bool sw, .int .i64 mu, .int .i64 di, .int .i64 aa, .int .i64 de, .int .i64 qu, .bool ul, .bool uh, .bool la, .int .i64 lo, .int .i64 hi, .int .i64 hy] 51)
  have bel0 := bel_alloc w (.cells #[.string nm, .int .i64 un, .int .i64 3, .int .i64 ad, .int .i64 ev, .bool we, .bool sg, .bool sw, .int .i64 mu, .int .i64 di, .int .i64 aa, .int .i64 de, .int .i64 qu, .bool ul, .bool uh, .bool la, .int .i64 lo, .int .i64 hi, .int .i64 hy] 51)
  have hld := ldTag_run (b := w.heap.size) (o := 0) rfl (rangeB (cs := [.string nm, .int .i64 un, .int .i64 3, .int .i64 ad, .int .i64 ev, .bool we, .bool sg, .bool sw, .int .i64 mu, .int .i64 di, .int .i64 aa, .int .i64 de, .int .i64 qu, .bool ul, .bool uh, .bool la, .int .i64 lo, .int .i64 hi, .int .i64 hy]) h0)
  go_enter Tryz.func116, Tryz.ntmps116
  go_wp2_with fail
  refine (Check6_any we sg sw mu di aa _).mono ?_
  rintro e w1 ⟨rfl, b1⟩
  rw [S]
  have h1 := keepB b1 h0
  have bel1 := bel0.trans (b1.mono bel0.size)
  clear hld b1 h0 bel0
  obtain ⟨c0, c1, c2, c3, c4, c5, c6, c7, c8, c9, c10, c11, c12, c13, c14, c15, c16, c17, c18⟩ := of19 nm un 3 ad ev we sg sw mu di aa de qu ul uh la lo hi hy h1
  go_wp2_with fail
  refine (Check7_any de qu _).mono ?_
  rintro e w2 ⟨rfl, b2⟩
  rw [B0]
  have h2 := keepB b2 h1
  have bel2 := bel1.trans (b2.mono bel1.size)
  clear c0 c1 c2 c3 c4 c5 c6 c7 c8 c9 c10 c11 c12 c13 c14 c15 c16 c17 c18 b2 h1 bel1
  obtain ⟨c0, c1, c2, c3, c4, c5, c6, c7, c8, c9, c10, c11, c12, c13, c14, c15, c16, c17, c18⟩ := of19 nm un 3 ad ev we sg sw mu di aa de qu ul uh la lo hi hy h2
  go_wp2
  go_ret
  exact ⟨rfl, bel2⟩
set_option maxHeartbeats 1000000 in
theorem cm_133 (nm : ByteArray) (un ad ev : Int) (we sg sw : Bool) (mu di aa de qu : Int) (ul uh la : Bool) (lo hi hy : Int) (w : World) (S : chkS ⟨we, sg, sw, mu, di, aa⟩ = 0) (B0 : chkB de qu = 0) : Calls Tryz.prog 116 #[.agg #[.string nm, .int .i64 un, .int .i64 3, .int .i64 ad, .int .i64 ev, .bool we, .bool sg, .bool sw, .int .i64 mu, .int .i64 di, .int .i64 aa, .int .i64 de, .int .i64 qu, .bool ul, .bool uh, .bool la, .int .i64 lo, .int .i64 hi, .int .i64 hy]] w fun e w' => e = .returned (.int .i64 (chkL ⟨ul, uh, la, lo, hi, hy⟩)) ∧ Below w.heap.size w w' := by
  have h0 := heap_alloc_new w (.cells #[.string nm, .int .i64 un, .int .i64 3, .int .i64 ad, .int .i64 ev, .bool we, .bool sg, .bool sw, .int .i64 mu, .int .i64 di, .int .i64 aa, .int .i64 de, .int .i64 qu, .bool ul, .bool uh, .bool la, .int .i64 lo, .int .i64 hi, .int .i64 hy] 51)
  have bel0 := bel_alloc w (.cells #[.string nm, .int .i64 un, .int .i64 3, .int .i64 ad, .int .i64 ev, .bool we, .bool sg, .bool sw, .int .i64 mu, .int .i64 di, .int .i64 aa, .int .i64 de, .int .i64 qu, .bool ul, .bool uh, .bool la, .int .i64 lo, .int .i64 hi, .int .i64 hy] 51)
  have hld := ldTag_run (b := w.heap.size) (o := 0) rfl (rangeB (cs := [.string nm, .int .i64 un, .int .i64 3, .int .i64 ad, .int .i64 ev, .bool we, .bool sg, .bool sw, .int .i64 mu, .int .i64 di, .int .i64 aa, .int .i64 de, .int .i64 qu, .bool ul, .bool uh, .bool la, .int .i64 lo, .int .i64 hi, .int .i64 hy]) h0)
  go_enter Tryz.func116, Tryz.ntmps116
  go_wp2_with fail
  refine (Check6_any we sg sw mu di aa _).mono ?_
  rintro e w1 ⟨rfl, b1⟩
  rw [S]
  have h1 := keepB b1 h0
  have bel1 := bel0.trans (b1.mono bel0.size)
  clear hld b1 h0 bel0
  obtain ⟨c0, c1, c2, c3, c4, c5, c6, c7, c8, c9, c10, c11, c12, c13, c14, c15, c16, c17, c18⟩ := of19 nm un 3 ad ev we sg sw mu di aa de qu ul uh la lo hi hy h1
  go_wp2_with fail
  refine (Check7_any de qu _).mono ?_
  rintro e w2 ⟨rfl, b2⟩
  rw [B0]
  have h2 := keepB b2 h1
  have bel2 := bel1.trans (b2.mono bel1.size)
  clear c0 c1 c2 c3 c4 c5 c6 c7 c8 c9 c10 c11 c12 c13 c14 c15 c16 c17 c18 b2 h1 bel1
  obtain ⟨c0, c1, c2, c3, c4, c5, c6, c7, c8, c9, c10, c11, c12, c13, c14, c15, c16, c17, c18⟩ := of19 nm un 3 ad ev we sg sw mu di aa de qu ul uh la lo hi hy h2
  go_wp2_with fail
  refine (Check8_any ul uh la lo hi hy _).mono ?_
  rintro e w3 ⟨rfl, b3⟩
  go_wp2
  go_ret
  exact ⟨rfl, bel2.trans (b3.mono bel2.size)⟩
set_option maxHeartbeats 1000000 in
theorem cm_124 (nm : ByteArray) (un ad ev : Int) (we sg sw : Bool) (mu di aa de qu : Int) (ul uh la : Bool) (lo hi hy : Int) (w : World) (S : chkS ⟨we, sg, sw, mu, di, aa⟩ = 0) (B0 : chkB de qu = 26) : Calls Tryz.prog 116 #[.agg #[.string nm, .int .i64 un, .int .i64 4, .int .i64 ad, .int .i64 ev, .bool we, .bool sg, .bool sw, .int .i64 mu, .int .i64 di, .int .i64 aa, .int .i64 de, .int .i64 qu, .bool ul, .bool uh, .bool la, .int .i64 lo, .int .i64 hi, .int .i64 hy]] w fun e w' => e = .returned (.int .i64 26) ∧ Below w.heap.size w w' := by
  have h0 := heap_alloc_new w (.cells #[.string nm, .int .i64 un, .int .i64 4, .int .i64 ad, .int .i64 ev, .bool we, .bool sg, .bool sw, .int .i64 mu, .int .i64 di, .int .i64 aa, .int .i64 de, .int .i64 qu, .bool ul, .bool uh, .bool la, .int .i64 lo, .int .i64 hi, .int .i64 hy] 51)
  have bel0 := bel_alloc w (.cells #[.string nm, .int .i64 un, .int .i64 4, .int .i64 ad, .int .i64 ev, .bool we, .bool sg, .bool sw, .int .i64 mu, .int .i64 di, .int .i64 aa, .int .i64 de, .int .i64 qu, .bool ul, .bool uh, .bool la, .int .i64 lo, .int .i64 hi, .int .i64 hy] 51)
  have hld := ldTag_run (b := w.heap.size) (o := 0) rfl (rangeB (cs := [.string nm, .int .i64 un, .int .i64 4, .int .i64 ad, .int .i64 ev, .bool we, .bool sg, .bool sw, .int .i64 mu, .int .i64 di, .int .i64 aa, .int .i64 de, .int .i64 qu, .bool ul, .bool uh, .bool la, .int .i64 lo, .int .i64 hi, .int .i64 hy]) h0)
  go_enter Tryz.func116, Tryz.ntmps116
  go_wp2_with fail
  refine (Check6_any we sg sw mu di aa _).mono ?_
  rintro e w1 ⟨rfl, b1⟩
  rw [S]
  have h1 := keepB b1 h0
  have bel1 := bel0.trans (b1.mono bel0.size)
  clear hld b1 h0 bel0
  obtain ⟨c0, c1, c2, c3, c4, c5, c6, c7, c8, c9, c10, c11, c12, c13, c14, c15, c16, c17, c18⟩ := of19 nm un 4 ad ev we sg sw mu di aa de qu ul uh la lo hi hy h1
  go_wp2_with fail
  refine (Check7_any de qu _).mono ?_
  rintro e w2 ⟨rfl, b2⟩
  rw [B0]
  have h2 := keepB b2 h1
  have bel2 := bel1.trans (b2.mono bel1.size)
  clear c0 c1 c2 c3 c4 c5 c6 c7 c8 c9 c10 c11 c12 c13 c14 c15 c16 c17 c18 b2 h1 bel1
  obtain ⟨c0, c1, c2, c3, c4, c5, c6, c7, c8, c9, c10, c11, c12, c13, c14, c15, c16, c17, c18⟩ := of19 nm un 4 ad ev we sg sw mu di aa de qu ul uh la lo hi hy h2
  go_wp2
  go_ret
  exact ⟨rfl, bel2⟩
set_option maxHeartbeats 1000000 in
theorem cm_134 (nm : ByteArray) (un ad ev : Int) (we sg sw : Bool) (mu di aa de qu : Int) (ul uh la : Bool) (lo hi hy : Int) (w : World) (S : chkS ⟨we, sg, sw, mu, di, aa⟩ = 0) (B0 : chkB de qu = 0) : Calls Tryz.prog 116 #[.agg #[.string nm, .int .i64 un, .int .i64 4, .int .i64 ad, .int .i64 ev, .bool we, .bool sg, .bool sw, .int .i64 mu, .int .i64 di, .int .i64 aa, .int .i64 de, .int .i64 qu, .bool ul, .bool uh, .bool la, .int .i64 lo, .int .i64 hi, .int .i64 hy]] w fun e w' => e = .returned (.int .i64 (chkL ⟨ul, uh, la, lo, hi, hy⟩)) ∧ Below w.heap.size w w' := by
  have h0 := heap_alloc_new w (.cells #[.string nm, .int .i64 un, .int .i64 4, .int .i64 ad, .int .i64 ev, .bool we, .bool sg, .bool sw, .int .i64 mu, .int .i64 di, .int .i64 aa, .int .i64 de, .int .i64 qu, .bool ul, .bool uh, .bool la, .int .i64 lo, .int .i64 hi, .int .i64 hy] 51)
  have bel0 := bel_alloc w (.cells #[.string nm, .int .i64 un, .int .i64 4, .int .i64 ad, .int .i64 ev, .bool we, .bool sg, .bool sw, .int .i64 mu, .int .i64 di, .int .i64 aa, .int .i64 de, .int .i64 qu, .bool ul, .bool uh, .bool la, .int .i64 lo, .int .i64 hi, .int .i64 hy] 51)
  have hld := ldTag_run (b := w.heap.size) (o := 0) rfl (rangeB (cs := [.string nm, .int .i64 un, .int .i64 4, .int .i64 ad, .int .i64 ev, .bool we, .bool sg, .bool sw, .int .i64 mu, .int .i64 di, .int .i64 aa, .int .i64 de, .int .i64 qu, .bool ul, .bool uh, .bool la, .int .i64 lo, .int .i64 hi, .int .i64 hy]) h0)
  go_enter Tryz.func116, Tryz.ntmps116
  go_wp2_with fail
  refine (Check6_any we sg sw mu di aa _).mono ?_
  rintro e w1 ⟨rfl, b1⟩
  rw [S]
  have h1 := keepB b1 h0
  have bel1 := bel0.trans (b1.mono bel0.size)
  clear hld b1 h0 bel0
  obtain ⟨c0, c1, c2, c3, c4, c5, c6, c7, c8, c9, c10, c11, c12, c13, c14, c15, c16, c17, c18⟩ := of19 nm un 4 ad ev we sg sw mu di aa de qu ul uh la lo hi hy h1
  go_wp2_with fail
  refine (Check7_any de qu _).mono ?_
  rintro e w2 ⟨rfl, b2⟩
  rw [B0]
  have h2 := keepB b2 h1
  have bel2 := bel1.trans (b2.mono bel1.size)
  clear c0 c1 c2 c3 c4 c5 c6 c7 c8 c9 c10 c11 c12 c13 c14 c15 c16 c17 c18 b2 h1 bel1
  obtain ⟨c0, c1, c2, c3, c4, c5, c6, c7, c8, c9, c10, c11, c12, c13, c14, c15, c16, c17, c18⟩ := of19 nm un 4 ad ev we sg sw mu di aa de qu ul uh la lo hi hy h2
  go_wp2_with fail
  refine (Check8_any ul uh la lo hi hy _).mono ?_
  rintro e w3 ⟨rfl, b3⟩
  go_wp2
  go_ret
  exact ⟨rfl, bel2.trans (b3.mono bel2.size)⟩

theorem mean_any (nm : ByteArray) (un ki ad ev : Int) (we sg sw : Bool) (mu di aa de qu : Int) (ul uh la : Bool) (lo hi hy : Int) (w : World) (k1 : ¬ ki < 1) (k2 : ¬ ki > 4) : Calls Tryz.prog 116 #[.agg #[.string nm, .int .i64 un, .int .i64 ki, .int .i64 ad, .int .i64 ev, .bool we, .bool sg, .bool sw, .int .i64 mu, .int .i64 di, .int .i64 aa, .int .i64 de, .int .i64 qu, .bool ul, .bool uh, .bool la, .int .i64 lo, .int .i64 hi, .int .i64 hy]] w fun e w' => e = .returned (.int .i64 (meanT ⟨nm, un, ki, ad, ev, we, sg, sw, mu, di, aa, de, qu, ul, uh, la, lo, hi, hy⟩)) ∧ Below w.heap.size w w' := by
  refine mean_cases ⟨nm, un, ki, ad, ev, we, sg, sw, mu, di, aa, de, qu, ul, uh, la, lo, hi, hy⟩ _ ?_ ?_ ?_ ?_
  · intro S0 HC; rw [HC]; exact cm_10 nm un ki ad ev we sg sw mu di aa de qu ul uh la lo hi hy w S0
  · intro S kb hb HC
    rw [HC]
    have hk : ki = 1 ∨ ki = 2 := by
      have : ki ≤ 2 := kb
      omega
    rcases hk with rfl | rfl
    · rcases bitS_no hb with h | h | h | h | h | h
      · obtain rfl : we = true := h
        exact cm_11we1 nm un ad ev sg sw mu di aa de qu ul uh la lo hi hy w S
      · obtain rfl : sg = true := h
        exact cm_11sg1 nm un ad ev we sw mu di aa de qu ul uh la lo hi hy w S
      · obtain rfl : sw = true := h
        exact cm_11sw1 nm un ad ev we sg mu di aa de qu ul uh la lo hi hy w S
      · exact cm_11mu1 nm un ad ev we sg sw mu di aa de qu ul uh la lo hi hy w S h
      · exact cm_11di1 nm un ad ev we sg sw mu di aa de qu ul uh la lo hi hy w S h
      · exact cm_11aa1 nm un ad ev we sg sw mu di aa de qu ul uh la lo hi hy w S h
    · rcases bitS_no hb with h | h | h | h | h | h
      · obtain rfl : we = true := h
        exact cm_11we2 nm un ad ev sg sw mu di aa de qu ul uh la lo hi hy w S
      · obtain rfl : sg = true := h
        exact cm_11sg2 nm un ad ev we sw mu di aa de qu ul uh la lo hi hy w S
      · obtain rfl : sw = true := h
        exact cm_11sw2 nm un ad ev we sg mu di aa de qu ul uh la lo hi hy w S
      · exact cm_11mu2 nm un ad ev we sg sw mu di aa de qu ul uh la lo hi hy w S h
      · exact cm_11di2 nm un ad ev we sg sw mu di aa de qu ul uh la lo hi hy w S h
      · exact cm_11aa2 nm un ad ev we sg sw mu di aa de qu ul uh la lo hi hy w S h
  · intro S hb B0 HC
    rw [HC]
    have hk : ki = 1 ∨ ki = 2 ∨ ki = 3 ∨ ki = 4 := by omega
    rcases hk with rfl | rfl | rfl | rfl
    · obtain ⟨rfl, rfl, rfl, rfl, rfl, rfl⟩ := bitS_yes (hb.resolve_left (fun h => h (by show (1 : Int) ≤ 2; omega)))
      exact cm_121 nm un ad ev de qu ul uh la lo hi hy w S B0
    · obtain ⟨rfl, rfl, rfl, rfl, rfl, rfl⟩ := bitS_yes (hb.resolve_left (fun h => h (by show (2 : Int) ≤ 2; omega)))
      exact cm_122 nm un ad ev de qu ul uh la lo hi hy w S B0
    · exact cm_123 nm un ad ev we sg sw mu di aa de qu ul uh la lo hi hy w S B0
    · exact cm_124 nm un ad ev we sg sw mu di aa de qu ul uh la lo hi hy w S B0
  · intro S hb B HC
    rw [HC]
    have hk : ki = 1 ∨ ki = 2 ∨ ki = 3 ∨ ki = 4 := by omega
    rcases hk with rfl | rfl | rfl | rfl
    · obtain ⟨rfl, rfl, rfl, rfl, rfl, rfl⟩ := bitS_yes (hb.resolve_left (fun h => h (by show (1 : Int) ≤ 2; omega)))
      exact cm_131 nm un ad ev de qu ul uh la lo hi hy w S B
    · obtain ⟨rfl, rfl, rfl, rfl, rfl, rfl⟩ := bitS_yes (hb.resolve_left (fun h => h (by show (2 : Int) ≤ 2; omega)))
      exact cm_132 nm un ad ev de qu ul uh la lo hi hy w S B
    · exact cm_133 nm un ad ev we sg sw mu di aa de qu ul uh la lo hi hy w S B
    · exact cm_134 nm un ad ev we sg sw mu di aa de qu ul uh la lo hi hy w S B
end Go.Proofs.YtcmbdhmhkfhjfaaGreat
