/-
  Texts of the proof of PlanReads, joined.
-/
import Derived.Test.YtcmbdhmhkfhjfaaJPlanReadsB
import Derived.Test.YtcmbdhmhkfhjfaaJPlanReadsC
import Derived.Test.YtcmbdhmhkfhjfaaJPlanReadsA
import Derived.Laws.RangeAny
import Derived.LoopTactic
import Derived.Laws.EntriesVeiled
import Derived.Laws.MakeOwn
namespace Go.Proofs.Ytcmbdhmhkfhjfaa
open Go.RowKit
set_option linter.unusedVariables false

/-- A poll as plain data. -/
structure Pol where
  un : Int
  ki : Int
  ad : Int
  ct : Int
  ev : Int
  tg : List Int
def noT : Tg := ⟨⟨#[]⟩, 0, 0, 0, 0, false, false, false, 0, 0, 0, 0, 0, false, false, false, 0, 0, 0⟩
/-- The tag at a place. -/
def tgAt (l : List Tg) (i : Nat) : Tg := l.getD i noT
theorem tgAt_eq {l : List Tg} {i : Nat} (h : i < l.length) : tgAt l i = l[i] := by simp [tgAt, List.getD_eq_getElem?_getD, List.getElem?_eq_getElem h]

/-- Does one tag stand ahead of another in the order of polling? -/
def aheadP (a b : Tg) (i k : Nat) : Prop := a.un < b.un ∨ (a.un = b.un ∧ (a.ev < b.ev ∨ (a.ev = b.ev ∧ (a.ki < b.ki ∨ (a.ki = b.ki ∧ (a.ad < b.ad ∨ (a.ad = b.ad ∧ i < k)))))))
instance (a b : Tg) (i k : Nat) : Decidable (aheadP a b i k) := by unfold aheadP; infer_instance
def aheadB (l : List Tg) (i k : Nat) : Bool := decide (aheadP (tgAt l i) (tgAt l k) i k)
theorem ahead_iff {l : List Tg} {i k : Nat} : aheadB l i k = true ↔ aheadP (tgAt l i) (tgAt l k) i k := decide_eq_true_iff
theorem ahead_irrefl (l : List Tg) (i : Nat) : aheadB l i i = false := by
  cases h : aheadB l i i with
  | false => rfl
  | true => have := ahead_iff.1 h; unfold aheadP at this; omega
theorem ahead_trans {l : List Tg} {i j k : Nat} (h1 : aheadB l i j = true) (h2 : aheadB l j k = true) : aheadB l i k = true := by
  have h1 := ahead_iff.1 h1
  have h2 := ahead_iff.1 h2
  rw [ahead_iff]
  unfold aheadP at *; omega
theorem ahead_total (l : List Tg) {i k : Nat} (h : i ≠ k) : aheadB l i k = true ∨ aheadB l k i = true := by
  rw [ahead_iff, ahead_iff]
  unfold aheadP; omega
theorem ahead_asymm {l : List Tg} {i k : Nat} (h1 : aheadB l i k = true) (h2 : aheadB l k i = true) : False := by
  have := ahead_trans h1 h2
  rw [ahead_irrefl] at this; cases this

/-- The places in the order of polling. -/
def insT (l : List Tg) (i : Nat) : List Nat → List Nat
  | [] => [i]
  | k :: ks => if aheadB l i k then i :: k :: ks else k :: insT l i ks
def ordT (l : List Tg) : List Nat := (List.range l.length).foldr (insT l) []
theorem insT_perm (l : List Tg) (i : Nat) (ks : List Nat) : (insT l i ks).Perm (i :: ks) := by
  induction ks with
  | nil => exact List.Perm.refl _
  | cons k ks ih =>
    unfold insT
    split
    · exact List.Perm.refl _
    · exact (ih.cons k).trans (List.Perm.swap i k ks)
theorem insT_sorted (l : List Tg) (i : Nat) (ks : List Nat) (hi : i ∉ ks) (h : ks.Pairwise (fun a b => aheadB l a b = true)) : (insT l i ks).Pairwise (fun a b => aheadB l a b = true) := by
  induction ks with
  | nil => exact List.pairwise_singleton _ _
  | cons k ks ih =>
    obtain ⟨h1, h2⟩ := List.pairwise_cons.1 h
    unfold insT
    split
    · rename_i hik
      refine List.pairwise_cons.2 ⟨fun x hx => ?_, h⟩
      rcases List.mem_cons.1 hx with rfl | hx
      · exact hik
      · exact ahead_trans hik (h1 x hx)
    · rename_i hik
      have hne : i ≠ k := fun e => hi (by rw [e]; exact List.mem_cons_self)
      have hki : aheadB l k i = true := (ahead_total l hne).resolve_left hik
      refine List.pairwise_cons.2 ⟨fun x hx => ?_, ih (fun hm => hi (List.mem_cons_of_mem _ hm)) h2⟩
      rcases List.mem_cons.1 ((insT_perm l i ks).mem_iff.1 hx) with rfl | hx
      · exact hki
      · exact h1 x hx
theorem ordT_both (l : List Tg) (ks : List Nat) (hd : ks.Nodup) : (ks.foldr (insT l) []).Perm ks ∧ (ks.foldr (insT l) []).Pairwise (fun a b => aheadB l a b = true) := by
  induction ks with
  | nil => exact ⟨List.Perm.refl _, List.Pairwise.nil⟩
  | cons k ks ih =>
    obtain ⟨h1, h2⟩ := List.nodup_cons.1 hd
    obtain ⟨p, s⟩ := ih h2
    rw [List.foldr_cons]
    exact ⟨(insT_perm l k _).trans (p.cons k), insT_sorted l k _ (fun hm => h1 (p.mem_iff.1 hm)) s⟩
theorem ordT_perm (l : List Tg) : (ordT l).Perm (List.range l.length) := (ordT_both l _ List.nodup_range).1
theorem ordT_sorted (l : List Tg) : (ordT l).Pairwise (fun a b => aheadB l a b = true) := (ordT_both l _ List.nodup_range).2
theorem ordT_len (l : List Tg) : (ordT l).length = l.length := by rw [(ordT_perm l).length_eq, List.length_range]
theorem ordT_lt {l : List Tg} {k : Nat} (h : k ∈ ordT l) : k < l.length := List.mem_range.1 ((ordT_perm l).mem_iff.1 h)
/-- The order of polling is the only one. -/
theorem ordT_only {l : List Tg} {o : List Nat} (hp : o.Perm (List.range l.length)) (hs : o.Pairwise (fun a b => aheadB l a b = true)) : o = ordT l :=
  List.Perm.eq_of_pairwise (le := fun a b => aheadB l a b = true) (fun a b _ _ h1 h2 => (ahead_asymm h1 h2).elim) hs (ordT_sorted l) (hp.trans (ordT_perm l).symm)
/-- Of an order that comes one by one: so many different places, each ahead of all that are left. -/
theorem ordT_only2 {l : List Tg} {o : List Nat} (hl : o.length = l.length) (hlt : ∀ k ∈ o, k < l.length) (hs : o.Pairwise (fun a b => aheadB l a b = true)) : o = ordT l := by
  have hn : o.Nodup := hs.imp (fun {a b} h e => by subst e; rw [ahead_irrefl] at h; cases h)
  refine ordT_only ?_ hs
  refine (List.perm_ext_iff_of_nodup hn List.nodup_range).2 fun a => ⟨fun ha => List.mem_range.2 (hlt a ha), fun ha => ?_⟩
  by_cases hm : a ∈ o
  · exact hm
  · have := (List.nodup_cons.2 ⟨hm, hn⟩).length_le_of_subset (l₂ := List.range l.length) (fun x hx => by
      rcases List.mem_cons.1 hx with rfl | hx
      · exact ha
      · exact List.mem_range.2 (hlt x hx))
    rw [List.length_cons, List.length_range] at this
    omega

/-- How many addresses a poll may have. -/
def mostK (k : Int) : Int := if k = 1 ∨ k = 2 then 2000 else 125
/-- How many it has with a tag more. -/
def cntJ (p : Pol) (t : Tg) : Int := if t.ad + widT t - p.ad < p.ct then p.ct else t.ad + widT t - p.ad
def joinB (p : Pol) (t : Tg) : Bool := decide (p.un = t.un ∧ p.ev = t.ev ∧ p.ki = t.ki ∧ t.ad - 8 ≤ p.ad + p.ct ∧ cntJ p t ≤ mostK t.ki)
def newP (t : Tg) (k : Nat) : Pol := ⟨t.un, t.ki, t.ad, widT t, t.ev, [(k : Int)]⟩
def Pol.join (p : Pol) (t : Tg) (k : Nat) : Pol := ⟨p.un, p.ki, p.ad, cntJ p t, p.ev, p.tg ++ [(k : Int)]⟩
def addP (ps : List Pol) (t : Tg) (k : Nat) : List Pol := match ps.getLast? with
  | none => [newP t k]
  | some p => if joinB p t then ps.dropLast ++ [p.join t k] else ps ++ [newP t k]
def pollsO (l : List Tg) (o : List Nat) : List Pol := o.foldl (fun ps k => addP ps (tgAt l k) k) []
theorem pollsO_nil (l : List Tg) : pollsO l [] = [] := rfl
theorem pollsO_snoc (l : List Tg) (o : List Nat) (k : Nat) : pollsO l (o ++ [k]) = addP (pollsO l o) (tgAt l k) k := by simp [pollsO, List.foldl_append]
theorem addP_nil (t : Tg) (k : Nat) : addP [] t k = [newP t k] := rfl
theorem addP_join {ps : List Pol} {p : Pol} {t : Tg} {k : Nat} (h : joinB p t = true) : addP (ps ++ [p]) t k = ps ++ [p.join t k] := by
  simp [addP, h]
theorem addP_new {ps : List Pol} {p : Pol} {t : Tg} {k : Nat} (h : joinB p t = false) : addP (ps ++ [p]) t k = ps ++ [p, newP t k] := by
  simp [addP, h]
/-- The polls of a table. -/
def planL (l : List Tg) : List Pol := if (chkAll l).1 = 0 then pollsO l (ordT l) else []
theorem snoc_cases {α : Type} (l : List α) : l = [] ∨ ∃ m a, l = m ++ [a] := by
  rcases List.eq_nil_or_concat l with h | ⟨m, a, h⟩
  · exact .inl h
  · exact .inr ⟨m, a, by rw [h, List.concat_eq_append]⟩

/-- What each poll is like. -/
structure PGood (l : List Tg) (p : Pol) : Prop where
  ki : 1 ≤ p.ki ∧ p.ki ≤ 4
  ct : 1 ≤ p.ct ∧ p.ct ≤ mostK p.ki
  ad : 0 ≤ p.ad ∧ p.ad + p.ct ≤ 65536
  un : 1 ≤ p.un ∧ p.un ≤ 247
  ev : 1 ≤ p.ev ∧ p.ev ≤ 1048576
  hd : ∃ k : Nat, p.tg.head? = some (k : Int) ∧ k < l.length ∧ (tgAt l k).un = p.un ∧ (tgAt l k).ev = p.ev ∧ (tgAt l k).ki = p.ki ∧ (tgAt l k).ad = p.ad
  all : ∀ x ∈ p.tg, ∃ k : Nat, x = (k : Int) ∧ k < l.length ∧ (tgAt l k).un = p.un ∧ (tgAt l k).ev = p.ev ∧ (tgAt l k).ki = p.ki ∧ p.ad ≤ (tgAt l k).ad ∧ (tgAt l k).ad + widT (tgAt l k) ≤ p.ad + p.ct
def keyLe (a b : Pol) : Prop := a.un < b.un ∨ (a.un = b.un ∧ (a.ev < b.ev ∨ (a.ev = b.ev ∧ (a.ki < b.ki ∨ (a.ki = b.ki ∧ a.ad ≤ b.ad)))))
/-- Two polls that stand one behind the other. -/
def PFar (l : List Tg) (a b : Pol) : Prop := keyLe a b ∧ ∃ k : Nat, b.tg.head? = some (k : Int) ∧ k < l.length ∧ joinB a (tgAt l k) = false
structure PInv (l : List Tg) (o : List Nat) (ps : List Pol) : Prop where
  flat : ps.flatMap Pol.tg = o.map (fun k : Nat => (k : Int))
  each : ∀ p ∈ ps, PGood l p
  next : ∀ i (h : i + 1 < ps.length), PFar l ps[i] ps[i + 1]
theorem tag_right {l : List Tg} (h : (chkAll l).1 = 0) {k : Nat} (hk : k < l.length) : chkT (tgAt l k) = 0 := by
  rw [tgAt_eq hk]
  exact (tab_of (k := (chkAll l).2) (by rw [← h])).2.2.1 _ (List.getElem_mem hk)
theorem tag_tab {l : List Tg} (h : (chkAll l).1 = 0) : TabT l := (tab_of (k := (chkAll l).2) (by rw [← h])).2

theorem wid_most (t : Tg) : widT t ≤ mostK t.ki := by
  have := widT_le t
  unfold mostK; split <;> omega
theorem newP_good {l : List Tg} {k : Nat} (hk : k < l.length) (hc : chkT (tgAt l k) = 0) : PGood l (newP (tgAt l k) k) := by
  obtain ⟨_, h2, h3, h4, h5, _⟩ := chkT_zero hc
  have hw := widT_le (tgAt l k)
  refine ⟨h3, ⟨hw.1, wid_most _⟩, ⟨h4.1, by show (tgAt l k).ad + widT (tgAt l k) ≤ 65536; omega⟩, h2, h5, ⟨k, rfl, hk, rfl, rfl, rfl, rfl⟩, fun x hx => ?_⟩
  have hx : x = (k : Int) := by simpa [newP] using hx
  exact ⟨k, hx, hk, rfl, rfl, rfl, Int.le_refl _, Int.le_refl _⟩
theorem join_good {l : List Tg} {p : Pol} {k : Nat} (h : PGood l p) (hk : k < l.length) (hc : chkT (tgAt l k) = 0) (hj : joinB p (tgAt l k) = true) (ha : p.ad ≤ (tgAt l k).ad) : PGood l (p.join (tgAt l k) k) := by
  obtain ⟨_, h2, h3, h4, h5, _⟩ := chkT_zero hc
  have hw := widT_le (tgAt l k)
  obtain ⟨g1, g2, g3, g4, g5⟩ := of_decide_eq_true hj
  have hcnt : cntJ p (tgAt l k) = p.ct ∧ (tgAt l k).ad + widT (tgAt l k) ≤ p.ad + p.ct ∨ cntJ p (tgAt l k) = (tgAt l k).ad + widT (tgAt l k) - p.ad ∧ p.ct ≤ cntJ p (tgAt l k) := by
    unfold cntJ; split <;> omega
  have hct := h.ct
  have had := h.ad
  refine ⟨h.ki, ⟨?_, ?_⟩, ⟨had.1, ?_⟩, h.un, h.ev, ?_, fun x hx => ?_⟩
  · show 1 ≤ cntJ p (tgAt l k)
    rcases hcnt with h | h <;> omega
  · show cntJ p (tgAt l k) ≤ mostK p.ki
    rw [g3]; exact g5
  · show p.ad + cntJ p (tgAt l k) ≤ 65536
    rcases hcnt with h | h <;> omega
  · obtain ⟨k', e, r⟩ := h.hd
    refine ⟨k', ?_, r⟩
    show (p.tg ++ [(k : Int)]).head? = _
    rw [List.head?_append, e]; rfl
  · rcases List.mem_append.1 (show x ∈ p.tg ++ [(k : Int)] from hx) with hx | hx
    · obtain ⟨k', e, k1, k2, k3, k4, k5, k6⟩ := h.all x hx
      refine ⟨k', e, k1, k2, k3, k4, k5, ?_⟩
      show _ ≤ p.ad + cntJ p (tgAt l k)
      rcases hcnt with h | h <;> omega
    · refine ⟨k, by simpa using hx, hk, g1.symm, g2.symm, g3.symm, ha, ?_⟩
      show _ ≤ p.ad + cntJ p (tgAt l k)
      rcases hcnt with h | h <;> omega
theorem pinv_nil (l : List Tg) : PInv l [] [] := ⟨rfl, fun p hp => (by cases hp), fun i h => (by simp at h)⟩
theorem pinv_head {l : List Tg} {o : List Nat} {ps : List Pol} (h : PInv l o ps) {p : Pol} (hp : p ∈ ps) {k : Nat} (hk : p.tg.head? = some (k : Int)) : k ∈ o := by
  have hm : (k : Int) ∈ ps.flatMap Pol.tg := List.mem_flatMap.2 ⟨p, hp, List.mem_of_mem_head? (by rw [hk]; rfl)⟩
  rw [h.flat, List.mem_map] at hm
  obtain ⟨k', h1, h2⟩ := hm
  have : k' = k := by omega
  rw [← this]; exact h1
theorem pinv_step {l : List Tg} {o : List Nat} {ps : List Pol} (h : PInv l o ps) {k : Nat} (hk : k < l.length) (hc : chkT (tgAt l k) = 0) (ho : ∀ j ∈ o, aheadB l j k = true) : PInv l (o ++ [k]) (addP ps (tgAt l k) k) := by
  rcases snoc_cases ps with rfl | ⟨qs, p, rfl⟩
  · rw [addP_nil]
    have hn : o = [] := by
      have := h.flat
      simpa using this.symm
    subst hn
    refine ⟨by simp [newP], fun p hp => ?_, fun i hi => by simp at hi⟩
    obtain rfl : p = newP (tgAt l k) k := by simpa using hp
    exact newP_good hk hc
  · have hpm : p ∈ qs ++ [p] := List.mem_append_right _ (by simp)
    have hg := h.each p hpm
    obtain ⟨kh, e1, e2, e3, e4, e5, e6⟩ := hg.hd
    have hah : aheadP (tgAt l kh) (tgAt l k) kh k := of_decide_eq_true (ho kh (pinv_head h hpm e1))
    cases hj : joinB p (tgAt l k) with
    | true =>
      rw [addP_join hj]
      obtain ⟨g1, g2, g3, g4, g5⟩ := of_decide_eq_true hj
      have hgood := join_good hg hk hc hj (by unfold aheadP at hah; omega)
      refine ⟨?_, fun q hq => ?_, fun i hi => ?_⟩
      · have := h.flat
        rw [List.flatMap_append] at this ⊢
        simp only [List.flatMap_cons, List.flatMap_nil, List.append_nil] at this ⊢
        rw [List.map_append, ← this, List.append_assoc]; rfl
      · rcases List.mem_append.1 hq with hq | hq
        · exact h.each q (List.mem_append_left _ hq)
        · obtain rfl : q = p.join (tgAt l k) k := by simpa using hq
          exact hgood
      · have hi2 : i + 1 < (qs ++ [p]).length := by simpa using hi
        have hq := h.next i hi2
        have hi3 : i < qs.length := by simp at hi; omega
        rw [List.getElem_append_left hi3] at hq ⊢
        by_cases hl : i + 1 < qs.length
        · rw [List.getElem_append_left hl] at hq ⊢
          exact hq
        · have : i + 1 = qs.length := by simp at hi; omega
          rw [List.getElem_append_right (by omega)] at hq ⊢
          simp only [this, Nat.sub_self, List.getElem_cons_zero] at hq ⊢
          obtain ⟨q1, k', q2, q3, q4⟩ := hq
          refine ⟨q1, k', ?_, q3, q4⟩
          show (p.tg ++ [(k : Int)]).head? = _
          rw [List.head?_append, q2]; rfl
    | false =>
      rw [addP_new hj]
      have hgood := newP_good hk hc
      refine ⟨?_, fun q hq => ?_, fun i hi => ?_⟩
      · have := h.flat
        rw [List.flatMap_append] at this ⊢
        simp only [List.flatMap_cons, List.flatMap_nil, List.append_nil] at this ⊢
        rw [List.map_append, ← this, List.append_assoc]; rfl
      · rcases List.mem_append.1 hq with hq | hq
        · exact h.each q (List.mem_append_left _ hq)
        · rcases List.mem_cons.1 hq with rfl | hq
          · exact hg
          · obtain rfl : q = newP (tgAt l k) k := by simpa using hq
            exact hgood
      · by_cases hl : i + 1 < (qs ++ [p]).length
        · have hq := h.next i hl
          have a1 : (qs ++ [p, newP (tgAt l k) k])[i] = (qs ++ [p])[i] := by
            simp only [show qs ++ [p, newP (tgAt l k) k] = (qs ++ [p]) ++ [newP (tgAt l k) k] by simp]
            rw [List.getElem_append_left]
          have a2 : (qs ++ [p, newP (tgAt l k) k])[i + 1] = (qs ++ [p])[i + 1] := by
            simp only [show qs ++ [p, newP (tgAt l k) k] = (qs ++ [p]) ++ [newP (tgAt l k) k] by simp]
            rw [List.getElem_append_left]
          rw [a1, a2]
          exact hq
        · have hil : i = qs.length := by simp at hl hi; omega
          subst hil
          have a1 : (qs ++ [p, newP (tgAt l k) k])[qs.length] = p := by
            rw [List.getElem_append_right (Nat.le_refl _)]; simp
          have a2 : (qs ++ [p, newP (tgAt l k) k])[qs.length + 1] = newP (tgAt l k) k := by
            rw [List.getElem_append_right (by omega)]; simp
          rw [a1, a2]
          refine ⟨?_, k, rfl, hk, hj⟩
          unfold aheadP at hah
          show p.un < (tgAt l k).un ∨ (p.un = (tgAt l k).un ∧ (p.ev < (tgAt l k).ev ∨ (p.ev = (tgAt l k).ev ∧ (p.ki < (tgAt l k).ki ∨ (p.ki = (tgAt l k).ki ∧ p.ad ≤ (tgAt l k).ad)))))
          omega
theorem pinv_all {l : List Tg} (hc : ∀ k, k < l.length → chkT (tgAt l k) = 0) (o : List Nat) (hlt : ∀ k ∈ o, k < l.length) (hs : o.Pairwise (fun a b => aheadB l a b = true)) : PInv l o (pollsO l o) := by
  have key : ∀ m, m ≤ o.length → PInv l (o.take m) (pollsO l (o.take m)) := by
    intro m
    induction m with
    | zero => intro _; rw [List.take_zero, pollsO_nil]; exact pinv_nil l
    | succ m ih =>
      intro hm
      have hmo : m < o.length := by omega
      rw [List.take_succ_eq_append_getElem hmo, pollsO_snoc]
      have hko := List.getElem_mem hmo
      refine pinv_step (ih (by omega)) (hlt _ hko) (hc _ (hlt _ hko)) fun j hj => ?_
      obtain ⟨i, hi, rfl⟩ := List.mem_iff_getElem.1 hj
      rw [List.length_take] at hi
      rw [List.getElem_take]
      exact List.pairwise_iff_getElem.1 hs i m (by omega) hmo (by omega)
  have := key o.length (Nat.le_refl _)
  rwa [List.take_length] at this
/-- The polls of a table. -/
theorem plan_inv {l : List Tg} (h : (chkAll l).1 = 0) : PInv l (ordT l) (planL l) := by
  rw [planL, if_pos h]
  exact pinv_all (fun k hk => tag_right h hk) _ (fun k hk => ordT_lt hk) (ordT_sorted l)
theorem plan_bad {l : List Tg} (h : (chkAll l).1 ≠ 0) : planL l = [] := by rw [planL, if_neg h]

/-- What a poll asks, and what is wrong with it. -/
def reqK (k a c : Int) : Req := ⟨k, a, c, [], [], []⟩
def askE (k a c : Int) : Int := if k < 1 ∨ 4 < k then 28 else chkQ (reqK k a c)
def askN (k a c x : Int) : Int := if askE k a c = 0 then x else 0
theorem mm_low {k : Int} (h : 1 ≤ k ∧ k ≤ 4) : mm k = mostK k := by
  have : k = 1 ∨ k = 2 ∨ k = 3 ∨ k = 4 := by omega
  rcases this with rfl | rfl | rfl | rfl <;> rfl
theorem askE_eq {k : Int} (h : 1 ≤ k ∧ k ≤ 4) (a c : Int) : askE k a c = if a < 0 ∨ 65536 ≤ a then 21 else if c < 1 ∨ mostK k < c then 22 else if 65536 < a + c then 21 else 0 := by
  have hk : k = 1 ∨ k = 2 ∨ k = 3 ∨ k = 4 := by omega
  unfold askE
  rw [if_neg (by omega)]
  have hm := mm_low h
  have he : chkQ (reqK k a c) = chk k a c 0 0 0 [] := by simp [chkQ, reqK]
  rw [he]
  unfold chk
  have hs : stray k a c 0 0 0 = false := by rcases hk with rfl | rfl | rfl | rfl <;> rfl
  have hmn : many k c 0 0 0 = c := by rcases hk with rfl | rfl | rfl | rfl <;> rfl
  have hmp : ¬ mm k ≤ 0 := by rw [hm]; unfold mostK; split <;> omega
  rw [if_neg hmp, if_neg (by rw [hs]; simp), hmn, hm]
  have h20 : ¬ k = 20 := by omega
  rw [if_neg h20]
theorem good_ask {l : List Tg} {p : Pol} (h : PGood l p) : askE p.ki p.ad p.ct = 0 := by
  have h1 := h.ct
  have h2 := h.ad
  rw [askE_eq h.ki, if_neg (by omega), if_neg (by omega), if_neg (by omega)]
theorem askE_zero {k a c : Int} (h : askE k a c = 0) : (1 ≤ k ∧ k ≤ 4) ∧ (0 ≤ a ∧ a < 65536) ∧ (1 ≤ c ∧ c ≤ mostK k) ∧ a + c ≤ 65536 := by
  by_cases hk : k < 1 ∨ 4 < k
  · unfold askE at h; rw [if_pos hk] at h; cases h
  · rw [askE_eq (by omega)] at h
    by_cases h1 : a < 0 ∨ 65536 ≤ a
    · rw [if_pos h1] at h; cases h
    · rw [if_neg h1] at h
      by_cases h2 : c < 1 ∨ mostK k < c
      · rw [if_pos h2] at h; cases h
      · rw [if_neg h2] at h
        by_cases h3 : 65536 < a + c
        · rw [if_pos h3] at h; cases h
        · omega
end Go.Proofs.Ytcmbdhmhkfhjfaa
namespace Go.Proofs.Ytcmbdhmhkfhjfaa
open Go.RowKit
set_option linter.unusedVariables false

theorem pLetter_any (c : Int) (w : World) : Calls Try.prog 82 #[.int .i32 c] w fun e w' => e = .returned (.bool (letB c)) ∧ w' = w := by
  refine letter_cases c _ ?_ ?_ ?_ ?_ ?_
  · intro h1 h2 h
    rw [h]
    go_enter Try.func82, Try.ntmps82
    go_wp2
    go_ret
    exact ⟨rfl, rfl⟩
  · intro h1 h2 h
    have h3 : ¬ c ≤ 90 := by omega
    have h4 : 65 ≤ c := by omega
    rw [h]
    go_enter Try.func82, Try.ntmps82
    go_wp2
    go_ret
    exact ⟨rfl, rfl⟩
  · intro h1 h2 h3 h
    rw [h]
    go_enter Try.func82, Try.ntmps82
    go_wp2
    go_ret
    exact ⟨rfl, rfl⟩
  · intro h1 h2 h3 h
    rw [h]
    go_enter Try.func82, Try.ntmps82
    go_wp2
    go_ret
    exact ⟨rfl, rfl⟩
  · intro h1 h2 h
    rw [h]
    go_enter Try.func82, Try.ntmps82
    go_wp2
    go_ret
    exact ⟨rfl, rfl⟩

/-- What may stand behind a first letter, beside a letter. -/
def ltrB (c : Int) : Bool := (decide (48 ≤ c) && decide (c ≤ 57)) || (decide (c = 95) || (decide (c = 46) || decide (c = 45)))
theorem chB_ltr (c : Int) : chB c = (letB c || ltrB c) := by
  unfold chB ltrB
  cases letB c <;> cases (decide (48 ≤ c) && decide (c ≤ 57)) <;> cases decide (c = 95) <;> cases decide (c = 46) <;> cases decide (c = 45) <;> rfl
theorem pLater_any (c : Int) (w : World) : Calls Try.prog 83 #[.int .i32 c] w fun e w' => e = .returned (.bool (ltrB c)) ∧ w' = w := by
  by_cases h1 : c = 95
  · subst h1
    rw [show ltrB 95 = true from rfl]
    go_enter Try.func83, Try.ntmps83
    go_wp2
    go_ret
    exact ⟨rfl, rfl⟩
  by_cases h2 : c = 46
  · subst h2
    rw [show ltrB 46 = true from rfl]
    go_enter Try.func83, Try.ntmps83
    go_wp2
    go_ret
    exact ⟨rfl, rfl⟩
  by_cases h3 : c = 45
  · subst h3
    rw [show ltrB 45 = true from rfl]
    go_enter Try.func83, Try.ntmps83
    go_wp2
    go_ret
    exact ⟨rfl, rfl⟩
  have e1 : (c == 95) = false := by simp [h1]
  have e2 : (c == 46) = false := by simp [h2]
  have e3 : (c == 45) = false := by simp [h3]
  by_cases h4 : 48 ≤ c
  · by_cases h5 : c ≤ 57
    · have HB : Hid (ltrB c = true) := Lib.hid (by unfold ltrB; simp [h4, h5])
      rw [HB.out]
      go_enter Try.func83, Try.ntmps83
      go_wp2
      go_ret
      exact ⟨rfl, rfl⟩
    · have HB : Hid (ltrB c = false) := Lib.hid (by unfold ltrB; simp [h1, h2, h3, h5])
      rw [HB.out]
      go_enter Try.func83, Try.ntmps83
      go_wp2
      go_ret
      exact ⟨rfl, rfl⟩
  · have HB : Hid (ltrB c = false) := Lib.hid (by unfold ltrB; simp [h1, h2, h3, h4])
    rw [HB.out]
    go_enter Try.func83, Try.ntmps83
    go_wp2
    go_ret
    exact ⟨rfl, rfl⟩
theorem let_high {c : Int} (h : 128 ≤ c) : letB c = false ∧ ltrB c = false ∧ chB c = false := by
  have h1 : letB c = false := by
    simp only [letB, Bool.or_eq_false_iff, Bool.and_eq_false_iff, decide_eq_false_iff_not]
    omega
  have h2 : ltrB c = false := by
    simp only [ltrB, Bool.or_eq_false_iff, Bool.and_eq_false_iff, decide_eq_false_iff_not]
    omega
  exact ⟨h1, h2, by rw [chB_ltr, h1, h2]; rfl⟩
/-- What a range over a text gives at a place: that byte, or a number that is none of a name's. -/
theorem rune_at (s : ByteArray) (p : Nat) (h : p < s.size) :
    (nth (bys s) p < 128 ∧ (Utf8.decode s p).1 = (nth (bys s) p).toNat ∧ (Utf8.decode s p).2 = 1) ∨ (128 ≤ nth (bys s) p ∧ 128 ≤ (Utf8.decode s p).1) := by
  rw [bys_get s p h]
  by_cases ha : (s[p]'h).toNat < 128
  · left
    rw [decode_ascii s p h ha]
    exact ⟨by omega, by simp, rfl⟩
  · right
    exact ⟨by omega, (decode_high s p h (by omega)).1⟩
theorem iter_bel (w : World) (s : ByteArray) (p : Nat) : Below w.heap.size w (w.iter s p) := bel_alloc w _
set_option maxHeartbeats 1000000 in
theorem Name9_any (s : ByteArray) (w : World) (hs : s.size ≤ maxLen) : Calls Try.prog 65 #[.string s] w fun e w' => e = .returned (.bool (nameB (bys s))) ∧ Below w.heap.size w w' := by
  unfold maxLen at hs
  have hl := bys_len s
  by_cases h1 : s.size < 1
  · have HB : Hid (nameB (bys s) = false) := Lib.hid (nameB_len (.inl (by omega)))
    rw [HB.out]
    have h1' : (s.size : Int) < 1 := by omega
    clear hl
    go_enter Try.func65, Try.ntmps65
    go_wp2
    go_ret
    exact ⟨rfl, Below.refl _ _⟩
  by_cases h2 : 16 < s.size
  · have HB : Hid (nameB (bys s) = false) := Lib.hid (nameB_len (.inr (by omega)))
    rw [HB.out]
    have h1' : ¬ (s.size : Int) < 1 := by omega
    have h2' : (s.size : Int) > 16 := by omega
    clear hl
    go_enter Try.func65, Try.ntmps65
    go_wp2
    go_ret
    exact ⟨rfl, Below.refl _ _⟩
  have h1' : ¬ (s.size : Int) < 1 := by omega
  have h2' : ¬ (s.size : Int) > 16 := by omega
  have HL := Lib.hid hl
  clear hl
  go_enter Try.func65, Try.ntmps65
  go_wp2
  go_loopw [] (fun wr => ∃ p : Nat, p ≤ s.size ∧ wr = w.iter s p ∧ Hid (∀ i, i < p → chB (nth (bys s) i) = true) ∧ Hid (0 < p → letB (nth (bys s) 0) = true)) (fun wr => s.size - wr.iterPos w.heap.size)
  case atStart => exact ⟨0, by omega, rfl, Lib.hid (fun i hi => absurd hi (by omega)), Lib.hid (fun h => absurd h (by omega))⟩
  case round =>
    obtain ⟨p, hp, rfl, hall, hfst⟩ := hrel
    by_cases hlt : p < s.size
    · have hnx : ∀ ty, (Instr.next (.pointer (some ⟨w.heap.size, 0, none⟩)) true ty).run Try.prog (w.iter s p) = _ := fun ty => run_next_any w s p ty hlt
      have hpl : p < (bys s).length := by rw [HL.out]; exact hlt
      rcases rune_at s p hlt with ⟨a1, a2, a3⟩ | ⟨a1, a2⟩
      · have hb0 := (bys_bound s p hlt).1
        obtain ⟨c, hc⟩ : ∃ c, nth (bys s) p = c := ⟨_, rfl⟩
        have HC := Lib.hid hc
        rw [hc] at a1 a2 hb0
        have e1 : ((Utf8.decode s p).1 : Int) = c := by rw [a2]; omega
        rw [e1, a3] at hnx
        clear hc e1 a2 a3 hpl
        cases hl1 : letB c
        case true =>
          have hall2 : Hid (∀ i, i < p + 1 → chB (nth (bys s) i) = true) := Lib.hid (fun i hi => by
            rcases Nat.lt_or_ge i p with h | h
            · exact hall.out i h
            · obtain rfl : i = p := by omega
              rw [HC.out]; exact chB_letter hl1)
          have hfst2 : Hid (0 < p + 1 → letB (nth (bys s) 0) = true) := Lib.hid (fun _ => by
            rcases Nat.eq_zero_or_pos p with h | h
            · subst h; rw [HC.out]; exact hl1
            · exact hfst.out h)
          have HL1 := Lib.hid hl1
          go_wp2_with (go_at_call 82; refine (pLetter_any _ _).mono ?_; rintro e w' ⟨rfl, rfl⟩; rw [HL1.out])
          go_roundw
          case rel => exact ⟨p + 1, by omega, rfl, hall2, hfst2⟩
          case measure => simp; omega
        case false =>
          have HL1 := Lib.hid hl1
          rcases Nat.eq_zero_or_pos p with h0 | h0
          · subst h0
            have HB : Hid (nameB (bys s) = false) := Lib.hid (nameB_first (by rw [HC.out]; exact hl1))
            clear hl1
            go_wp2_with (go_at_call 82; refine (pLetter_any _ _).mono ?_; rintro e w' ⟨rfl, rfl⟩; rw [HL1.out])
            go_ret
            exact ⟨by rw [HB.out]; rfl, iter_bel w s _⟩
          · have hp0 : (p == 0) = false := by simp; omega
            have hp1 : ¬ (p : Int) = 0 := by omega
            cases hl2 : ltrB c
            case true =>
              have hall2 : Hid (∀ i, i < p + 1 → chB (nth (bys s) i) = true) := Lib.hid (fun i hi => by
                rcases Nat.lt_or_ge i p with h | h
                · exact hall.out i h
                · obtain rfl : i = p := by omega
                  rw [HC.out, chB_ltr, hl2, Bool.or_true])
              have hfst2 : Hid (0 < p + 1 → letB (nth (bys s) 0) = true) := Lib.hid (fun _ => hfst.out h0)
              have HL2 := Lib.hid hl2
              clear hl1 hl2
              go_wp2_with (first | (go_at_call 82; refine (pLetter_any _ _).mono ?_; rintro e w' ⟨rfl, rfl⟩; rw [HL1.out]) | (go_at_call 83; refine (pLater_any _ _).mono ?_; rintro e w' ⟨rfl, rfl⟩; rw [HL2.out]) | fail)
              go_roundw
              case rel => exact ⟨p + 1, by omega, rfl, hall2, hfst2⟩
              case measure => simp; omega
            case false =>
              have HB : Hid (nameB (bys s) = false) := Lib.hid (nameB_bad p (by rw [HL.out]; exact hlt) (by rw [HC.out, chB_ltr, hl1, hl2]; rfl))
              have HL2 := Lib.hid hl2
              clear hl1 hl2
              go_wp2_with (first | (go_at_call 82; refine (pLetter_any _ _).mono ?_; rintro e w' ⟨rfl, rfl⟩; rw [HL1.out]) | (go_at_call 83; refine (pLater_any _ _).mono ?_; rintro e w' ⟨rfl, rfl⟩; rw [HL2.out]) | fail)
              go_ret
              exact ⟨by rw [HB.out]; rfl, iter_bel w s _⟩
      · have HB : Hid (nameB (bys s) = false) := Lib.hid (nameB_bad p (by rw [HL.out]; exact hlt) (let_high a1).2.2)
        obtain ⟨c, hc⟩ : ∃ c : Nat, (Utf8.decode s p).1 = c := ⟨_, rfl⟩
        obtain ⟨d, hd⟩ : ∃ d : Nat, (Utf8.decode s p).2 = d := ⟨_, rfl⟩
        rw [hc, hd] at hnx
        rw [hc] at a2
        have HL1 : Hid (letB (c : Int) = false) := Lib.hid (let_high (by omega)).1
        have HL2 : Hid (ltrB (c : Int) = false) := Lib.hid (let_high (by omega)).2.1
        clear hc hd a1 a2 hpl
        rcases Nat.eq_zero_or_pos p with h0 | h0
        · subst h0
          go_wp2_with (first | (go_at_call 82; refine (pLetter_any _ _).mono ?_; rintro e w' ⟨rfl, rfl⟩; rw [HL1.out]) | (go_at_call 83; refine (pLater_any _ _).mono ?_; rintro e w' ⟨rfl, rfl⟩; rw [HL2.out]) | fail)
          go_ret
          exact ⟨by rw [HB.out]; rfl, iter_bel w s _⟩
        · have hp0 : (p == 0) = false := by simp; omega
          have hp1 : ¬ (p : Int) = 0 := by omega
          go_wp2_with (first | (go_at_call 82; refine (pLetter_any _ _).mono ?_; rintro e w' ⟨rfl, rfl⟩; rw [HL1.out]) | (go_at_call 83; refine (pLater_any _ _).mono ?_; rintro e w' ⟨rfl, rfl⟩; rw [HL2.out]) | fail)
          go_ret
          exact ⟨by rw [HB.out]; rfl, iter_bel w s _⟩
    · obtain rfl : p = s.size := by omega
      have HB : Hid (nameB (bys s) = true) := Lib.hid (nameB_good (by rw [HL.out]; omega) (by rw [HL.out]; omega) (hfst.out (by omega)) (fun i hi => hall.out i (by rw [HL.out] at hi; exact hi)))
      have hnx : ∀ ty, (Instr.next (.pointer (some ⟨w.heap.size, 0, none⟩)) true ty).run Try.prog (w.iter s s.size) = _ := fun ty => run_next_end w s s.size ty hlt
      go_wp2
      go_ret
      exact ⟨by rw [HB.out]; rfl, iter_bel w s _⟩
end Go.Proofs.Ytcmbdhmhkfhjfaa
namespace Go.Proofs.Ytcmbdhmhkfhjfaa
open Go.RowKit
set_option linter.unusedVariables false

/-- An alarm as a value; what Step and Ack give. -/
def almV (a : Alm) : Value := .agg #[.int .i64 a.st, .bool a.wt]
def stepR (r : Alm × Int) : Value := .tuple #[almV r.1, .int .i64 r.2]
def ackR (r : Alm × Bool) : Value := .tuple #[almV r.1, .bool r.2]
theorem chkL_ok {l : Lim} (h : okL l = true) : chkL l = 0 := by unfold chkL; rw [h]; rfl
theorem chkL_bad {l : Lim} (h : okL l = false) : chkL l = 27 := by unfold chkL; rw [h]; rfl
theorem isSt_no {st : Int} (h0 : ¬ st = 0) (h1 : ¬ st = 1) (h2 : ¬ st = 2) : isSt st = false := by unfold isSt; simp [h0, h1, h2]

end Go.Proofs.Ytcmbdhmhkfhjfaa
namespace Go.Proofs.Ytcmbdhmhkfhjfaa
open Go.RowKit
set_option linter.unusedVariables false

theorem bel_two (w : World) (a b : Obj) : Below w.heap.size w ((w.alloc a).alloc b) := (bel_alloc w a).alloc (by simp) b
end Go.Proofs.Ytcmbdhmhkfhjfaa
namespace Go.Proofs.Ytcmbdhmhkfhjfaa
open Go.RowKit
set_option linter.unusedVariables false

def fitsB8 (use : Bool) (v : Int) : Bool := bif use then decide (v ≥ -1099511627776) && decide (v ≤ 1099511627776) else decide (v = 0)
theorem fits_any8 (use : Bool) (v : Int) (w : World) : Calls Try.prog 94 #[.bool use, .int .i64 v] w fun e w' => e = .returned (.bool (fitsB8 use v)) ∧ w' = w := by
  cases use
  · have HB : Hid (fitsB8 false v = (v == 0)) := Lib.hid (by unfold fitsB8; rw [cond_false]; by_cases h : v = 0 <;> simp [h])
    rw [HB.out]
    go_enter Try.func94, Try.ntmps94
    go_wp2
    go_ret
    exact ⟨rfl, rfl⟩
  · by_cases h : v ≥ -1099511627776
    · have HB : Hid (fitsB8 true v = decide (v ≤ 1099511627776)) := Lib.hid (by unfold fitsB8; rw [cond_true, decide_eq_true h, Bool.true_and])
      rw [HB.out]
      go_enter Try.func94, Try.ntmps94
      go_wp2
      go_ret
      exact ⟨rfl, rfl⟩
    · have HB : Hid (fitsB8 true v = false) := Lib.hid (by unfold fitsB8; rw [cond_true, decide_eq_false h, Bool.false_and])
      rw [HB.out]
      go_enter Try.func94, Try.ntmps94
      go_wp2
      go_ret
      exact ⟨rfl, rfl⟩

theorem fits_false8 {use : Bool} {v : Int} (h : fitsB8 use v = false) : (beyB v = true) ∨ (use = false ∧ v ≠ 0) := by
  cases use
  · right
    refine ⟨rfl, ?_⟩
    simpa [fitsB8] using h
  · left
    simp only [fitsB8, cond_true, Bool.and_eq_false_iff, decide_eq_false_iff_not] at h
    simp only [beyB, Bool.or_eq_true, decide_eq_true_eq]
    omega
theorem fits_true8 {use : Bool} {v : Int} (h : fitsB8 use v = true) : beyB v = false ∧ (use = true ∨ v = 0) := by
  cases use
  · have h0 : v = 0 := by simpa [fitsB8] using h
    subst h0
    exact ⟨rfl, .inr rfl⟩
  · simp only [fitsB8, cond_true, Bool.and_eq_true, decide_eq_true_eq] at h
    refine ⟨?_, .inl rfl⟩
    simp only [beyB, Bool.or_eq_false_iff, decide_eq_false_iff_not]
    omega

theorem pchk_cases (l : Lim) (P : Prop)
    (c1 : l.hy < 0 → chkL l = 27 → P)
    (c2 : ¬ l.hy < 0 → l.hy > 1099511627776 → chkL l = 27 → P)
    (c3 : ¬ l.hy < 0 → ¬ l.hy > 1099511627776 → fitsB8 l.ul l.lo = false → chkL l = 27 → P)
    (c4 : ¬ l.hy < 0 → ¬ l.hy > 1099511627776 → fitsB8 l.ul l.lo = true → fitsB8 l.uh l.hi = false → chkL l = 27 → P)
    (c5 : ¬ l.hy < 0 → ¬ l.hy > 1099511627776 → fitsB8 l.ul l.lo = true → fitsB8 l.uh l.hi = true → l.ul = false → chkL l = 0 → P)
    (c6 : ¬ l.hy < 0 → ¬ l.hy > 1099511627776 → fitsB8 l.ul l.lo = true → fitsB8 l.uh l.hi = true → l.ul = true → l.uh = false → chkL l = 0 → P)
    (c7 : ¬ l.hy < 0 → ¬ l.hy > 1099511627776 → fitsB8 l.ul l.lo = true → fitsB8 l.uh l.hi = true → l.ul = true → l.uh = true → l.hy ≥ l.hi - l.lo → chkL l = 27 → P)
    (c8 : ¬ l.hy < 0 → ¬ l.hy > 1099511627776 → fitsB8 l.ul l.lo = true → fitsB8 l.uh l.hi = true → l.ul = true → l.uh = true → ¬ l.hy ≥ l.hi - l.lo → chkL l = 0 → P) : P := by
  cases h3 : fitsB8 l.ul l.lo
  case false =>
    refine chk_cases l P c1 c2 ?_ ?_ ?_ ?_ ?_ ?_ ?_ ?_ ?_ ?_
    all_goals intro h1 h2
    · intro _; exact c3 h1 h2 h3
    · intro _ _; exact c3 h1 h2 h3
    · intro _ _ _ _; exact c3 h1 h2 h3
    · intro _ _ _ _ _ _; exact c3 h1 h2 h3
    · intro _ _ _ _ _; exact c3 h1 h2 h3
    all_goals
      intros
      rcases fits_false8 h3 with h | ⟨h, h'⟩
      · simp_all
      · simp_all
  case true =>
  obtain ⟨t1, t2⟩ := fits_true8 h3
  cases h4 : fitsB8 l.uh l.hi
  case false =>
    refine chk_cases l P c1 c2 ?_ ?_ ?_ ?_ ?_ ?_ ?_ ?_ ?_ ?_
    all_goals intro h1 h2
    · intro h; rw [t1] at h; cases h
    · intro _ _; exact c4 h1 h2 h3 h4
    · intro _ _ h h'; rw [h] at t2; rcases t2 with t2 | t2
      · cases t2
      · exact absurd t2 h'
    · intro _ _ _ _ _ _; exact c4 h1 h2 h3 h4
    · intro _ _ _ _ _; exact c4 h1 h2 h3 h4
    all_goals
      intros
      rcases fits_false8 h4 with h | ⟨h, h'⟩
      · simp_all
      · simp_all
  case true =>
  obtain ⟨u1, u2⟩ := fits_true8 h4
  refine chk_cases l P c1 c2 ?_ ?_ ?_ ?_ ?_ ?_ ?_ ?_ ?_ ?_
  all_goals intro h1 h2
  · intro h; rw [t1] at h; cases h
  · intro _ h; rw [u1] at h; cases h
  · intro _ _ h h'; rw [h] at t2; rcases t2 with t2 | t2
    · cases t2
    · exact absurd t2 h'
  · intro _ _ _ _ h h'; rw [h] at u2; rcases u2 with u2 | u2
    · cases u2
    · exact absurd u2 h'
  · intro _ _ _ h h'; rw [h] at u2; rcases u2 with u2 | u2
    · cases u2
    · exact absurd u2 h'
  · intro _ _ h _ _ _; exact c5 h1 h2 h3 h4 h
  · intro _ _ h _ _; exact c5 h1 h2 h3 h4 h
  · intro _ _ h h' _; exact c6 h1 h2 h3 h4 h h'
  · intro _ _ h h' h9; exact c7 h1 h2 h3 h4 h h' h9
  · intro _ _ h h' h9; exact c8 h1 h2 h3 h4 h h' h9

set_option maxHeartbeats 2000000 in
theorem Check8_any (ul uh la : Bool) (lo hi hy : Int) (w : World) : Calls Try.prog 85 #[.agg #[.bool ul, .bool uh, .bool la, .int .i64 lo, .int .i64 hi, .int .i64 hy]] w fun e w' => e = .returned (.int .i64 (chkL ⟨ul, uh, la, lo, hi, hy⟩)) ∧ Below w.heap.size w w' := by
  have bel := bel_alloc w (.cells #[.bool ul, .bool uh, .bool la, .int .i64 lo, .int .i64 hi, .int .i64 hy] 47)
  refine pchk_cases ⟨ul, uh, la, lo, hi, hy⟩ _ ?_ ?_ ?_ ?_ ?_ ?_ ?_ ?_ <;> simp only
  · intro h1 HC
    rw [HC]
    clear HC
    go_enter Try.func85, Try.ntmps85
    go_wp2
    go_ret
    exact ⟨rfl, bel⟩
  · intro h1 h2 HC
    rw [HC]
    clear HC
    go_enter Try.func85, Try.ntmps85
    go_wp2
    go_ret
    exact ⟨rfl, bel⟩
  · intro h1 h2 h3 HC
    rw [HC]
    clear HC
    go_enter Try.func85, Try.ntmps85
    go_wp2_with fail
    refine (fits_any8 ul lo _).mono ?_
    rintro e w' ⟨rfl, rfl⟩
    rw [h3]
    go_wp2
    go_ret
    exact ⟨rfl, bel⟩
  · intro h1 h2 h3 h4 HC
    rw [HC]
    clear HC
    go_enter Try.func85, Try.ntmps85
    go_wp2_with fail
    refine (fits_any8 ul lo _).mono ?_
    rintro e w' ⟨rfl, rfl⟩
    rw [h3]
    go_wp2_with fail
    refine (fits_any8 uh hi _).mono ?_
    rintro e w' ⟨rfl, rfl⟩
    rw [h4]
    go_wp2
    go_ret
    exact ⟨rfl, bel⟩
  · intro h1 h2 h3 h4 h5 HC
    rw [HC]
    clear HC
    subst h5
    go_enter Try.func85, Try.ntmps85
    go_wp2_with fail
    refine (fits_any8 false lo _).mono ?_
    rintro e w' ⟨rfl, rfl⟩
    rw [h3]
    go_wp2_with fail
    refine (fits_any8 uh hi _).mono ?_
    rintro e w' ⟨rfl, rfl⟩
    rw [h4]
    go_wp2
    go_ret
    exact ⟨rfl, bel⟩
  · intro h1 h2 h3 h4 h5 h6 HC
    rw [HC]
    clear HC
    subst h5 h6
    go_enter Try.func85, Try.ntmps85
    go_wp2_with fail
    refine (fits_any8 true lo _).mono ?_
    rintro e w' ⟨rfl, rfl⟩
    rw [h3]
    go_wp2_with fail
    refine (fits_any8 false hi _).mono ?_
    rintro e w' ⟨rfl, rfl⟩
    rw [h4]
    go_wp2
    go_ret
    exact ⟨rfl, bel⟩
  all_goals
    intro h1 h2 h3 h4 h5 h6 h9 HC
    rw [HC]
    clear HC
    subst h5 h6
    have hw : IntKind.i64.wrap (hi - lo) = hi - lo := by
      have := bey_false (fits_true8 h3).1
      have := bey_false (fits_true8 h4).1
      rw [IntKind.wrap_i64]; omega
    go_enter Try.func85, Try.ntmps85
    go_wp2_with fail
    refine (fits_any8 true lo _).mono ?_
    rintro e w' ⟨rfl, rfl⟩
    rw [h3]
    go_wp2_with fail
    refine (fits_any8 true hi _).mono ?_
    rintro e w' ⟨rfl, rfl⟩
    rw [h4]
    go_wp2
    go_ret
    exact ⟨rfl, bel⟩

/-- What the sides' functions say; g: the box of the limits. -/
def leftLow (l : Lim) (v : Int) : Bool := !l.ul || decide (v > l.lo + l.hy)
def leftHigh (l : Lim) (v : Int) : Bool := !l.uh || decide (v < l.hi - l.hy)
end Go.Proofs.Ytcmbdhmhkfhjfaa
namespace Go.Proofs.Ytcmbdhmhkfhjfaa
open Go.RowKit
set_option linter.unusedVariables false
set_option maxRecDepth 100000
attribute [local go_sem ↓] ldTag_fold

theorem Width9_any (nm : ByteArray) (un ki ad ev : Int) (we sg sw : Bool) (mu di aa de qu : Int) (ul uh la : Bool) (lo hi hy : Int) (w : World) : Calls Try.prog 13 #[.agg #[.string nm, .int .i64 un, .int .i64 ki, .int .i64 ad, .int .i64 ev, .bool we, .bool sg, .bool sw, .int .i64 mu, .int .i64 di, .int .i64 aa, .int .i64 de, .int .i64 qu, .bool ul, .bool uh, .bool la, .int .i64 lo, .int .i64 hi, .int .i64 hy]] w fun e w' => e = .returned (.int .i64 (widT ⟨nm, un, ki, ad, ev, we, sg, sw, mu, di, aa, de, qu, ul, uh, la, lo, hi, hy⟩)) ∧ Below w.heap.size w w' := by
  have bel := bel_alloc w (.cells #[.string nm, .int .i64 un, .int .i64 ki, .int .i64 ad, .int .i64 ev, .bool we, .bool sg, .bool sw, .int .i64 mu, .int .i64 di, .int .i64 aa, .int .i64 de, .int .i64 qu, .bool ul, .bool uh, .bool la, .int .i64 lo, .int .i64 hi, .int .i64 hy] 49)
  cases we
  · have HW : Hid (widT ⟨nm, un, ki, ad, ev, false, sg, sw, mu, di, aa, de, qu, ul, uh, la, lo, hi, hy⟩ = 1) := Lib.hid (by simp [widT])
    rw [HW.out]
    go_enter Try.func13, Try.ntmps13
    go_wp2
    go_ret
    exact ⟨rfl, bel⟩
  by_cases h3 : ki = 3
  · subst h3
    have HW : Hid (widT ⟨nm, un, 3, ad, ev, true, sg, sw, mu, di, aa, de, qu, ul, uh, la, lo, hi, hy⟩ = 2) := Lib.hid rfl
    rw [HW.out]
    go_enter Try.func13, Try.ntmps13
    go_wp2
    go_ret
    exact ⟨rfl, bel⟩
  by_cases h4 : ki = 4
  · subst h4
    have HW : Hid (widT ⟨nm, un, 4, ad, ev, true, sg, sw, mu, di, aa, de, qu, ul, uh, la, lo, hi, hy⟩ = 2) := Lib.hid rfl
    rw [HW.out]
    go_enter Try.func13, Try.ntmps13
    go_wp2
    go_ret
    exact ⟨rfl, bel⟩
  · have HW : Hid (widT ⟨nm, un, ki, ad, ev, true, sg, sw, mu, di, aa, de, qu, ul, uh, la, lo, hi, hy⟩ = 1) := Lib.hid (by simp [widT, h3, h4])
    have e3 : (ki == 3) = false := beq_false_of_ne h3
    have e4 : (ki == 4) = false := beq_false_of_ne h4
    rw [HW.out]
    go_enter Try.func13, Try.ntmps13
    go_wp2
    go_ret
    exact ⟨rfl, bel⟩

def lieB (v a b : Int) : Bool := decide (v ≥ a) && decide (v ≤ b)
theorem lies_any (v a b : Int) (w : World) : Calls Try.prog 66 #[.int .i64 v, .int .i64 a, .int .i64 b] w fun e w' => e = .returned (.bool (lieB v a b)) ∧ w' = w := by
  by_cases h : v ≥ a
  · have HB : Hid (lieB v a b = decide (v ≤ b)) := Lib.hid (by unfold lieB; rw [decide_eq_true h, Bool.true_and])
    rw [HB.out]
    go_enter Try.func66, Try.ntmps66
    go_wp2
    go_ret
    exact ⟨rfl, rfl⟩
  · have HB : Hid (lieB v a b = false) := Lib.hid (by unfold lieB; rw [decide_eq_false h, Bool.false_and])
    rw [HB.out]
    go_enter Try.func66, Try.ntmps66
    go_wp2
    go_ret
    exact ⟨rfl, rfl⟩
theorem lieB_yes {v a b : Int} (h1 : ¬ v < a) (h2 : ¬ v > b) : lieB v a b = true := by
  unfold lieB; rw [decide_eq_true (show v ≥ a by omega), decide_eq_true (show v ≤ b by omega)]; rfl
theorem lieB_low {v a b : Int} (h1 : v < a) : lieB v a b = false := by
  unfold lieB; rw [decide_eq_false (show ¬ v ≥ a by omega)]; rfl
theorem lieB_high {v a b : Int} (h1 : v > b) : lieB v a b = false := by
  unfold lieB; rw [decide_eq_false (show ¬ v ≤ b by omega), Bool.and_false]

/-- What is wrong with what a tag's words mean. -/
def meanT (t : Tg) : Int :=
  bif !decide (t.sc.Ok) then 25
  else bif decide (t.ki ≤ 2) && !bitS t then 25
  else bif !decide (chkB t.de t.qu = 0) then 26
  else chkL t.li
theorem mean_cases (t : Tg) (P : Prop) (c10 : chkS t.sc = 25 → meanT t = 25 → P) (c11 : chkS t.sc = 0 → t.ki ≤ 2 → bitS t = false → meanT t = 25 → P)
    (c12 : chkS t.sc = 0 → (¬ t.ki ≤ 2 ∨ bitS t = true) → chkB t.de t.qu = 26 → meanT t = 26 → P)
    (c13 : chkS t.sc = 0 → (¬ t.ki ≤ 2 ∨ bitS t = true) → chkB t.de t.qu = 0 → meanT t = chkL t.li → P) : P := by
  unfold meanT at c10 c11 c12 c13
  by_cases h10 : t.sc.Ok
  case neg => exact c10 (chkS_no h10) (by simp [h10])
  have hs := chkS_yes h10
  by_cases h11 : t.ki ≤ 2 ∧ bitS t = false
  · exact c11 hs h11.1 h11.2 (by simp [h10, h11])
  have h12 : (decide (t.ki ≤ 2) && !bitS t) = false := by
    by_cases h : t.ki ≤ 2
    · cases hb : bitS t
      · exact absurd ⟨h, hb⟩ h11
      · simp
    · simp [h]
  have h13 : ¬ t.ki ≤ 2 ∨ bitS t = true := by
    by_cases h : t.ki ≤ 2
    · cases hb : bitS t
      · exact absurd ⟨h, hb⟩ h11
      · exact .inr rfl
    · exact .inl h
  rcases chkB_two t.de t.qu with hb | hb
  · exact c13 hs h13 hb (by simp only [decide_eq_true h10, h12, hb]; rfl)
  · exact c12 hs h13 hb (by simp only [decide_eq_true h10, h12, hb]; rfl)
set_option maxHeartbeats 1000000 in
theorem cm_10 (nm : ByteArray) (un ki ad ev : Int) (we sg sw : Bool) (mu di aa de qu : Int) (ul uh la : Bool) (lo hi hy : Int) (w : World) (S0 : chkS ⟨we, sg, sw, mu, di, aa⟩ = 25) : Calls Try.prog 67 #[.agg #[.string nm, .int .i64 un, .int .i64 ki, .int .i64 ad, .int .i64 ev, .bool we, .bool sg, .bool sw, .int .i64 mu, .int .i64 di, .int .i64 aa, .int .i64 de, .int .i64 qu, .bool ul, .bool uh, .bool la, .int .i64 lo, .int .i64 hi, .int .i64 hy]] w fun e w' => e = .returned (.int .i64 25) ∧ Below w.heap.size w w' := by
  have h0 := heap_alloc_new w (.cells #[.string nm, .int .i64 un, .int .i64 ki, .int .i64 ad, .int .i64 ev, .bool we, .bool sg, .bool sw, .int .i64 mu, .int .i64 di, .int .i64 aa, .int .i64 de, .int .i64 qu, .bool ul, .bool uh, .bool la, .int .i64 lo, .int .i64 hi, .int .i64 hy] 49)
  have bel0 := bel_alloc w (.cells #[.string nm, .int .i64 un, .int .i64 ki, .int .i64 ad, .int .i64 ev, .bool we, .bool sg, .bool sw, .int .i64 mu, .int .i64 di, .int .i64 aa, .int .i64 de, .int .i64 qu, .bool ul, .bool uh, .bool la, .int .i64 lo, .int .i64 hi, .int .i64 hy] 49)
  have hld := ldTag_run (b := w.heap.size) (o := 0) rfl (rangeB (cs := [.string nm, .int .i64 un, .int .i64 ki, .int .i64 ad, .int .i64 ev, .bool we, .bool sg, .bool sw, .int .i64 mu, .int .i64 di, .int .i64 aa, .int .i64 de, .int .i64 qu, .bool ul, .bool uh, .bool la, .int .i64 lo, .int .i64 hi, .int .i64 hy]) h0)
  go_enter Try.func67, Try.ntmps67
  go_wp2_with fail
  refine (Check6_any we sg sw mu di aa _).mono ?_
  rintro e w1 ⟨rfl, b1⟩
  rw [S0]
  have h1 := keepB b1 h0
  have bel1 := bel0.trans (b1.mono bel0.size)
  clear hld b1 h0 bel0
  obtain ⟨c0, c1, c2, c3, c4, c5, c6, c7, c8, c9, c10, c11, c12, c13, c14, c15, c16, c17, c18⟩ := of19 nm un ki ad ev we sg sw mu di aa de qu ul uh la lo hi hy h1
  go_wp2
  go_ret
  exact ⟨rfl, bel1⟩
set_option maxHeartbeats 1000000 in
theorem cm_11we1 (nm : ByteArray) (un ad ev : Int) (sg sw : Bool) (mu di aa de qu : Int) (ul uh la : Bool) (lo hi hy : Int) (w : World) (S : chkS ⟨true, sg, sw, mu, di, aa⟩ = 0)  : Calls Try.prog 67 #[.agg #[.string nm, .int .i64 un, .int .i64 1, .int .i64 ad, .int .i64 ev, .bool true, .bool sg, .bool sw, .int .i64 mu, .int .i64 di, .int .i64 aa, .int .i64 de, .int .i64 qu, .bool ul, .bool uh, .bool la, .int .i64 lo, .int .i64 hi, .int .i64 hy]] w fun e w' => e = .returned (.int .i64 25) ∧ Below w.heap.size w w' := by
  have h0 := heap_alloc_new w (.cells #[.string nm, .int .i64 un, .int .i64 1, .int .i64 ad, .int .i64 ev, .bool true, .bool sg, .bool sw, .int .i64 mu, .int .i64 di, .int .i64 aa, .int .i64 de, .int .i64 qu, .bool ul, .bool uh, .bool la, .int .i64 lo, .int .i64 hi, .int .i64 hy] 49)
  have bel0 := bel_alloc w (.cells #[.string nm, .int .i64 un, .int .i64 1, .int .i64 ad, .int .i64 ev, .bool true, .bool sg, .bool sw, .int .i64 mu, .int .i64 di, .int .i64 aa, .int .i64 de, .int .i64 qu, .bool ul, .bool uh, .bool la, .int .i64 lo, .int .i64 hi, .int .i64 hy] 49)
  have hld := ldTag_run (b := w.heap.size) (o := 0) rfl (rangeB (cs := [.string nm, .int .i64 un, .int .i64 1, .int .i64 ad, .int .i64 ev, .bool true, .bool sg, .bool sw, .int .i64 mu, .int .i64 di, .int .i64 aa, .int .i64 de, .int .i64 qu, .bool ul, .bool uh, .bool la, .int .i64 lo, .int .i64 hi, .int .i64 hy]) h0)
  go_enter Try.func67, Try.ntmps67
  go_wp2_with fail
  refine (Check6_any true sg sw mu di aa _).mono ?_
  rintro e w1 ⟨rfl, b1⟩
  rw [S]
  have h1 := keepB b1 h0
  have bel1 := bel0.trans (b1.mono bel0.size)
  clear hld b1 h0 bel0
  obtain ⟨c0, c1, c2, c3, c4, c5, c6, c7, c8, c9, c10, c11, c12, c13, c14, c15, c16, c17, c18⟩ := of19 nm un 1 ad ev true sg sw mu di aa de qu ul uh la lo hi hy h1
  go_wp2
  go_ret
  exact ⟨rfl, bel1⟩
set_option maxHeartbeats 1000000 in
theorem cm_11sg1 (nm : ByteArray) (un ad ev : Int) (we sw : Bool) (mu di aa de qu : Int) (ul uh la : Bool) (lo hi hy : Int) (w : World) (S : chkS ⟨we, true, sw, mu, di, aa⟩ = 0)  : Calls Try.prog 67 #[.agg #[.string nm, .int .i64 un, .int .i64 1, .int .i64 ad, .int .i64 ev, .bool we, .bool true, .bool sw, .int .i64 mu, .int .i64 di, .int .i64 aa, .int .i64 de, .int .i64 qu, .bool ul, .bool uh, .bool la, .int .i64 lo, .int .i64 hi, .int .i64 hy]] w fun e w' => e = .returned (.int .i64 25) ∧ Below w.heap.size w w' := by
  have h0 := heap_alloc_new w (.cells #[.string nm, .int .i64 un, .int .i64 1, .int .i64 ad, .int .i64 ev, .bool we, .bool true, .bool sw, .int .i64 mu, .int .i64 di, .int .i64 aa, .int .i64 de, .int .i64 qu, .bool ul, .bool uh, .bool la, .int .i64 lo, .int .i64 hi, .int .i64 hy] 49)
  have bel0 := bel_alloc w (.cells #[.string nm, .int .i64 un, .int .i64 1, .int .i64 ad, .int .i64 ev, .bool we, .bool true, .bool sw, .int .i64 mu, .int .i64 di, .int .i64 aa, .int .i64 de, .int .i64 qu, .bool ul, .bool uh, .bool la, .int .i64 lo, .int .i64 hi, .int .i64 hy] 49)
  have hld := ldTag_run (b := w.heap.size) (o := 0) rfl (rangeB (cs := [.string nm, .int .i64 un, .int .i64 1, .int .i64 ad, .int .i64 ev, .bool we, .bool true, .bool sw, .int .i64 mu, .int .i64 di, .int .i64 aa, .int .i64 de, .int .i64 qu, .bool ul, .bool uh, .bool la, .int .i64 lo, .int .i64 hi, .int .i64 hy]) h0)
  go_enter Try.func67, Try.ntmps67
  go_wp2_with fail
  refine (Check6_any we true sw mu di aa _).mono ?_
  rintro e w1 ⟨rfl, b1⟩
  rw [S]
  have h1 := keepB b1 h0
  have bel1 := bel0.trans (b1.mono bel0.size)
  clear hld b1 h0 bel0
  obtain ⟨c0, c1, c2, c3, c4, c5, c6, c7, c8, c9, c10, c11, c12, c13, c14, c15, c16, c17, c18⟩ := of19 nm un 1 ad ev we true sw mu di aa de qu ul uh la lo hi hy h1
  go_wp2
  go_ret
  exact ⟨rfl, bel1⟩
set_option maxHeartbeats 1000000 in
theorem cm_11sw1 (nm : ByteArray) (un ad ev : Int) (we sg : Bool) (mu di aa de qu : Int) (ul uh la : Bool) (lo hi hy : Int) (w : World) (S : chkS ⟨we, sg, true, mu, di, aa⟩ = 0)  : Calls Try.prog 67 #[.agg #[.string nm, .int .i64 un, .int .i64 1, .int .i64 ad, .int .i64 ev, .bool we, .bool sg, .bool true, .int .i64 mu, .int .i64 di, .int .i64 aa, .int .i64 de, .int .i64 qu, .bool ul, .bool uh, .bool la, .int .i64 lo, .int .i64 hi, .int .i64 hy]] w fun e w' => e = .returned (.int .i64 25) ∧ Below w.heap.size w w' := by
  have h0 := heap_alloc_new w (.cells #[.string nm, .int .i64 un, .int .i64 1, .int .i64 ad, .int .i64 ev, .bool we, .bool sg, .bool true, .int .i64 mu, .int .i64 di, .int .i64 aa, .int .i64 de, .int .i64 qu, .bool ul, .bool uh, .bool la, .int .i64 lo, .int .i64 hi, .int .i64 hy] 49)
  have bel0 := bel_alloc w (.cells #[.string nm, .int .i64 un, .int .i64 1, .int .i64 ad, .int .i64 ev, .bool we, .bool sg, .bool true, .int .i64 mu, .int .i64 di, .int .i64 aa, .int .i64 de, .int .i64 qu, .bool ul, .bool uh, .bool la, .int .i64 lo, .int .i64 hi, .int .i64 hy] 49)
  have hld := ldTag_run (b := w.heap.size) (o := 0) rfl (rangeB (cs := [.string nm, .int .i64 un, .int .i64 1, .int .i64 ad, .int .i64 ev, .bool we, .bool sg, .bool true, .int .i64 mu, .int .i64 di, .int .i64 aa, .int .i64 de, .int .i64 qu, .bool ul, .bool uh, .bool la, .int .i64 lo, .int .i64 hi, .int .i64 hy]) h0)
  go_enter Try.func67, Try.ntmps67
  go_wp2_with fail
  refine (Check6_any we sg true mu di aa _).mono ?_
  rintro e w1 ⟨rfl, b1⟩
  rw [S]
  have h1 := keepB b1 h0
  have bel1 := bel0.trans (b1.mono bel0.size)
  clear hld b1 h0 bel0
  obtain ⟨c0, c1, c2, c3, c4, c5, c6, c7, c8, c9, c10, c11, c12, c13, c14, c15, c16, c17, c18⟩ := of19 nm un 1 ad ev we sg true mu di aa de qu ul uh la lo hi hy h1
  go_wp2
  go_ret
  exact ⟨rfl, bel1⟩
set_option maxHeartbeats 1000000 in
theorem cm_11mu1 (nm : ByteArray) (un ad ev : Int) (we sg sw : Bool) (mu di aa de qu : Int) (ul uh la : Bool) (lo hi hy : Int) (w : World) (S : chkS ⟨we, sg, sw, mu, di, aa⟩ = 0) (hx : mu ≠ 1) : Calls Try.prog 67 #[.agg #[.string nm, .int .i64 un, .int .i64 1, .int .i64 ad, .int .i64 ev, .bool we, .bool sg, .bool sw, .int .i64 mu, .int .i64 di, .int .i64 aa, .int .i64 de, .int .i64 qu, .bool ul, .bool uh, .bool la, .int .i64 lo, .int .i64 hi, .int .i64 hy]] w fun e w' => e = .returned (.int .i64 25) ∧ Below w.heap.size w w' := by
  have hx2 : (mu == 1) = false := beq_false_of_ne hx
  have h0 := heap_alloc_new w (.cells #[.string nm, .int .i64 un, .int .i64 1, .int .i64 ad, .int .i64 ev, .bool we, .bool sg, .bool sw, .int .i64 mu, .int .i64 di, .int .i64 aa, .int .i64 de, .int .i64 qu, .bool ul, .bool uh, .bool la, .int .i64 lo, .int .i64 hi, .int .i64 hy] 49)
  have bel0 := bel_alloc w (.cells #[.string nm, .int .i64 un, .int .i64 1, .int .i64 ad, .int .i64 ev, .bool we, .bool sg, .bool sw, .int .i64 mu, .int .i64 di, .int .i64 aa, .int .i64 de, .int .i64 qu, .bool ul, .bool uh, .bool la, .int .i64 lo, .int .i64 hi, .int .i64 hy] 49)
  have hld := ldTag_run (b := w.heap.size) (o := 0) rfl (rangeB (cs := [.string nm, .int .i64 un, .int .i64 1, .int .i64 ad, .int .i64 ev, .bool we, .bool sg, .bool sw, .int .i64 mu, .int .i64 di, .int .i64 aa, .int .i64 de, .int .i64 qu, .bool ul, .bool uh, .bool la, .int .i64 lo, .int .i64 hi, .int .i64 hy]) h0)
  go_enter Try.func67, Try.ntmps67
  go_wp2_with fail
  refine (Check6_any we sg sw mu di aa _).mono ?_
  rintro e w1 ⟨rfl, b1⟩
  rw [S]
  have h1 := keepB b1 h0
  have bel1 := bel0.trans (b1.mono bel0.size)
  clear hld b1 h0 bel0
  obtain ⟨c0, c1, c2, c3, c4, c5, c6, c7, c8, c9, c10, c11, c12, c13, c14, c15, c16, c17, c18⟩ := of19 nm un 1 ad ev we sg sw mu di aa de qu ul uh la lo hi hy h1
  go_wp2
  go_ret
  exact ⟨rfl, bel1⟩
set_option maxHeartbeats 1000000 in
theorem cm_11di1 (nm : ByteArray) (un ad ev : Int) (we sg sw : Bool) (mu di aa de qu : Int) (ul uh la : Bool) (lo hi hy : Int) (w : World) (S : chkS ⟨we, sg, sw, mu, di, aa⟩ = 0) (hx : di ≠ 1) : Calls Try.prog 67 #[.agg #[.string nm, .int .i64 un, .int .i64 1, .int .i64 ad, .int .i64 ev, .bool we, .bool sg, .bool sw, .int .i64 mu, .int .i64 di, .int .i64 aa, .int .i64 de, .int .i64 qu, .bool ul, .bool uh, .bool la, .int .i64 lo, .int .i64 hi, .int .i64 hy]] w fun e w' => e = .returned (.int .i64 25) ∧ Below w.heap.size w w' := by
  have hx2 : (di == 1) = false := beq_false_of_ne hx
  have h0 := heap_alloc_new w (.cells #[.string nm, .int .i64 un, .int .i64 1, .int .i64 ad, .int .i64 ev, .bool we, .bool sg, .bool sw, .int .i64 mu, .int .i64 di, .int .i64 aa, .int .i64 de, .int .i64 qu, .bool ul, .bool uh, .bool la, .int .i64 lo, .int .i64 hi, .int .i64 hy] 49)
  have bel0 := bel_alloc w (.cells #[.string nm, .int .i64 un, .int .i64 1, .int .i64 ad, .int .i64 ev, .bool we, .bool sg, .bool sw, .int .i64 mu, .int .i64 di, .int .i64 aa, .int .i64 de, .int .i64 qu, .bool ul, .bool uh, .bool la, .int .i64 lo, .int .i64 hi, .int .i64 hy] 49)
  have hld := ldTag_run (b := w.heap.size) (o := 0) rfl (rangeB (cs := [.string nm, .int .i64 un, .int .i64 1, .int .i64 ad, .int .i64 ev, .bool we, .bool sg, .bool sw, .int .i64 mu, .int .i64 di, .int .i64 aa, .int .i64 de, .int .i64 qu, .bool ul, .bool uh, .bool la, .int .i64 lo, .int .i64 hi, .int .i64 hy]) h0)
  go_enter Try.func67, Try.ntmps67
  go_wp2_with fail
  refine (Check6_any we sg sw mu di aa _).mono ?_
  rintro e w1 ⟨rfl, b1⟩
  rw [S]
  have h1 := keepB b1 h0
  have bel1 := bel0.trans (b1.mono bel0.size)
  clear hld b1 h0 bel0
  obtain ⟨c0, c1, c2, c3, c4, c5, c6, c7, c8, c9, c10, c11, c12, c13, c14, c15, c16, c17, c18⟩ := of19 nm un 1 ad ev we sg sw mu di aa de qu ul uh la lo hi hy h1
  go_wp2
  go_ret
  exact ⟨rfl, bel1⟩
set_option maxHeartbeats 1000000 in
theorem cm_11aa1 (nm : ByteArray) (un ad ev : Int) (we sg sw : Bool) (mu di aa de qu : Int) (ul uh la : Bool) (lo hi hy : Int) (w : World) (S : chkS ⟨we, sg, sw, mu, di, aa⟩ = 0) (hx : aa ≠ 0) : Calls Try.prog 67 #[.agg #[.string nm, .int .i64 un, .int .i64 1, .int .i64 ad, .int .i64 ev, .bool we, .bool sg, .bool sw, .int .i64 mu, .int .i64 di, .int .i64 aa, .int .i64 de, .int .i64 qu, .bool ul, .bool uh, .bool la, .int .i64 lo, .int .i64 hi, .int .i64 hy]] w fun e w' => e = .returned (.int .i64 25) ∧ Below w.heap.size w w' := by
  have hx2 : (aa == 0) = false := beq_false_of_ne hx
  have h0 := heap_alloc_new w (.cells #[.string nm, .int .i64 un, .int .i64 1, .int .i64 ad, .int .i64 ev, .bool we, .bool sg, .bool sw, .int .i64 mu, .int .i64 di, .int .i64 aa, .int .i64 de, .int .i64 qu, .bool ul, .bool uh, .bool la, .int .i64 lo, .int .i64 hi, .int .i64 hy] 49)
  have bel0 := bel_alloc w (.cells #[.string nm, .int .i64 un, .int .i64 1, .int .i64 ad, .int .i64 ev, .bool we, .bool sg, .bool sw, .int .i64 mu, .int .i64 di, .int .i64 aa, .int .i64 de, .int .i64 qu, .bool ul, .bool uh, .bool la, .int .i64 lo, .int .i64 hi, .int .i64 hy] 49)
  have hld := ldTag_run (b := w.heap.size) (o := 0) rfl (rangeB (cs := [.string nm, .int .i64 un, .int .i64 1, .int .i64 ad, .int .i64 ev, .bool we, .bool sg, .bool sw, .int .i64 mu, .int .i64 di, .int .i64 aa, .int .i64 de, .int .i64 qu, .bool ul, .bool uh, .bool la, .int .i64 lo, .int .i64 hi, .int .i64 hy]) h0)
  go_enter Try.func67, Try.ntmps67
  go_wp2_with fail
  refine (Check6_any we sg sw mu di aa _).mono ?_
  rintro e w1 ⟨rfl, b1⟩
  rw [S]
  have h1 := keepB b1 h0
  have bel1 := bel0.trans (b1.mono bel0.size)
  clear hld b1 h0 bel0
  obtain ⟨c0, c1, c2, c3, c4, c5, c6, c7, c8, c9, c10, c11, c12, c13, c14, c15, c16, c17, c18⟩ := of19 nm un 1 ad ev we sg sw mu di aa de qu ul uh la lo hi hy h1
  go_wp2
  go_ret
  exact ⟨rfl, bel1⟩
set_option maxHeartbeats 1000000 in
theorem cm_11we2 (nm : ByteArray) (un ad ev : Int) (sg sw : Bool) (mu di aa de qu : Int) (ul uh la : Bool) (lo hi hy : Int) (w : World) (S : chkS ⟨true, sg, sw, mu, di, aa⟩ = 0)  : Calls Try.prog 67 #[.agg #[.string nm, .int .i64 un, .int .i64 2, .int .i64 ad, .int .i64 ev, .bool true, .bool sg, .bool sw, .int .i64 mu, .int .i64 di, .int .i64 aa, .int .i64 de, .int .i64 qu, .bool ul, .bool uh, .bool la, .int .i64 lo, .int .i64 hi, .int .i64 hy]] w fun e w' => e = .returned (.int .i64 25) ∧ Below w.heap.size w w' := by
  have h0 := heap_alloc_new w (.cells #[.string nm, .int .i64 un, .int .i64 2, .int .i64 ad, .int .i64 ev, .bool true, .bool sg, .bool sw, .int .i64 mu, .int .i64 di, .int .i64 aa, .int .i64 de, .int .i64 qu, .bool ul, .bool uh, .bool la, .int .i64 lo, .int .i64 hi, .int .i64 hy] 49)
  have bel0 := bel_alloc w (.cells #[.string nm, .int .i64 un, .int .i64 2, .int .i64 ad, .int .i64 ev, .bool true, .bool sg, .bool sw, .int .i64 mu, .int .i64 di, .int .i64 aa, .int .i64 de, .int .i64 qu, .bool ul, .bool uh, .bool la, .int .i64 lo, .int .i64 hi, .int .i64 hy] 49)
  have hld := ldTag_run (b := w.heap.size) (o := 0) rfl (rangeB (cs := [.string nm, .int .i64 un, .int .i64 2, .int .i64 ad, .int .i64 ev, .bool true, .bool sg, .bool sw, .int .i64 mu, .int .i64 di, .int .i64 aa, .int .i64 de, .int .i64 qu, .bool ul, .bool uh, .bool la, .int .i64 lo, .int .i64 hi, .int .i64 hy]) h0)
  go_enter Try.func67, Try.ntmps67
  go_wp2_with fail
  refine (Check6_any true sg sw mu di aa _).mono ?_
  rintro e w1 ⟨rfl, b1⟩
  rw [S]
  have h1 := keepB b1 h0
  have bel1 := bel0.trans (b1.mono bel0.size)
  clear hld b1 h0 bel0
  obtain ⟨c0, c1, c2, c3, c4, c5, c6, c7, c8, c9, c10, c11, c12, c13, c14, c15, c16, c17, c18⟩ := of19 nm un 2 ad ev true sg sw mu di aa de qu ul uh la lo hi hy h1
  go_wp2
  go_ret
  exact ⟨rfl, bel1⟩
set_option maxHeartbeats 1000000 in
theorem cm_11sg2 (nm : ByteArray) (un ad ev : Int) (we sw : Bool) (mu di aa de qu : Int) (ul uh la : Bool) (lo hi hy : Int) (w : World) (S : chkS ⟨we, true, sw, mu, di, aa⟩ = 0)  : Calls Try.prog 67 #[.agg #[.string nm, .int .i64 un, .int .i64 2, .int .i64 ad, .int .i64 ev, .bool we, .bool true, .bool sw, .int .i64 mu, .int .i64 di, .int .i64 aa, .int .i64 de, .int .i64 qu, .bool ul, .bool uh, .bool la, .int .i64 lo, .int .i64 hi, .int .i64 hy]] w fun e w' => e = .returned (.int .i64 25) ∧ Below w.heap.size w w' := by
  have h0 := heap_alloc_new w (.cells #[.string nm, .int .i64 un, .int .i64 2, .int .i64 ad, .int .i64 ev, .bool we, .bool true, .bool sw, .int .i64 mu, .int .i64 di, .int .i64 aa, .int .i64 de, .int .i64 qu, .bool ul, .bool uh, .bool la, .int .i64 lo, .int .i64 hi, .int .i64 hy] 49)
  have bel0 := bel_alloc w (.cells #[.string nm, .int .i64 un, .int .i64 2, .int .i64 ad, .int .i64 ev, .bool we, .bool true, .bool sw, .int .i64 mu, .int .i64 di, .int .i64 aa, .int .i64 de, .int .i64 qu, .bool ul, .bool uh, .bool la, .int .i64 lo, .int .i64 hi, .int .i64 hy] 49)
  have hld := ldTag_run (b := w.heap.size) (o := 0) rfl (rangeB (cs := [.string nm, .int .i64 un, .int .i64 2, .int .i64 ad, .int .i64 ev, .bool we, .bool true, .bool sw, .int .i64 mu, .int .i64 di, .int .i64 aa, .int .i64 de, .int .i64 qu, .bool ul, .bool uh, .bool la, .int .i64 lo, .int .i64 hi, .int .i64 hy]) h0)
  go_enter Try.func67, Try.ntmps67
  go_wp2_with fail
  refine (Check6_any we true sw mu di aa _).mono ?_
  rintro e w1 ⟨rfl, b1⟩
  rw [S]
  have h1 := keepB b1 h0
  have bel1 := bel0.trans (b1.mono bel0.size)
  clear hld b1 h0 bel0
  obtain ⟨c0, c1, c2, c3, c4, c5, c6, c7, c8, c9, c10, c11, c12, c13, c14, c15, c16, c17, c18⟩ := of19 nm un 2 ad ev we true sw mu di aa de qu ul uh la lo hi hy h1
  go_wp2
  go_ret
  exact ⟨rfl, bel1⟩
set_option maxHeartbeats 1000000 in
theorem cm_11sw2 (nm : ByteArray) (un ad ev : Int) (we sg : Bool) (mu di aa de qu : Int) (ul uh la : Bool) (lo hi hy : Int) (w : World) (S : chkS ⟨we, sg, true, mu, di, aa⟩ = 0)  : Calls Try.prog 67 #[.agg #[.string nm, .int .i64 un, .int .i64 2, .int .i64 ad, .int .i64 ev, .bool we, .bool sg, .bool true, .int .i64 mu, .int .i64 di, .int .i64 aa, .int .i64 de, .int .i64 qu, .bool ul, .bool uh, .bool la, .int .i64 lo, .int .i64 hi, .int .i64 hy]] w fun e w' => e = .returned (.int .i64 25) ∧ Below w.heap.size w w' := by
  have h0 := heap_alloc_new w (.cells #[.string nm, .int .i64 un, .int .i64 2, .int .i64 ad, .int .i64 ev, .bool we, .bool sg, .bool true, .int .i64 mu, .int .i64 di, .int .i64 aa, .int .i64 de, .int .i64 qu, .bool ul, .bool uh, .bool la, .int .i64 lo, .int .i64 hi, .int .i64 hy] 49)
  have bel0 := bel_alloc w (.cells #[.string nm, .int .i64 un, .int .i64 2, .int .i64 ad, .int .i64 ev, .bool we, .bool sg, .bool true, .int .i64 mu, .int .i64 di, .int .i64 aa, .int .i64 de, .int .i64 qu, .bool ul, .bool uh, .bool la, .int .i64 lo, .int .i64 hi, .int .i64 hy] 49)
  have hld := ldTag_run (b := w.heap.size) (o := 0) rfl (rangeB (cs := [.string nm, .int .i64 un, .int .i64 2, .int .i64 ad, .int .i64 ev, .bool we, .bool sg, .bool true, .int .i64 mu, .int .i64 di, .int .i64 aa, .int .i64 de, .int .i64 qu, .bool ul, .bool uh, .bool la, .int .i64 lo, .int .i64 hi, .int .i64 hy]) h0)
  go_enter Try.func67, Try.ntmps67
  go_wp2_with fail
  refine (Check6_any we sg true mu di aa _).mono ?_
  rintro e w1 ⟨rfl, b1⟩
  rw [S]
  have h1 := keepB b1 h0
  have bel1 := bel0.trans (b1.mono bel0.size)
  clear hld b1 h0 bel0
  obtain ⟨c0, c1, c2, c3, c4, c5, c6, c7, c8, c9, c10, c11, c12, c13, c14, c15, c16, c17, c18⟩ := of19 nm un 2 ad ev we sg true mu di aa de qu ul uh la lo hi hy h1
  go_wp2
  go_ret
  exact ⟨rfl, bel1⟩
set_option maxHeartbeats 1000000 in
theorem cm_11mu2 (nm : ByteArray) (un ad ev : Int) (we sg sw : Bool) (mu di aa de qu : Int) (ul uh la : Bool) (lo hi hy : Int) (w : World) (S : chkS ⟨we, sg, sw, mu, di, aa⟩ = 0) (hx : mu ≠ 1) : Calls Try.prog 67 #[.agg #[.string nm, .int .i64 un, .int .i64 2, .int .i64 ad, .int .i64 ev, .bool we, .bool sg, .bool sw, .int .i64 mu, .int .i64 di, .int .i64 aa, .int .i64 de, .int .i64 qu, .bool ul, .bool uh, .bool la, .int .i64 lo, .int .i64 hi, .int .i64 hy]] w fun e w' => e = .returned (.int .i64 25) ∧ Below w.heap.size w w' := by
  have hx2 : (mu == 1) = false := beq_false_of_ne hx
  have h0 := heap_alloc_new w (.cells #[.string nm, .int .i64 un, .int .i64 2, .int .i64 ad, .int .i64 ev, .bool we, .bool sg, .bool sw, .int .i64 mu, .int .i64 di, .int .i64 aa, .int .i64 de, .int .i64 qu, .bool ul, .bool uh, .bool la, .int .i64 lo, .int .i64 hi, .int .i64 hy] 49)
  have bel0 := bel_alloc w (.cells #[.string nm, .int .i64 un, .int .i64 2, .int .i64 ad, .int .i64 ev, .bool we, .bool sg, .bool sw, .int .i64 mu, .int .i64 di, .int .i64 aa, .int .i64 de, .int .i64 qu, .bool ul, .bool uh, .bool la, .int .i64 lo, .int .i64 hi, .int .i64 hy] 49)
  have hld := ldTag_run (b := w.heap.size) (o := 0) rfl (rangeB (cs := [.string nm, .int .i64 un, .int .i64 2, .int .i64 ad, .int .i64 ev, .bool we, .bool sg, .bool sw, .int .i64 mu, .int .i64 di, .int .i64 aa, .int .i64 de, .int .i64 qu, .bool ul, .bool uh, .bool la, .int .i64 lo, .int .i64 hi, .int .i64 hy]) h0)
  go_enter Try.func67, Try.ntmps67
  go_wp2_with fail
  refine (Check6_any we sg sw mu di aa _).mono ?_
  rintro e w1 ⟨rfl, b1⟩
  rw [S]
  have h1 := keepB b1 h0
  have bel1 := bel0.trans (b1.mono bel0.size)
  clear hld b1 h0 bel0
  obtain ⟨c0, c1, c2, c3, c4, c5, c6, c7, c8, c9, c10, c11, c12, c13, c14, c15, c16, c17, c18⟩ := of19 nm un 2 ad ev we sg sw mu di aa de qu ul uh la lo hi hy h1
  go_wp2
  go_ret
  exact ⟨rfl, bel1⟩
set_option maxHeartbeats 1000000 in
theorem cm_11di2 (nm : ByteArray) (un ad ev : Int) (we sg sw : Bool) (mu di aa de qu : Int) (ul uh la : Bool) (lo hi hy : Int) (w : World) (S : chkS ⟨we, sg, sw, mu, di, aa⟩ = 0) (hx : di ≠ 1) : Calls Try.prog 67 #[.agg #[.string nm, .int .i64 un, .int .i64 2, .int .i64 ad, .int .i64 ev, .bool we, .bool sg, .bool sw, .int .i64 mu, .int .i64 di, .int .i64 aa, .int .i64 de, .int .i64 qu, .bool ul, .bool uh, .bool la, .int .i64 lo, .int .i64 hi, .int .i64 hy]] w fun e w' => e = .returned (.int .i64 25) ∧ Below w.heap.size w w' := by
  have hx2 : (di == 1) = false := beq_false_of_ne hx
  have h0 := heap_alloc_new w (.cells #[.string nm, .int .i64 un, .int .i64 2, .int .i64 ad, .int .i64 ev, .bool we, .bool sg, .bool sw, .int .i64 mu, .int .i64 di, .int .i64 aa, .int .i64 de, .int .i64 qu, .bool ul, .bool uh, .bool la, .int .i64 lo, .int .i64 hi, .int .i64 hy] 49)
  have bel0 := bel_alloc w (.cells #[.string nm, .int .i64 un, .int .i64 2, .int .i64 ad, .int .i64 ev, .bool we, .bool sg, .bool sw, .int .i64 mu, .int .i64 di, .int .i64 aa, .int .i64 de, .int .i64 qu, .bool ul, .bool uh, .bool la, .int .i64 lo, .int .i64 hi, .int .i64 hy] 49)
  have hld := ldTag_run (b := w.heap.size) (o := 0) rfl (rangeB (cs := [.string nm, .int .i64 un, .int .i64 2, .int .i64 ad, .int .i64 ev, .bool we, .bool sg, .bool sw, .int .i64 mu, .int .i64 di, .int .i64 aa, .int .i64 de, .int .i64 qu, .bool ul, .bool uh, .bool la, .int .i64 lo, .int .i64 hi, .int .i64 hy]) h0)
  go_enter Try.func67, Try.ntmps67
  go_wp2_with fail
  refine (Check6_any we sg sw mu di aa _).mono ?_
  rintro e w1 ⟨rfl, b1⟩
  rw [S]
  have h1 := keepB b1 h0
  have bel1 := bel0.trans (b1.mono bel0.size)
  clear hld b1 h0 bel0
  obtain ⟨c0, c1, c2, c3, c4, c5, c6, c7, c8, c9, c10, c11, c12, c13, c14, c15, c16, c17, c18⟩ := of19 nm un 2 ad ev we sg sw mu di aa de qu ul uh la lo hi hy h1
  go_wp2
  go_ret
  exact ⟨rfl, bel1⟩
set_option maxHeartbeats 1000000 in
theorem cm_11aa2 (nm : ByteArray) (un ad ev : Int) (we sg sw : Bool) (mu di aa de qu : Int) (ul uh la : Bool) (lo hi hy : Int) (w : World) (S : chkS ⟨we, sg, sw, mu, di, aa⟩ = 0) (hx : aa ≠ 0) : Calls Try.prog 67 #[.agg #[.string nm, .int .i64 un, .int .i64 2, .int .i64 ad, .int .i64 ev, .bool we, .bool sg, .bool sw, .int .i64 mu, .int .i64 di, .int .i64 aa, .int .i64 de, .int .i64 qu, .bool ul, .bool uh, .bool la, .int .i64 lo, .int .i64 hi, .int .i64 hy]] w fun e w' => e = .returned (.int .i64 25) ∧ Below w.heap.size w w' := by
  have hx2 : (aa == 0) = false := beq_false_of_ne hx
  have h0 := heap_alloc_new w (.cells #[.string nm, .int .i64 un, .int .i64 2, .int .i64 ad, .int .i64 ev, .bool we, .bool sg, .bool sw, .int .i64 mu, .int .i64 di, .int .i64 aa, .int .i64 de, .int .i64 qu, .bool ul, .bool uh, .bool la, .int .i64 lo, .int .i64 hi, .int .i64 hy] 49)
  have bel0 := bel_alloc w (.cells #[.string nm, .int .i64 un, .int .i64 2, .int .i64 ad, .int .i64 ev, .bool we, .bool sg, .bool sw, .int .i64 mu, .int .i64 di, .int .i64 aa, .int .i64 de, .int .i64 qu, .bool ul, .bool uh, .bool la, .int .i64 lo, .int .i64 hi, .int .i64 hy] 49)
  have hld := ldTag_run (b := w.heap.size) (o := 0) rfl (rangeB (cs := [.string nm, .int .i64 un, .int .i64 2, .int .i64 ad, .int .i64 ev, .bool we, .bool sg, .bool sw, .int .i64 mu, .int .i64 di, .int .i64 aa, .int .i64 de, .int .i64 qu, .bool ul, .bool uh, .bool la, .int .i64 lo, .int .i64 hi, .int .i64 hy]) h0)
  go_enter Try.func67, Try.ntmps67
  go_wp2_with fail
  refine (Check6_any we sg sw mu di aa _).mono ?_
  rintro e w1 ⟨rfl, b1⟩
  rw [S]
  have h1 := keepB b1 h0
  have bel1 := bel0.trans (b1.mono bel0.size)
  clear hld b1 h0 bel0
  obtain ⟨c0, c1, c2, c3, c4, c5, c6, c7, c8, c9, c10, c11, c12, c13, c14, c15, c16, c17, c18⟩ := of19 nm un 2 ad ev we sg sw mu di aa de qu ul uh la lo hi hy h1
  go_wp2
  go_ret
  exact ⟨rfl, bel1⟩
set_option maxHeartbeats 1000000 in
theorem cm_121 (nm : ByteArray) (un ad ev : Int) (de qu : Int) (ul uh la : Bool) (lo hi hy : Int) (w : World) (S : chkS ⟨false, false, false, 1, 1, 0⟩ = 0) (B0 : chkB de qu = 26) : Calls Try.prog 67 #[.agg #[.string nm, .int .i64 un, .int .i64 1, .int .i64 ad, .int .i64 ev, .bool false, .bool false, .bool false, .int .i64 1, .int .i64 1, .int .i64 0, .int .i64 de, .int .i64 qu, .bool ul, .bool uh, .bool la, .int .i64 lo, .int .i64 hi, .int .i64 hy]] w fun e w' => e = .returned (.int .i64 26) ∧ Below w.heap.size w w' := by
  have h0 := heap_alloc_new w (.cells #[.string nm, .int .i64 un, .int .i64 1, .int .i64 ad, .int .i64 ev, .bool false, .bool false, .bool false, .int .i64 1, .int .i64 1, .int .i64 0, .int .i64 de, .int .i64 qu, .bool ul, .bool uh, .bool la, .int .i64 lo, .int .i64 hi, .int .i64 hy] 49)
  have bel0 := bel_alloc w (.cells #[.string nm, .int .i64 un, .int .i64 1, .int .i64 ad, .int .i64 ev, .bool false, .bool false, .bool false, .int .i64 1, .int .i64 1, .int .i64 0, .int .i64 de, .int .i64 qu, .bool ul, .bool uh, .bool la, .int .i64 lo, .int .i64 hi, .int .i64 hy] 49)
  have hld := ldTag_run (b := w.heap.size) (o := 0) rfl (rangeB (cs := [.string nm, .int .i64 un, .int .i64 1, .int .i64 ad, .int .i64 ev, .bool false, .bool false, .bool false, .int .i64 1, .int .i64 1, .int .i64 0, .int .i64 de, .int .i64 qu, .bool ul, .bool uh, .bool la, .int .i64 lo, .int .i64 hi, .int .i64 hy]) h0)
  go_enter Try.func67, Try.ntmps67
  go_wp2_with fail
  refine (Check6_any false false false 1 1 0 _).mono ?_
  rintro e w1 ⟨rfl, b1⟩
  rw [S]
  have h1 := keepB b1 h0
  have bel1 := bel0.trans (b1.mono bel0.size)
  clear hld b1 h0 bel0
  obtain ⟨c0, c1, c2, c3, c4, c5, c6, c7, c8, c9, c10, c11, c12, c13, c14, c15, c16, c17, c18⟩ := of19 nm un 1 ad ev false false false 1 1 0 de qu ul uh la lo hi hy h1
  go_wp2_with fail
  refine (Check7_any de qu _).mono ?_
  rintro e w2 ⟨rfl, b2⟩
  rw [B0]
  have h2 := keepB b2 h1
  have bel2 := bel1.trans (b2.mono bel1.size)
  clear c0 c1 c2 c3 c4 c5 c6 c7 c8 c9 c10 c11 c12 c13 c14 c15 c16 c17 c18 b2 h1 bel1
  obtain ⟨c0, c1, c2, c3, c4, c5, c6, c7, c8, c9, c10, c11, c12, c13, c14, c15, c16, c17, c18⟩ := of19 nm un 1 ad ev false false false 1 1 0 de qu ul uh la lo hi hy h2
  go_wp2
  go_ret
  exact ⟨rfl, bel2⟩
set_option maxHeartbeats 1000000 in
theorem cm_131 (nm : ByteArray) (un ad ev : Int) (de qu : Int) (ul uh la : Bool) (lo hi hy : Int) (w : World) (S : chkS ⟨false, false, false, 1, 1, 0⟩ = 0) (B0 : chkB de qu = 0) : Calls Try.prog 67 #[.agg #[.string nm, .int .i64 un, .int .i64 1, .int .i64 ad, .int .i64 ev, .bool false, .bool false, .bool false, .int .i64 1, .int .i64 1, .int .i64 0, .int .i64 de, .int .i64 qu, .bool ul, .bool uh, .bool la, .int .i64 lo, .int .i64 hi, .int .i64 hy]] w fun e w' => e = .returned (.int .i64 (chkL ⟨ul, uh, la, lo, hi, hy⟩)) ∧ Below w.heap.size w w' := by
  have h0 := heap_alloc_new w (.cells #[.string nm, .int .i64 un, .int .i64 1, .int .i64 ad, .int .i64 ev, .bool false, .bool false, .bool false, .int .i64 1, .int .i64 1, .int .i64 0, .int .i64 de, .int .i64 qu, .bool ul, .bool uh, .bool la, .int .i64 lo, .int .i64 hi, .int .i64 hy] 49)
  have bel0 := bel_alloc w (.cells #[.string nm, .int .i64 un, .int .i64 1, .int .i64 ad, .int .i64 ev, .bool false, .bool false, .bool false, .int .i64 1, .int .i64 1, .int .i64 0, .int .i64 de, .int .i64 qu, .bool ul, .bool uh, .bool la, .int .i64 lo, .int .i64 hi, .int .i64 hy] 49)
  have hld := ldTag_run (b := w.heap.size) (o := 0) rfl (rangeB (cs := [.string nm, .int .i64 un, .int .i64 1, .int .i64 ad, .int .i64 ev, .bool false, .bool false, .bool false, .int .i64 1, .int .i64 1, .int .i64 0, .int .i64 de, .int .i64 qu, .bool ul, .bool uh, .bool la, .int .i64 lo, .int .i64 hi, .int .i64 hy]) h0)
  go_enter Try.func67, Try.ntmps67
  go_wp2_with fail
  refine (Check6_any false false false 1 1 0 _).mono ?_
  rintro e w1 ⟨rfl, b1⟩
  rw [S]
  have h1 := keepB b1 h0
  have bel1 := bel0.trans (b1.mono bel0.size)
  clear hld b1 h0 bel0
  obtain ⟨c0, c1, c2, c3, c4, c5, c6, c7, c8, c9, c10, c11, c12, c13, c14, c15, c16, c17, c18⟩ := of19 nm un 1 ad ev false false false 1 1 0 de qu ul uh la lo hi hy h1
  go_wp2_with fail
  refine (Check7_any de qu _).mono ?_
  rintro e w2 ⟨rfl, b2⟩
  rw [B0]
  have h2 := keepB b2 h1
  have bel2 := bel1.trans (b2.mono bel1.size)
  clear c0 c1 c2 c3 c4 c5 c6 c7 c8 c9 c10 c11 c12 c13 c14 c15 c16 c17 c18 b2 h1 bel1
  obtain ⟨c0, c1, c2, c3, c4, c5, c6, c7, c8, c9, c10, c11, c12, c13, c14, c15, c16, c17, c18⟩ := of19 nm un 1 ad ev false false false 1 1 0 de qu ul uh la lo hi hy h2
  go_wp2_with fail
  refine (Check8_any ul uh la lo hi hy _).mono ?_
  rintro e w3 ⟨rfl, b3⟩
  go_wp2
  go_ret
  exact ⟨rfl, bel2.trans (b3.mono bel2.size)⟩
set_option maxHeartbeats 1000000 in
theorem cm_122 (nm : ByteArray) (un ad ev : Int) (de qu : Int) (ul uh la : Bool) (lo hi hy : Int) (w : World) (S : chkS ⟨false, false, false, 1, 1, 0⟩ = 0) (B0 : chkB de qu = 26) : Calls Try.prog 67 #[.agg #[.string nm, .int .i64 un, .int .i64 2, .int .i64 ad, .int .i64 ev, .bool false, .bool false, .bool false, .int .i64 1, .int .i64 1, .int .i64 0, .int .i64 de, .int .i64 qu, .bool ul, .bool uh, .bool la, .int .i64 lo, .int .i64 hi, .int .i64 hy]] w fun e w' => e = .returned (.int .i64 26) ∧ Below w.heap.size w w' := by
  have h0 := heap_alloc_new w (.cells #[.string nm, .int .i64 un, .int .i64 2, .int .i64 ad, .int .i64 ev, .bool false, .bool false, .bool false, .int .i64 1, .int .i64 1, .int .i64 0, .int .i64 de, .int .i64 qu, .bool ul, .bool uh, .bool la, .int .i64 lo, .int .i64 hi, .int .i64 hy] 49)
  have bel0 := bel_alloc w (.cells #[.string nm, .int .i64 un, .int .i64 2, .int .i64 ad, .int .i64 ev, .bool false, .bool false, .bool false, .int .i64 1, .int .i64 1, .int .i64 0, .int .i64 de, .int .i64 qu, .bool ul, .bool uh, .bool la, .int .i64 lo, .int .i64 hi, .int .i64 hy] 49)
  have hld := ldTag_run (b := w.heap.size) (o := 0) rfl (rangeB (cs := [.string nm, .int .i64 un, .int .i64 2, .int .i64 ad, .int .i64 ev, .bool false, .bool false, .bool false, .int .i64 1, .int .i64 1, .int .i64 0, .int .i64 de, .int .i64 qu, .bool ul, .bool uh, .bool la, .int .i64 lo, .int .i64 hi, .int .i64 hy]) h0)
  go_enter Try.func67, Try.ntmps67
  go_wp2_with fail
  refine (Check6_any false false false 1 1 0 _).mono ?_
  rintro e w1 ⟨rfl, b1⟩
  rw [S]
  have h1 := keepB b1 h0
  have bel1 := bel0.trans (b1.mono bel0.size)
  clear hld b1 h0 bel0
  obtain ⟨c0, c1, c2, c3, c4, c5, c6, c7, c8, c9, c10, c11, c12, c13, c14, c15, c16, c17, c18⟩ := of19 nm un 2 ad ev false false false 1 1 0 de qu ul uh la lo hi hy h1
  go_wp2_with fail
  refine (Check7_any de qu _).mono ?_
  rintro e w2 ⟨rfl, b2⟩
  rw [B0]
  have h2 := keepB b2 h1
  have bel2 := bel1.trans (b2.mono bel1.size)
  clear c0 c1 c2 c3 c4 c5 c6 c7 c8 c9 c10 c11 c12 c13 c14 c15 c16 c17 c18 b2 h1 bel1
  obtain ⟨c0, c1, c2, c3, c4, c5, c6, c7, c8, c9, c10, c11, c12, c13, c14, c15, c16, c17, c18⟩ := of19 nm un 2 ad ev false false false 1 1 0 de qu ul uh la lo hi hy h2
  go_wp2
  go_ret
  exact ⟨rfl, bel2⟩
set_option maxHeartbeats 1000000 in
theorem cm_132 (nm : ByteArray) (un ad ev : Int) (de qu : Int) (ul uh la : Bool) (lo hi hy : Int) (w : World) (S : chkS ⟨false, false, false, 1, 1, 0⟩ = 0) (B0 : chkB de qu = 0) : Calls Try.prog 67 #[.agg #[.string nm, .int .i64 un, .int .i64 2, .int .i64 ad, .int .i64 ev, .bool false, .bool false, .bool false, .int .i64 1, .int .i64 1, .int .i64 0, .int .i64 de, .int .i64 qu, .bool ul, .bool uh, .bool la, .int .i64 lo, .int .i64 hi, .int .i64 hy]] w fun e w' => e = .returned (.int .i64 (chkL ⟨ul, uh, la, lo, hi, hy⟩)) ∧ Below w.heap.size w w' := by
  have h0 := heap_alloc_new w (.cells #[.string nm, .int .i64 un, .int .i64 2, .int .i64 ad, .int .i64 ev, .bool false, .bool false, .bool false, .int .i64 1, .int .i64 1, .int .i64 0, .int .i64 de, .int .i64 qu, .bool ul, .bool uh, .bool la, .int .i64 lo, .int .i64 hi, .int .i64 hy] 49)
  have bel0 := bel_alloc w (.cells #[.string nm, .int .i64 un, .int .i64 2, .int .i64 ad, .int .i64 ev, .bool false, .bool false, .bool false, .int .i64 1, .int .i64 1, .int .i64 0, .int .i64 de, .int .i64 qu, .bool ul, .bool uh, .bool la, .int .i64 lo, .int .i64 hi, .int .i64 hy] 49)
  have hld := ldTag_run (b := w.heap.size) (o := 0) rfl (rangeB (cs := [.string nm, .int .i64 un, .int .i64 2, .int .i64 ad, .int .i64 ev, .bool false, .bool false, .bool false, .int .i64 1, .int .i64 1, .int .i64 0, .int .i64 de, .int .i64 qu, .bool ul, .bool uh, .bool la, .int .i64 lo, .int .i64 hi, .int .i64 hy]) h0)
  go_enter Try.func67, Try.ntmps67
  go_wp2_with fail
  refine (Check6_any false false false 1 1 0 _).mono ?_
  rintro e w1 ⟨rfl, b1⟩
  rw [S]
  have h1 := keepB b1 h0
  have bel1 := bel0.trans (b1.mono bel0.size)
  clear hld b1 h0 bel0
  obtain ⟨c0, c1, c2, c3, c4, c5, c6, c7, c8, c9, c10, c11, c12, c13, c14, c15, c16, c17, c18⟩ := of19 nm un 2 ad ev false false false 1 1 0 de qu ul uh la lo hi hy h1
  go_wp2_with fail
  refine (Check7_any de qu _).mono ?_
  rintro e w2 ⟨rfl, b2⟩
  rw [B0]
  have h2 := keepB b2 h1
  have bel2 := bel1.trans (b2.mono bel1.size)
  clear c0 c1 c2 c3 c4 c5 c6 c7 c8 c9 c10 c11 c12 c13 c14 c15 c16 c17 c18 b2 h1 bel1
  obtain ⟨c0, c1, c2, c3, c4, c5, c6, c7, c8, c9, c10, c11, c12, c13, c14, c15, c16, c17, c18⟩ := of19 nm un 2 ad ev false false false 1 1 0 de qu ul uh la lo hi hy h2
  go_wp2_with fail
  refine (Check8_any ul uh la lo hi hy _).mono ?_
  rintro e w3 ⟨rfl, b3⟩
  go_wp2
  go_ret
  exact ⟨rfl, bel2.trans (b3.mono bel2.size)⟩
set_option maxHeartbeats 1000000 in
theorem cm_123 (nm : ByteArray) (un ad ev : Int) (we sg sw : Bool) (mu di aa de qu : Int) (ul uh la : Bool) (lo hi hy : Int) (w : World) (S : chkS ⟨we, sg, sw, mu, di, aa⟩ = 0) (B0 : chkB de qu = 26) : Calls Try.prog 67 #[.agg #[.string nm, .int .i64 un, .int .i64 3, .int .i64 ad, .int .i64 ev, .bool we, .bool sg, .bool sw, .int .i64 mu, .int .i64 di, .int .i64 aa, .int .i64 de, .int .i64 qu, .bool ul, .bool uh, .bool la, .int .i64 lo, .int .i64 hi, .int .i64 hy]] w fun e w' => e = .returned (.int .i64 26) ∧ Below w.heap.size w w' := by
  have h0 := heap_alloc_new w (.cells #[.string nm, .int .i64 un, .int .i64 3, .int .i64 ad, .int .i64 ev, .bool we, .bool sg, .bool sw, .int .i64 mu, .int .i64 di, .int .i64 aa, .int .i64 de, .int .i64 qu, .bool ul, .bool uh, .bool la, .int .i64 lo, .int .i64 hi, .int .i64 hy] 49)
  have bel0 := bel_alloc w (.cells #[.string nm, .int .i64 un, .int .i64 3, .int .i64 ad, .int .i64 ev, .bool we, .bool sg, .bool sw, .int .i64 mu, .int .i64 di, .int .i64 aa, .int .i64 de, .int .i64 qu, .bool ul, .bool uh, .bool la, .int .i64 lo, .int .i64 hi, .int .i64 hy] 49)
  have hld := ldTag_run (b := w.heap.size) (o := 0) rfl (rangeB (cs := [.string nm, .int .i64 un, .int .i64 3, .int .i64 ad, .int .i64 ev, .bool we, .bool sg, .bool sw, .int .i64 mu, .int .i64 di, .int .i64 aa, .int .i64 de, .int .i64 qu, .bool ul, .bool uh, .bool la, .int .i64 lo, .int .i64 hi, .int .i64 hy]) h0)
  go_enter Try.func67, Try.ntmps67
  go_wp2_with fail
  refine (Check6_any we sg sw mu di aa _).mono ?_
  rintro e w1 ⟨rfl, b1⟩
  rw [S]
  have h1 := keepB b1 h0
  have bel1 := bel0.trans (b1.mono bel0.size)
  clear hld b1 h0 bel0
  obtain ⟨c0, c1, c2, c3, c4, c5, c6, c7, c8, c9, c10, c11, c12, c13, c14, c15, c16, c17, c18⟩ := of19 nm un 3 ad ev we sg sw mu di aa de qu ul uh la lo hi hy h1
  go_wp2_with fail
  refine (Check7_any de qu _).mono ?_
  rintro e w2 ⟨rfl, b2⟩
  rw [B0]
  have h2 := keepB b2 h1
  have bel2 := bel1.trans (b2.mono bel1.size)
  clear c0 c1 c2 c3 c4 c5 c6 c7 c8 c9 c10 c11 c12 c13 c14 c15 c16 c17 c18 b2 h1 bel1
  obtain ⟨c0, c1, c2, c3, c4, c5, c6, c7, c8, c9, c10, c11, c12, c13, c14, c15, c16, c17, c18⟩ := of19 nm un 3 ad ev we sg sw mu di aa de qu ul uh la lo hi hy h2
  go_wp2
  go_ret
  exact ⟨rfl, bel2⟩
set_option maxHeartbeats 1000000 in
theorem cm_133 (nm : ByteArray) (un ad ev : Int) (we sg sw : Bool) (mu di aa de qu : Int) (ul uh la : Bool) (lo hi hy : Int) (w : World) (S : chkS ⟨we, sg, sw, mu, di, aa⟩ = 0) (B0 : chkB de qu = 0) : Calls Try.prog 67 #[.agg #[.string nm, .int .i64 un, .int .i64 3, .int .i64 ad, .int .i64 ev, .bool we, .bool sg, .bool sw, .int .i64 mu, .int .i64 di, .int .i64 aa, .int .i64 de, .int .i64 qu, .bool ul, .bool uh, .bool la, .int .i64 lo, .int .i64 hi, .int .i64 hy]] w fun e w' => e = .returned (.int .i64 (chkL ⟨ul, uh, la, lo, hi, hy⟩)) ∧ Below w.heap.size w w' := by
  have h0 := heap_alloc_new w (.cells #[.string nm, .int .i64 un, .int .i64 3, .int .i64 ad, .int .i64 ev, .bool we, .bool sg, .bool sw, .int .i64 mu, .int .i64 di, .int .i64 aa, .int .i64 de, .int .i64 qu, .bool ul, .bool uh, .bool la, .int .i64 lo, .int .i64 hi, .int .i64 hy] 49)
  have bel0 := bel_alloc w (.cells #[.string nm, .int .i64 un, .int .i64 3, .int .i64 ad, .int .i64 ev, .bool we, .bool sg, .bool sw, .int .i64 mu, .int .i64 di, .int .i64 aa, .int .i64 de, .int .i64 qu, .bool ul, .bool uh, .bool la, .int .i64 lo, .int .i64 hi, .int .i64 hy] 49)
  have hld := ldTag_run (b := w.heap.size) (o := 0) rfl (rangeB (cs := [.string nm, .int .i64 un, .int .i64 3, .int .i64 ad, .int .i64 ev, .bool we, .bool sg, .bool sw, .int .i64 mu, .int .i64 di, .int .i64 aa, .int .i64 de, .int .i64 qu, .bool ul, .bool uh, .bool la, .int .i64 lo, .int .i64 hi, .int .i64 hy]) h0)
  go_enter Try.func67, Try.ntmps67
  go_wp2_with fail
  refine (Check6_any we sg sw mu di aa _).mono ?_
  rintro e w1 ⟨rfl, b1⟩
  rw [S]
  have h1 := keepB b1 h0
  have bel1 := bel0.trans (b1.mono bel0.size)
  clear hld b1 h0 bel0
  obtain ⟨c0, c1, c2, c3, c4, c5, c6, c7, c8, c9, c10, c11, c12, c13, c14, c15, c16, c17, c18⟩ := of19 nm un 3 ad ev we sg sw mu di aa de qu ul uh la lo hi hy h1
  go_wp2_with fail
  refine (Check7_any de qu _).mono ?_
  rintro e w2 ⟨rfl, b2⟩
  rw [B0]
  have h2 := keepB b2 h1
  have bel2 := bel1.trans (b2.mono bel1.size)
  clear c0 c1 c2 c3 c4 c5 c6 c7 c8 c9 c10 c11 c12 c13 c14 c15 c16 c17 c18 b2 h1 bel1
  obtain ⟨c0, c1, c2, c3, c4, c5, c6, c7, c8, c9, c10, c11, c12, c13, c14, c15, c16, c17, c18⟩ := of19 nm un 3 ad ev we sg sw mu di aa de qu ul uh la lo hi hy h2
  go_wp2_with fail
  refine (Check8_any ul uh la lo hi hy _).mono ?_
  rintro e w3 ⟨rfl, b3⟩
  go_wp2
  go_ret
  exact ⟨rfl, bel2.trans (b3.mono bel2.size)⟩
set_option maxHeartbeats 1000000 in
theorem cm_124 (nm : ByteArray) (un ad ev : Int) (we sg sw : Bool) (mu di aa de qu : Int) (ul uh la : Bool) (lo hi hy : Int) (w : World) (S : chkS ⟨we, sg, sw, mu, di, aa⟩ = 0) (B0 : chkB de qu = 26) : Calls Try.prog 67 #[.agg #[.string nm, .int .i64 un, .int .i64 4, .int .i64 ad, .int .i64 ev, .bool we, .bool sg, .bool sw, .int .i64 mu, .int .i64 di, .int .i64 aa, .int .i64 de, .int .i64 qu, .bool ul, .bool uh, .bool la, .int .i64 lo, .int .i64 hi, .int .i64 hy]] w fun e w' => e = .returned (.int .i64 26) ∧ Below w.heap.size w w' := by
  have h0 := heap_alloc_new w (.cells #[.string nm, .int .i64 un, .int .i64 4, .int .i64 ad, .int .i64 ev, .bool we, .bool sg, .bool sw, .int .i64 mu, .int .i64 di, .int .i64 aa, .int .i64 de, .int .i64 qu, .bool ul, .bool uh, .bool la, .int .i64 lo, .int .i64 hi, .int .i64 hy] 49)
  have bel0 := bel_alloc w (.cells #[.string nm, .int .i64 un, .int .i64 4, .int .i64 ad, .int .i64 ev, .bool we, .bool sg, .bool sw, .int .i64 mu, .int .i64 di, .int .i64 aa, .int .i64 de, .int .i64 qu, .bool ul, .bool uh, .bool la, .int .i64 lo, .int .i64 hi, .int .i64 hy] 49)
  have hld := ldTag_run (b := w.heap.size) (o := 0) rfl (rangeB (cs := [.string nm, .int .i64 un, .int .i64 4, .int .i64 ad, .int .i64 ev, .bool we, .bool sg, .bool sw, .int .i64 mu, .int .i64 di, .int .i64 aa, .int .i64 de, .int .i64 qu, .bool ul, .bool uh, .bool la, .int .i64 lo, .int .i64 hi, .int .i64 hy]) h0)
  go_enter Try.func67, Try.ntmps67
  go_wp2_with fail
  refine (Check6_any we sg sw mu di aa _).mono ?_
  rintro e w1 ⟨rfl, b1⟩
  rw [S]
  have h1 := keepB b1 h0
  have bel1 := bel0.trans (b1.mono bel0.size)
  clear hld b1 h0 bel0
  obtain ⟨c0, c1, c2, c3, c4, c5, c6, c7, c8, c9, c10, c11, c12, c13, c14, c15, c16, c17, c18⟩ := of19 nm un 4 ad ev we sg sw mu di aa de qu ul uh la lo hi hy h1
  go_wp2_with fail
  refine (Check7_any de qu _).mono ?_
  rintro e w2 ⟨rfl, b2⟩
  rw [B0]
  have h2 := keepB b2 h1
  have bel2 := bel1.trans (b2.mono bel1.size)
  clear c0 c1 c2 c3 c4 c5 c6 c7 c8 c9 c10 c11 c12 c13 c14 c15 c16 c17 c18 b2 h1 bel1
  obtain ⟨c0, c1, c2, c3, c4, c5, c6, c7, c8, c9, c10, c11, c12, c13, c14, c15, c16, c17, c18⟩ := of19 nm un 4 ad ev we sg sw mu di aa de qu ul uh la lo hi hy h2
  go_wp2
  go_ret
  exact ⟨rfl, bel2⟩
set_option maxHeartbeats 1000000 in
theorem cm_134 (nm : ByteArray) (un ad ev : Int) (we sg sw : Bool) (mu di aa de qu : Int) (ul uh la : Bool) (lo hi hy : Int) (w : World) (S : chkS ⟨we, sg, sw, mu, di, aa⟩ = 0) (B0 : chkB de qu = 0) : Calls Try.prog 67 #[.agg #[.string nm, .int .i64 un, .int .i64 4, .int .i64 ad, .int .i64 ev, .bool we, .bool sg, .bool sw, .int .i64 mu, .int .i64 di, .int .i64 aa, .int .i64 de, .int .i64 qu, .bool ul, .bool uh, .bool la, .int .i64 lo, .int .i64 hi, .int .i64 hy]] w fun e w' => e = .returned (.int .i64 (chkL ⟨ul, uh, la, lo, hi, hy⟩)) ∧ Below w.heap.size w w' := by
  have h0 := heap_alloc_new w (.cells #[.string nm, .int .i64 un, .int .i64 4, .int .i64 ad, .int .i64 ev, .bool we, .bool sg, .bool sw, .int .i64 mu, .int .i64 di, .int .i64 aa, .int .i64 de, .int .i64 qu, .bool ul, .bool uh, .bool la, .int .i64 lo, .int .i64 hi, .int .i64 hy] 49)
  have bel0 := bel_alloc w (.cells #[.string nm, .int .i64 un, .int .i64 4, .int .i64 ad, .int .i64 ev, .bool we, .bool sg, .bool sw, .int .i64 mu, .int .i64 di, .int .i64 aa, .int .i64 de, .int .i64 qu, .bool ul, .bool uh, .bool la, .int .i64 lo, .int .i64 hi, .int .i64 hy] 49)
  have hld := ldTag_run (b := w.heap.size) (o := 0) rfl (rangeB (cs := [.string nm, .int .i64 un, .int .i64 4, .int .i64 ad, .int .i64 ev, .bool we, .bool sg, .bool sw, .int .i64 mu, .int .i64 di, .int .i64 aa, .int .i64 de, .int .i64 qu, .bool ul, .bool uh, .bool la, .int .i64 lo, .int .i64 hi, .int .i64 hy]) h0)
  go_enter Try.func67, Try.ntmps67
  go_wp2_with fail
  refine (Check6_any we sg sw mu di aa _).mono ?_
  rintro e w1 ⟨rfl, b1⟩
  rw [S]
  have h1 := keepB b1 h0
  have bel1 := bel0.trans (b1.mono bel0.size)
  clear hld b1 h0 bel0
  obtain ⟨c0, c1, c2, c3, c4, c5, c6, c7, c8, c9, c10, c11, c12, c13, c14, c15, c16, c17, c18⟩ := of19 nm un 4 ad ev we sg sw mu di aa de qu ul uh la lo hi hy h1
  go_wp2_with fail
  refine (Check7_any de qu _).mono ?_
  rintro e w2 ⟨rfl, b2⟩
  rw [B0]
  have h2 := keepB b2 h1
  have bel2 := bel1.trans (b2.mono bel1.size)
  clear c0 c1 c2 c3 c4 c5 c6 c7 c8 c9 c10 c11 c12 c13 c14 c15 c16 c17 c18 b2 h1 bel1
  obtain ⟨c0, c1, c2, c3, c4, c5, c6, c7, c8, c9, c10, c11, c12, c13, c14, c15, c16, c17, c18⟩ := of19 nm un 4 ad ev we sg sw mu di aa de qu ul uh la lo hi hy h2
  go_wp2_with fail
  refine (Check8_any ul uh la lo hi hy _).mono ?_
  rintro e w3 ⟨rfl, b3⟩
  go_wp2
  go_ret
  exact ⟨rfl, bel2.trans (b3.mono bel2.size)⟩

theorem mean_any (nm : ByteArray) (un ki ad ev : Int) (we sg sw : Bool) (mu di aa de qu : Int) (ul uh la : Bool) (lo hi hy : Int) (w : World) (k1 : ¬ ki < 1) (k2 : ¬ ki > 4) : Calls Try.prog 67 #[.agg #[.string nm, .int .i64 un, .int .i64 ki, .int .i64 ad, .int .i64 ev, .bool we, .bool sg, .bool sw, .int .i64 mu, .int .i64 di, .int .i64 aa, .int .i64 de, .int .i64 qu, .bool ul, .bool uh, .bool la, .int .i64 lo, .int .i64 hi, .int .i64 hy]] w fun e w' => e = .returned (.int .i64 (meanT ⟨nm, un, ki, ad, ev, we, sg, sw, mu, di, aa, de, qu, ul, uh, la, lo, hi, hy⟩)) ∧ Below w.heap.size w w' := by
  refine mean_cases ⟨nm, un, ki, ad, ev, we, sg, sw, mu, di, aa, de, qu, ul, uh, la, lo, hi, hy⟩ _ ?_ ?_ ?_ ?_
  · intro S0 HC; rw [HC]; exact cm_10 nm un ki ad ev we sg sw mu di aa de qu ul uh la lo hi hy w S0
  · intro S kb hb HC
    rw [HC]
    have hk : ki = 1 ∨ ki = 2 := by
      have : ki ≤ 2 := kb
      omega
    rcases hk with rfl | rfl
    · rcases bitS_no hb with h | h | h | h | h | h
      · obtain rfl : we = true := h
        exact cm_11we1 nm un ad ev sg sw mu di aa de qu ul uh la lo hi hy w S
      · obtain rfl : sg = true := h
        exact cm_11sg1 nm un ad ev we sw mu di aa de qu ul uh la lo hi hy w S
      · obtain rfl : sw = true := h
        exact cm_11sw1 nm un ad ev we sg mu di aa de qu ul uh la lo hi hy w S
      · exact cm_11mu1 nm un ad ev we sg sw mu di aa de qu ul uh la lo hi hy w S h
      · exact cm_11di1 nm un ad ev we sg sw mu di aa de qu ul uh la lo hi hy w S h
      · exact cm_11aa1 nm un ad ev we sg sw mu di aa de qu ul uh la lo hi hy w S h
    · rcases bitS_no hb with h | h | h | h | h | h
      · obtain rfl : we = true := h
        exact cm_11we2 nm un ad ev sg sw mu di aa de qu ul uh la lo hi hy w S
      · obtain rfl : sg = true := h
        exact cm_11sg2 nm un ad ev we sw mu di aa de qu ul uh la lo hi hy w S
      · obtain rfl : sw = true := h
        exact cm_11sw2 nm un ad ev we sg mu di aa de qu ul uh la lo hi hy w S
      · exact cm_11mu2 nm un ad ev we sg sw mu di aa de qu ul uh la lo hi hy w S h
      · exact cm_11di2 nm un ad ev we sg sw mu di aa de qu ul uh la lo hi hy w S h
      · exact cm_11aa2 nm un ad ev we sg sw mu di aa de qu ul uh la lo hi hy w S h
  · intro S hb B0 HC
    rw [HC]
    have hk : ki = 1 ∨ ki = 2 ∨ ki = 3 ∨ ki = 4 := by omega
    rcases hk with rfl | rfl | rfl | rfl
    · obtain ⟨rfl, rfl, rfl, rfl, rfl, rfl⟩ := bitS_yes (hb.resolve_left (fun h => h (by show (1 : Int) ≤ 2; omega)))
      exact cm_121 nm un ad ev de qu ul uh la lo hi hy w S B0
    · obtain ⟨rfl, rfl, rfl, rfl, rfl, rfl⟩ := bitS_yes (hb.resolve_left (fun h => h (by show (2 : Int) ≤ 2; omega)))
      exact cm_122 nm un ad ev de qu ul uh la lo hi hy w S B0
    · exact cm_123 nm un ad ev we sg sw mu di aa de qu ul uh la lo hi hy w S B0
    · exact cm_124 nm un ad ev we sg sw mu di aa de qu ul uh la lo hi hy w S B0
  · intro S hb B HC
    rw [HC]
    have hk : ki = 1 ∨ ki = 2 ∨ ki = 3 ∨ ki = 4 := by omega
    rcases hk with rfl | rfl | rfl | rfl
    · obtain ⟨rfl, rfl, rfl, rfl, rfl, rfl⟩ := bitS_yes (hb.resolve_left (fun h => h (by show (1 : Int) ≤ 2; omega)))
      exact cm_131 nm un ad ev de qu ul uh la lo hi hy w S B
    · obtain ⟨rfl, rfl, rfl, rfl, rfl, rfl⟩ := bitS_yes (hb.resolve_left (fun h => h (by show (2 : Int) ≤ 2; omega)))
      exact cm_132 nm un ad ev de qu ul uh la lo hi hy w S B
    · exact cm_133 nm un ad ev we sg sw mu di aa de qu ul uh la lo hi hy w S B
    · exact cm_134 nm un ad ev we sg sw mu di aa de qu ul uh la lo hi hy w S B
end Go.Proofs.Ytcmbdhmhkfhjfaa
namespace Go.Proofs.Ytcmbdhmhkfhjfaa
open Go.RowKit
set_option linter.unusedVariables false
set_option maxRecDepth 100000

theorem run_neq_tag (t : Tg) (w : World) : (binOp .neq 49 (tgV t) (tgV t)).run Try.prog w = .ok (.bool false) w := by
  obtain ⟨nm, un, ki, ad, ev, we, sg, sw, mu, di, aa, de, qu, ul, uh, la, lo, hi, hy⟩ := t
  unfold tgV tgC
  simp [go_sem]
theorem run_eqGuard_tag (op : BinOp) (x y : Operand) (a b : Tg) (w : World) : (eqGuard op 49 x y (tgV a) (tgV b)).run Try.prog w = .ok () w :=
  run_eqGuard_agg w op _ x y _ _ (by kernel_rfl)
/-- A tag is stored in one step. -/
def stTag (v u : Value) : Sem Unit := Instr.storeAt 49 v u
theorem stTag_fold (v u : Value) : Instr.storeAt 49 v u = stTag v u := rfl
theorem tgC_one (t : Tg) : ∀ v ∈ tgC t, v.oneCell' = true := by
  obtain ⟨nm, un, ki, ad, ev, we, sg, sw, mu, di, aa, de, qu, ul, uh, la, lo, hi, hy⟩ := t
  intro v hv
  simp only [tgC, List.mem_cons, List.not_mem_nil, or_false] at hv
  rcases hv with rfl | rfl | rfl | rfl | rfl | rfl | rfl | rfl | rfl | rfl | rfl | rfl | rfl | rfl | rfl | rfl | rfl | rfl | rfl <;> rfl
theorem stTag_run {w : World} {b o : Nat} (t : Tg) (ht : w.there b o 19) : (stTag (.pointer (some ⟨b, o, none⟩)) (tgV t)).run Try.prog w = .ok () (w.setCells b o (tgC t)) :=
  run_storeAt_mid w b o _ (tgC t).toArray ht size_tag (all_oneCell_toArray (tgC_one t))
attribute [local go_sem ↓] ldTag_fold stTag_fold
attribute [local go_sem] run_neq_tag run_eqGuard_tag

theorem setL_after (arr : Array Value) (p : Nat) (vs : List Value) (i : Nat) (h : p + vs.length ≤ i) : (setL arr p vs)[i]? = arr[i]? := by
  induction vs generalizing arr p with
  | nil => rfl
  | cons v vs ih =>
    rw [List.length_cons] at h
    rw [setL, ih _ _ (by omega), Array.getElem?_setIfInBounds_ne (by omega)]
/-- One tag of a row of tags is another one. -/
theorem set_flat (L1 L2 : List Tg) (z t : Tg) (k : Nat) (hk : L1.length = k) : setL (flatV tgC (L1 ++ z :: L2)).toArray (k * 19) (tgC t) = (flatV tgC (L1 ++ t :: L2)).toArray := by
  have e1 : (flatV tgC L1).length = k * 19 := by rw [flatV_len tgC_len, hk]
  have key : ∀ u : Tg, ∀ i, ((flatV tgC (L1 ++ u :: L2)).toArray)[i]? = if i < k * 19 then (flatV tgC L1)[i]? else if i < k * 19 + 19 then (tgC u)[i - k * 19]? else (flatV tgC L2)[i - k * 19 - 19]? := by
    intro u i
    rw [List.getElem?_toArray, flatV_append, flatV_cons]
    by_cases h1 : i < k * 19
    · rw [if_pos h1, List.getElem?_append_left (by omega)]
    · rw [if_neg h1, List.getElem?_append_right (by omega), e1]
      by_cases h2 : i < k * 19 + 19
      · rw [if_pos h2, List.getElem?_append_left (by rw [tgC_len]; omega)]
      · rw [if_neg h2, List.getElem?_append_right (by rw [tgC_len]; omega), tgC_len]
  apply Array.ext_getElem?
  intro i
  by_cases h1 : i < k * 19
  · rw [setL_get _ _ _ _ h1, key z, key t, if_pos h1, if_pos h1]
  · by_cases h2 : i < k * 19 + 19
    · obtain ⟨j, rfl⟩ : ∃ j, i = k * 19 + j := ⟨i - k * 19, by omega⟩
      have hj : j < (tgC t).length := by rw [tgC_len]; omega
      have hsz : (flatV tgC (L1 ++ z :: L2)).toArray.size = k * 19 + (19 + (flatV tgC L2).length) := by
        rw [List.size_toArray, flatV_append, flatV_cons, List.length_append, List.length_append, e1, tgC_len]
      rw [setL_at _ _ _ j (tgC t)[j] (List.getElem?_eq_getElem hj) (by rw [hsz]; omega), key t, if_neg h1, if_pos h2, show k * 19 + j - k * 19 = j by omega, List.getElem?_eq_getElem hj]
    · rw [setL_after _ _ _ _ (by rw [tgC_len]; omega), key z, key t, if_neg h1, if_neg h1, if_neg h2, if_neg h2]
theorem setCells_alloc (w : World) (t : TypeId) (arr : Array Value) (p : Nat) (vs : List Value) : (w.alloc (.cells arr t)).setCells w.heap.size p vs = w.alloc (.cells (setL arr p vs) t) := by
  induction vs generalizing arr p with
  | nil => rfl
  | cons v vs ih =>
    rw [World.setCells, setL, ← ih]
    congr 1
    simp [go_sem]
theorem there_alloc_size (w : World) (t : TypeId) (arr : Array Value) (p n : Nat) (h : p + n ≤ arr.size) : (w.alloc (.cells arr t)).there w.heap.size p n := fun j hj => by
  refine ⟨?_, block_frozen _ _ _ _ _ (heap_alloc_new w _)⟩
  rw [cell_of_row _ _ _ _ _ _ (heap_alloc_new w _), Array.getElem?_eq_getElem (by omega)]
  rfl
/-- A tag of a list in memory, in every world that has drawn. -/
theorem VRow.loads {w : World} {B : Nat} {A : Option Addr} {l : List Tg} (h : VRow w B A (flatV tgC l)) {i : Nat} (hi : i < l.length) :
    ∃ b o, A = some ⟨b, o, none⟩ ∧ b < B ∧ (ldTag (.pointer (some ⟨b, o + i * 19, none⟩))).run Try.prog w = .ok (tgV l[i]) w ∧ ∀ m, (ldTag (.pointer (some ⟨b, o + i * 19, none⟩))).run Try.prog (w.drewN m) = .ok (tgV l[i]) (w.drewN m) := by
  obtain ⟨b, o, e, hb, hc⟩ := h.elem tgC_len (by omega) hi
  exact ⟨b, o, e, hb, ldTag_run rfl hc, fun m => ldTag_run (w := w.drewN m) rfl hc⟩

def zT : Tg := ⟨⟨#[]⟩, 0, 0, 0, 0, false, false, false, 0, 0, 0, 0, 0, false, false, false, 0, 0, 0⟩
def mkT : Tg := ⟨⟨#[97, 32, 109, 97, 114, 107]⟩, 0, 0, 0, 0, false, false, false, 0, 0, 0, 0, 0, false, false, false, 0, 0, 0⟩
theorem info_tg : (Try.prog.info? 49).map (fun i => (i.zero, i.size, i.bytes)) = some (some (tgV zT), 19, 128) := by kernel_rfl
theorem made_tg (n : Nat) : madeCells (tgV zT).cells (n * 19) = (flatV tgC (List.replicate n zT)).toArray := by
  have hl : (flatV tgC (List.replicate n zT)).length = n * 19 := by rw [flatV_len tgC_len, List.length_replicate]
  have hc : (tgV zT).cells = (tgC zT).toArray := rfl
  apply Array.ext
  · rw [size_madeCells, List.size_toArray, hl]
  · intro i h1 h3
    rw [size_madeCells] at h1
    have h2 := flatV_get tgC_len (List.replicate n zT) (i / 19) (by rw [List.length_replicate]; omega) (i % 19) (Nat.mod_lt _ (by omega))
    rw [show i / 19 * 19 + i % 19 = i by omega, List.getElem_replicate] at h2
    have hm : i % 19 < (tgC zT).length := by rw [tgC_len]; exact Nat.mod_lt _ (by omega)
    have e : (flatV tgC (List.replicate n zT)).toArray[i] = (tgC zT)[i % 19] := by
      rw [List.getElem?_eq_getElem (by rw [hl]; exact h1), List.getElem?_eq_getElem hm] at h2
      exact Option.some.inj h2
    rw [e]
    simp only [madeCells, Array.getElem_map, Array.getElem_range, hc]
    have h19 : (tgC zT).toArray.size = 19 := rfl
    rw [h19, getElem!_pos (tgC zT).toArray (i % 19) (by rw [h19]; exact Nat.mod_lt _ (by omega))]
    rfl
theorem make_tg (n : Nat) (hn : n * 128 ≤ 140737488355328) (W : World) :
    (Instr.makeSlice 36 (.int .i64 (n : Int)) (.int .i64 (n : Int))).run Try.prog W = .ok (.slice (some ⟨W.heap.size, 0, none⟩) n n) (W.alloc (.cells (flatV tgC (List.replicate n zT)).toArray 49)) := by
  obtain ⟨i, hi, hz, hs, hb⟩ := info_parts info_tg
  have h := run_make (P := Try.prog) W 36 49 i (tgV zT) Try.underlying36 hi hz .i64 .i64 n n (by omega) (by omega) (by rw [hb]; omega) (by omega)
  rw [h, hs, Int.toNat_natCast, made_tg]

def marksG : List Tg := [mkT, mkT, mkT, mkT, mkT]
theorem flat_size (L : List Tg) : (flatV tgC L).toArray.size = L.length * 19 := by rw [List.size_toArray, flatV_len tgC_len]
/-- A tag is stored into a block of the call's own. -/
theorem stTag_own (w : World) (C : Array Value) (k : Nat) (t : Tg) (h : k * 19 + 19 ≤ C.size) : (stTag (.pointer (some ⟨w.heap.size, k * 19, none⟩)) (tgV t)).run Try.prog (w.alloc (.cells C 49)) = .ok () (w.alloc (.cells (setL C (k * 19) (tgC t)) 49)) := by
  rw [stTag_run t (there_alloc_size w _ C (k * 19) 19 h), setCells_alloc]
theorem take_tg {α : Type} (l : List α) (k : Nat) (h : k < l.length) : l.take (k + 1) = l.take k ++ [l[k]] := by simp
theorem run_neq_mark (w : World) : (binOp .neq 49 (tgV mkT) (tgV mkT)).run Try.prog w = .ok (.bool false) w := run_neq_tag mkT w
end Go.Proofs.Ytcmbdhmhkfhjfaa
