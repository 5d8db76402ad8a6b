/-
  Texts of the proof of SegsOpens, joined.
-/
import Derived.Test.YtbdhhmhlcdganaaGreatDoorJSegsOpensB
import Derived.Test.YtbdhhmhlcdganaaGreatDoorJSegsOpensA
import Derived.Test.YtbdhhmhlcdganaaGreatDoorProg
namespace Go.Proofs.YtbdhhmhlcdganaaGreatDoor
open Go.RowKit
set_option linter.unusedVariables false
set_option maxRecDepth 100000

theorem ckSc_mem (f : Nat) (b : List Int) (hb : ∀ x ∈ b, (Lit.int .u8 x).wf = true) : ∀ p ∈ (ckSc f b).1, p.length ≤ 1024 ∧ ∀ x ∈ p, (Lit.int .u8 x).wf = true := by
  induction f generalizing b with
  | zero => intro p hp; cases hp
  | succ f ih =>
    unfold ckSc
    split
    · rename_i h
      intro p hp
      rcases List.mem_cons.1 hp with rfl | hp
      · exact ⟨by rw [ckP_len h]; exact (ckE_zero.1 h).2.1, fun x hx => hb x (List.mem_of_mem_drop (List.mem_of_mem_take hx))⟩
      · exact ih _ (fun x hx => hb x (List.mem_of_mem_drop hx)) p hp
    · intro p hp; cases hp
theorem ckScan_mem {b : List Int} (hb : ∀ x ∈ b, (Lit.int .u8 x).wf = true) : ∀ p ∈ (ckScan b).1, p.length ≤ 1024 ∧ ∀ x ∈ p, (Lit.int .u8 x).wf = true := ckSc_mem _ _ hb
theorem ckScan_all {b : List Int} (hb : ∀ x ∈ b, (Lit.int .u8 x).wf = true) : ckAll (ckScan b).1 = b.take (ckScan b).2 := ckSc_all _ _ hb
theorem ckScan_le (b : List Int) : (ckScan b).2 ≤ b.length := ckSc_len _ _
theorem ckAll_take_le (ls : List (List Int)) (k : Nat) : (ckAll (ls.take k)).length ≤ (ckAll ls).length := by
  conv => rhs; rw [← List.take_append_drop k ls, ckAll_app, List.length_append]
  omega
theorem ckScan_few (b : List Int) : 6 * (ckScan b).1.length ≤ (ckScan b).2 := by
  unfold ckScan
  generalize b.length + 1 = f
  induction f generalizing b with
  | zero => simp [ckSc]
  | succ f ih =>
    unfold ckSc
    split
    · have := ih (b.drop (6 + ckN b))
      simp only [List.length_cons]
      omega
    · simp
theorem ckAll_len_ge (ls : List (List Int)) : 6 * ls.length ≤ (ckAll ls).length := by
  induction ls with
  | nil => simp [ckAll]
  | cons p ls ih =>
    have e : ckAll (p :: ls) = ckL p ++ ckAll ls := by unfold ckAll; rw [List.flatMap_cons]
    rw [e, List.length_append, ckL_len, List.length_cons]
    omega
theorem ckScan_cut (ls : List (List Int)) (hl : ∀ p ∈ ls, p.length ≤ 1024) (j cut : Nat) (hj : j ≤ ls.length) (hc : cut ≤ (ckAll ls).length) (h1 : (ckAll (ls.take j)).length ≤ cut) (h2 : j < ls.length → cut < (ckAll (ls.take (j + 1))).length) : ckScan ((ckAll ls).take cut) = (ls.take j, (ckAll (ls.take j)).length) := by
  unfold ckScan
  refine ckSc_cut ls hl j cut hj h1 h2 _ ?_
  have := ckAll_len_ge (ls.take j)
  rw [List.length_take] at this
  rw [List.length_take]
  omega
theorem ckScan_whole (ls : List (List Int)) (hl : ∀ p ∈ ls, p.length ≤ 1024) : ckScan (ckAll ls) = (ls, (ckAll ls).length) := by
  have h := ckScan_cut ls hl ls.length (ckAll ls).length (Nat.le_refl _) (Nat.le_refl _) (by rw [List.take_length]; exact Nat.le_refl _) (fun h => absurd h (by omega))
  rw [List.take_length, List.take_length] at h
  exact h
def endsC (ls : List (List Int)) (k : Nat) : List Int := (List.range k).map fun j => ((ckAll (ls.take (j + 1))).length : Int)
end Go.Proofs.YtbdhhmhlcdganaaGreatDoor
namespace Go.Proofs.YtbdhhmhlcdganaaGreatDoor
open Go.RowKit
set_option linter.unusedVariables false
set_option maxRecDepth 100000

def digF : Nat → Nat → List UInt8
  | 0, _ => []
  | f + 1, n => if n = 0 then [] else digF f (n / 10) ++ [UInt8.ofNat (48 + n % 10)]
def digN (n : Nat) : List UInt8 := digF (n + 1) n
def valN (l : List UInt8) : Nat := l.foldl (fun v x => v * 10 + (x.toNat - 48)) 0
theorem valN_snoc (l : List UInt8) (x : UInt8) : valN (l ++ [x]) = valN l * 10 + (x.toNat - 48) := by simp [valN]
theorem digF_val (f n : Nat) (h : n < f) : valN (digF f n) = n := by
  induction f generalizing n with
  | zero => omega
  | succ f ih =>
    unfold digF
    by_cases h0 : n = 0
    · rw [if_pos h0, h0]; rfl
    · rw [if_neg h0, valN_snoc, ih (n / 10) (by omega)]
      have : (UInt8.ofNat (48 + n % 10)).toNat = 48 + n % 10 := by simp; omega
      rw [this]
      omega
theorem digF_more (f g n : Nat) (h : n < f) (h' : n < g) : digF f n = digF g n := by
  induction f generalizing n g with
  | zero => omega
  | succ f ih =>
    cases g with
    | zero => omega
    | succ g =>
      unfold digF
      by_cases h0 : n = 0
      · rw [if_pos h0, if_pos h0]
      · rw [if_neg h0, if_neg h0, ih g (n / 10) (by omega) (by omega)]
theorem digN_step (n : Nat) (h : n ≠ 0) : digN n = digN (n / 10) ++ [UInt8.ofNat (48 + n % 10)] := by
  show digF (n + 1) n = _
  rw [digF, if_neg h, digF_more n (n / 10 + 1) (n / 10) (by omega) (by omega)]
  rfl
theorem digN_val (n : Nat) : valN (digN n) = n := digF_val _ _ (by omega)
theorem digN_inj {a b : Nat} (h : digN a = digN b) : a = b := by rw [← digN_val a, ← digN_val b, h]
theorem digF_len (f n k : Nat) (h : n < 10 ^ k) : (digF f n).length ≤ k := by
  induction k generalizing f n with
  | zero =>
    obtain rfl : n = 0 := by simpa using h
    cases f <;> simp [digF]
  | succ k ih =>
    cases f with
    | zero => simp [digF]
    | succ f =>
      unfold digF
      by_cases h0 : n = 0
      · rw [if_pos h0]; simp
      · rw [if_neg h0, List.length_append]
        have := ih f (n / 10) (by rw [Nat.pow_succ] at h; omega)
        simp; omega
def segN (n : Nat) : ByteArray := ⟨([108, 111, 103, 45] ++ digN n).toArray⟩
theorem segN_inj {a b : Nat} (h : segN a = segN b) : a = b := by
  unfold segN at h
  injection h with h
  have := Array.toList_inj.2 h
  simp at this
  exact digN_inj this
theorem segN_size (n : Nat) : (segN n).size = 4 + (digN n).length := by
  show (([108, 111, 103, 45] ++ digN n).toArray).size = _
  simp; omega
theorem segN_ok {n : Nat} (h : n < 10 ^ 12) : okN (segN n) = true := by
  unfold okN
  rw [segN_size]
  have := digF_len (n + 1) n 12 h
  unfold digN
  simp; omega
def headN : ByteArray := ⟨#[104, 101, 97, 100]⟩
def hnewN : ByteArray := ⟨#[104, 101, 97, 100, 46, 110, 101, 119]⟩
theorem segN_head (n : Nat) : segN n ≠ headN := by
  intro h
  unfold segN headN at h
  injection h with h
  have := congrArg Array.toList h
  simp at this
theorem segN_hnew (n : Nat) : segN n ≠ hnewN := by
  intro h
  unfold segN hnewN at h
  injection h with h
  have := congrArg Array.toList h
  simp at this
theorem head_hnew : headN ≠ hnewN := by
  intro h
  unfold headN hnewN at h
  injection h with h
  have := congrArg Array.toList h
  simp at this
def isSeg (s : ByteArray) : Bool := decide (5 ≤ s.size ∧ s.size ≤ 16) && (s.data.toList.take 4 == [108, 111, 103, 45]) && (s.data.toList.drop 4).all (fun x => decide (48 ≤ x.toNat ∧ x.toNat ≤ 57)) && decide ((s.data.toList.drop 4).head? ≠ some 48)

structure Lg where
  (n first : Nat) (segs : List (List (List Int))) (safe : Nat)
def cntS (l : List (List (List Int))) : Nat := (l.map List.length).sum
def nextG (l : Lg) : Nat := l.first + cntS l.segs
def lastS (l : Lg) : List (List Int) := l.segs.getLastD []
def curN (l : Lg) : Nat := l.n + (l.segs.length - 1)
def syncG (d : Dv) (l : Lg) : Dv × Lg × Int :=
  if d.off = true then (d, l, 10) else if l.safe = nextG l then (d, l, 0)
  else if (syncD d (segN (curN l))).2 = 0 then ((syncD d (segN (curN l))).1, { l with safe := nextG l }, 0) else ((syncD d (segN (curN l))).1, l, 10)
def fullS (l : Lg) : Bool := decide (l.segs ≠ [] ∧ 1024 ≤ (ckAll (lastS l)).length)
def putN (l : Lg) : Nat := if fullS l = true then curN l + 1 else curN l
def addS (l : Lg) (p : List Int) : List (List (List Int)) := if l.segs = [] ∨ fullS l = true then l.segs ++ [[p]] else l.segs.dropLast ++ [lastS l ++ [p]]
def putG (d : Dv) (l : Lg) (p : List Int) : Dv × Lg × Int × Int :=
  if (appD d (segN (putN l)) (ckL p)).2 = 0 then ((appD d (segN (putN l)) (ckL p)).1, { l with segs := addS l p }, (nextG l : Int), 0) else ((appD d (segN (putN l)) (ckL p)).1, l, 0, (appD d (segN (putN l)) (ckL p)).2)
def appG (d : Dv) (l : Lg) (p : List Int) : Dv × Lg × Int × Int :=
  if d.off = true then (d, l, 0, 10) else if 1024 < p.length then (d, l, 0, 2)
  else if 1099511627776 ≤ nextG l ∨ 999999999999 < putN l then (d, l, 0, 12)
  else if fullS l = true then
    (if (syncG d l).2.2 = 0 then
      (let r := appD (syncG d l).1 (segN (putN l)) (ckL p)
       if r.2 = 0 then (r.1, { (syncG d l).2.1 with segs := addS l p }, (nextG l : Int), 0) else (r.1, (syncG d l).2.1, 0, r.2))
     else ((syncG d l).1, (syncG d l).2.1, 0, 10))
  else putG d l p
def getE14 (l : Lg) (n : Int) : Int := if n < l.first then 31 else if (nextG l : Int) ≤ n then 6 else 0
def getG (l : Lg) (n : Int) : List Int := if getE14 l n = 0 then (l.segs.flatten).getD (n - l.first).toNat [] else []
def bvalC (xs : List Int) : Nat := xs.foldl (fun v x => v * 256 + x.toNat) 0
def hdOf (b : List Int) : Option (Nat × Nat) :=
  if ckE b = 0 ∧ ckM b = b.length ∧ (ckG b).length = 16 ∧ 1 ≤ bvalC ((ckG b).take 8) ∧ bvalC ((ckG b).take 8) ≤ 999999999999 ∧ bvalC ((ckG b).drop 8) ≤ 1099511627776 then some (bvalC ((ckG b).take 8), bvalC ((ckG b).drop 8)) else none
def headG (d : Dv) : Option (Nat × Nat) := if lkF d headN = none then some (1, 0) else hdOf (readL d headN)
def readG : Nat → Dv → Nat → List (List (List Int)) → Dv × List (List (List Int)) × Int
  | 0, d, _, acc => (d, acc, 0)
  | f + 1, d, n, acc =>
    match lkF d (segN (n + acc.length)) with
    | none => (d, acc, 0)
    | some (b, _) =>
      if (ckScan b).2 < b.length then
        (let r := truncD d (segN (n + acc.length)) (ckScan b).2
         if r.2 = 0 then
          (let s := syncD r.1 (segN (n + acc.length))
           if s.2 = 0 then (s.1, acc ++ [(ckScan b).1], 0) else (s.1, acc, s.2))
         else (r.1, acc, r.2))
      else
        (let s := syncD d (segN (n + acc.length))
         if s.2 = 0 then readG f s.1 n (acc ++ [(ckScan b).1]) else (s.1, acc, s.2))
def mineS (n k : Nat) (s : ByteArray) : Bool := !isSeg s || (List.range k).any (fun i => sameN s (segN (n + i)))
def dropG (n k : Nat) : Dv → List ByteArray → Dv × Int
  | d, [] => (d, 0)
  | d, s :: t => if mineS n k s = true then dropG n k d t else if (remD d s).2 = 0 then dropG n k (remD d s).1 t else ((remD d s).1, 10)
def wipeG (d : Dv) (s : ByteArray) : Dv × Int := if lkF d s = none then (d, 0) else if (remD d s).2 = 0 then ((remD d s).1, 0) else ((remD d s).1, 10)
def openG (d : Dv) : Dv × Option Lg × Int :=
  if d.off = true then (d, none, 10) else
  if (wipeG d hnewN).2 ≠ 0 then ((wipeG d hnewN).1, none, 10) else
  match headG (wipeG d hnewN).1 with
  | none => ((wipeG d hnewN).1, none, 30)
  | some (n, first) =>
    let r := readG 66 (wipeG d hnewN).1 n []
    if r.2.2 ≠ 0 then (r.1, none, r.2.2) else
    let s := dropG n r.2.1.length r.1 (namesD r.1)
    if s.2 ≠ 0 then (s.1, none, 10) else (s.1, some ⟨n, first, r.2.1, first + cntS r.2.1⟩, 0)
end Go.Proofs.YtbdhhmhlcdganaaGreatDoor
namespace Go.Proofs.YtbdhhmhlcdganaaGreatDoor
open Go.RowKit
set_option linter.unusedVariables false
set_option maxRecDepth 100000

structure Rest (d : Dv) (n first : Nat) (segs : List (List (List Int))) : Prop where
  ok : Dv.Ok d
  hd : headG d = some (n, first)
  at_ : ∀ i (h : i < segs.length), ∃ t, lkF d (segN (n + i)) = some (ckAll segs[i] ++ t, (ckAll segs[i] ++ t).length) ∧ ckE t ≠ 0 ∧ (i + 1 < segs.length → t = [])
  next : lkF d (segN (n + segs.length)) = none
  syn : ∀ s b y, lkF d s = some (b, y) → y = b.length
  mem : ∀ s ∈ segs, ∀ p ∈ s, p.length ≤ 1024
theorem headG_lk {d d' : Dv} (h : lkF d' headN = lkF d headN) : headG d' = headG d := by
  unfold headG
  rw [readL_lk, readL_lk, h]
theorem Rest.of_lk {d d' : Dv} {n first : Nat} {segs : List (List (List Int))} (h : Rest d n first segs) (ok : Dv.Ok d') (e : lkF d' = lkF d) : Rest d' n first segs :=
  ⟨ok, by rw [headG_lk (d := d) (d' := d') (by rw [e])]; exact h.hd, by rw [e]; exact h.at_, by rw [e]; exact h.next, by rw [e]; exact h.syn, h.mem⟩
theorem ckScan_tail {seg : List (List Int)} (hm : ∀ p ∈ seg, p.length ≤ 1024) {t : List Int} (ht : ckE t ≠ 0) : ckScan (ckAll seg ++ t) = (seg, (ckAll seg).length) := by
  unfold ckScan
  refine ckSc_back seg hm t ht _ ?_
  have := ckAll_len_ge seg
  rw [List.length_append]
  omega
theorem Rest.gone {d d' : Dv} {n first : Nat} {segs : List (List (List Int))} (h : Rest d n first segs) (ok : Dv.Ok d') {s : ByteArray} (e : ∀ t, lkF d' t = if t = s then none else lkF d t) (h1 : s ≠ headN) (h2 : ∀ i, i < segs.length → s ≠ segN (n + i)) : Rest d' n first segs := by
  refine ⟨ok, ?_, fun i hi => ?_, ?_, fun t b y ht => ?_, h.mem⟩
  · rw [headG_lk (d := d) (d' := d') (by rw [e, if_neg (fun x => h1 x.symm)])]; exact h.hd
  · rw [e, if_neg (fun x => h2 i hi x.symm)]; exact h.at_ i hi
  · rw [e]
    split
    · rfl
    · exact h.next
  · rw [e] at ht
    split at ht
    · cases ht
    · exact h.syn t b y ht
theorem Rest.cut {d d' : Dv} {n first : Nat} {segs : List (List (List Int))} (h : Rest d n first segs) (ok : Dv.Ok d') {k : Nat} (hk : k < segs.length) (e : ∀ t, lkF d' t = if t = segN (n + k) then some (ckAll segs[k], (ckAll segs[k]).length) else lkF d t) : Rest d' n first segs := by
  refine ⟨ok, ?_, fun i hi => ?_, ?_, fun t b y ht => ?_, h.mem⟩
  · rw [headG_lk (d := d) (d' := d') (by rw [e, if_neg (fun x => segN_head _ x.symm)])]; exact h.hd
  · by_cases hik : i = k
    · subst hik
      exact ⟨[], by rw [e, if_pos rfl, List.append_nil], ckE_nil, fun _ => rfl⟩
    · rw [e, if_neg (fun x => hik (by have := segN_inj x; omega))]; exact h.at_ i hi
  · rw [e, if_neg (fun x => by have := segN_inj x; omega)]; exact h.next
  · rw [e] at ht
    split at ht
    · injection ht with ht
      injection ht with e1 e2
      rw [← e1, ← e2]
    · exact h.syn t b y ht
structure Alike (n k : Nat) (d d' : Dv) : Prop where
  no : ∀ s, lkF d' s = none ↔ lkF d s = none
  ot : ∀ s, (∀ i, i < k → s ≠ segN (n + i)) → lkF d' s = lkF d s
theorem Alike.refl (n k : Nat) (d : Dv) : Alike n k d d := ⟨fun _ => Iff.rfl, fun _ _ => rfl⟩
theorem Alike.trans {n k : Nat} {a b c : Dv} (h : Alike n k a b) (h' : Alike n k b c) : Alike n k a c := ⟨fun s => (h'.no s).trans (h.no s), fun s hs => (h'.ot s hs).trans (h.ot s hs)⟩
theorem Alike.of_lk {n k : Nat} {d d' : Dv} (h : lkF d' = lkF d) : Alike n k d d' := by
  rw [show Alike n k d d' ↔ Alike n k d d from ⟨fun _ => Alike.refl n k d, fun _ => ⟨fun s => by rw [h], fun s _ => by rw [h]⟩⟩]
  exact Alike.refl n k d
def Ends14 (d d' : Dv) (e : Int) : Prop := (e = 0 ∧ d'.off = false) ∨ (e = 10 ∧ d'.off = true ∧ 0 ≤ d.left)
theorem left_of_down {d d' : Dv} {e : Int} (h : Not1 d d' e) (h1 : e = 10) (h2 : d.off = false) : d'.off = true := by
  rcases h.2.2.2.2 with ⟨_, h3, _⟩ | ⟨h3, _⟩
  · exact h3
  · exact absurd h1 h3
theorem armed_of {d d' : Dv} {e : Int} (h : Not1 d d' e) (h1 : e = 10) (h2 : d.off = false) : d.left = 0 := by
  rcases h.2.2.2.2 with ⟨_, _, h3 | h3⟩ | ⟨h3, _⟩
  · rw [h2] at h3; cases h3
  · exact h3
  · exact absurd h1 h3
theorem read_rest {n first : Nat} {segs : List (List (List Int))} (f : Nat) : ∀ (d : Dv) (k : Nat), Rest d n first segs → d.off = false → k ≤ segs.length → segs.length < f + k → (∀ i (h : i < k) (h' : i < segs.length), lkF d (segN (n + i)) = some (ckAll segs[i], (ckAll segs[i]).length)) →
    ∃ d' acc e, readG f d n (segs.take k) = (d', acc, e) ∧ Rest d' n first segs ∧ Alike n segs.length d d' ∧ ((e = 0 ∧ acc = segs ∧ d'.off = false ∧ ∀ i (h : i < segs.length), lkF d' (segN (n + i)) = some (ckAll segs[i], (ckAll segs[i]).length)) ∨ (e = 10 ∧ d'.off = true)) ∧ (d.left = -1 → e = 0 ∧ d'.left = -1) := by
  induction f with
  | zero => intro d k _ _ h1 h2; omega
  | succ f ih =>
    intro d k hR hoff hk hf hex
    have hl : (segs.take k).length = k := by rw [List.length_take]; omega
    by_cases hlt : k < segs.length
    · obtain ⟨t, hlk, ht, hlast⟩ := hR.at_ k hlt
      have hm : ∀ p ∈ segs[k], p.length ≤ 1024 := hR.mem _ (List.getElem_mem hlt)
      have hsc := ckScan_tail hm ht
      have htk : segs.take k ++ [segs[k]] = segs.take (k + 1) := (List.take_succ_eq_append_getElem hlt).symm
      unfold readG
      rw [hl, hlk]
      simp only [hsc]
      by_cases hcut : (ckAll segs[k]).length < (ckAll segs[k] ++ t).length
      · rw [if_pos hcut]
        have hend : k + 1 = segs.length := by
          rcases Nat.lt_or_ge (k + 1) segs.length with h | h
          · rw [hlast h, List.append_nil] at hcut; omega
          · omega
        obtain ⟨d1, e1, q1, ok1, h1⟩ := trunc_step hR.ok (segN (n + k)) (ckAll segs[k]).length
        rw [q1]
        rcases h1 with ⟨hn, h6, h3, h7⟩ | ⟨rfl, _, did, b, y, hb, hle, hlk1⟩
        · have e10 : e1 = 10 := by
            rcases h7 with rfl | rfl | rfl
            · have := h6 rfl; rw [hlk] at this; cases this
            · obtain ⟨b, y, hb, hlt2⟩ := h3 rfl
              rw [hlk] at hb
              injection hb with hb
              injection hb with e1 _
              rw [← e1] at hlt2; omega
            · rfl
          subst e10
          simp only [show ¬ (10 : Int) = 0 by decide, if_false]
          refine ⟨_, _, _, rfl, hR.of_lk ok1 hn.lk, Alike.of_lk hn.lk, .inr ⟨rfl, left_of_down hn rfl hoff⟩, fun hleft => ?_⟩
          have := armed_of hn rfl hoff
          omega
        · rw [hlk] at hb
          injection hb with hb
          injection hb with eb ey
          subst eb ey
          simp only [if_true]
          have hlk1' : ∀ s, lkF d1 s = if s = segN (n + k) then some (ckAll segs[k], (ckAll segs[k]).length) else lkF d s := by
            intro s
            rw [hlk1 s, List.take_left' rfl, Nat.min_eq_right (by rw [List.length_append]; omega)]
          have R1 := hR.cut ok1 hlt hlk1'
          have A1 : Alike n segs.length d d1 := ⟨fun s => by
            rw [hlk1' s]
            split
            · rename_i hs; rw [hs, hlk]; simp
            · exact Iff.rfl, fun s hs => by rw [hlk1' s, if_neg (hs k hlt)]⟩
          obtain ⟨d2, e2, q2, ok2, h2⟩ := sync_step ok1 (segN (n + k))
          rw [q2]
          rcases h2 with ⟨hn, h7, h6⟩ | ⟨rfl, hoff1, did2, _, b, y, hb, hlk2⟩
          · have e10 : e2 = 10 := by
              rcases h7 with rfl | rfl
              · have := h6 rfl; rw [hlk1', if_pos rfl] at this; cases this
              · rfl
            subst e10
            simp only [show ¬ (10 : Int) = 0 by decide, if_false]
            refine ⟨_, _, _, rfl, R1.of_lk ok2 hn.lk, A1.trans (Alike.of_lk hn.lk), .inr ⟨rfl, left_of_down hn rfl did.off⟩, fun hleft => ?_⟩
            have h8 := armed_of hn rfl did.off
            have h9 := did.left
            rw [hleft] at h9
            rw [h8] at h9
            exact absurd h9 (by decide)
          · have hlk2' : lkF d2 = lkF d1 := by
              funext s
              rw [hlk2 s]
              split
              · rename_i hs
                rw [hs, hb, R1.syn _ _ _ hb]
              · rfl
            simp only [if_true]
            rw [htk, hend, List.take_length]
            refine ⟨_, _, _, rfl, R1.of_lk ok2 hlk2', A1.trans (Alike.of_lk hlk2'), .inl ⟨rfl, rfl, did2.off, fun i hi => ?_⟩, fun hleft => ⟨rfl, ?_⟩⟩
            · rw [hlk2', hlk1']
              by_cases hik : i = k
              · subst hik; rw [if_pos rfl]
              · rw [if_neg (fun x => hik (by have := segN_inj x; omega))]
                exact hex i (by omega) hi
            · rw [did2.left, did.left, hleft]; rfl
      · rw [if_neg hcut]
        have ht0 : t = [] := by
          apply List.eq_nil_of_length_eq_zero
          rw [List.length_append] at hcut; omega
        subst ht0
        rw [List.append_nil] at hlk
        obtain ⟨d2, e2, q2, ok2, h2⟩ := sync_step hR.ok (segN (n + k))
        rw [q2]
        rcases h2 with ⟨hn, h7, h6⟩ | ⟨rfl, _, did2, _, b, y, hb, hlk2⟩
        · have e10 : e2 = 10 := by
            rcases h7 with rfl | rfl
            · have := h6 rfl; rw [hlk] at this; cases this
            · rfl
          subst e10
          simp only [show ¬ (10 : Int) = 0 by decide, if_false]
          refine ⟨_, _, _, rfl, hR.of_lk ok2 hn.lk, Alike.of_lk hn.lk, .inr ⟨rfl, left_of_down hn rfl hoff⟩, fun hleft => ?_⟩
          have := armed_of hn rfl hoff
          omega
        · have hlk2' : lkF d2 = lkF d := by
            funext s
            rw [hlk2 s]
            split
            · rename_i hs
              rw [hs, hb, hR.syn _ _ _ hb]
            · rfl
          simp only [if_true]
          rw [htk]
          obtain ⟨d', acc, e, q, r1, r2, r3, r4⟩ := ih d2 (k + 1) (hR.of_lk ok2 hlk2') did2.off (by omega) (by omega) (fun i h h' => by
            rw [hlk2']
            by_cases hik : i = k
            · subst hik; exact hlk
            · exact hex i (by omega) h')
          exact ⟨d', acc, e, q, r1, (Alike.of_lk hlk2').trans r2, r3, fun hleft => r4 (by rw [did2.left, hleft]; rfl)⟩
    · obtain rfl : k = segs.length := by omega
      unfold readG
      rw [hl, hR.next, List.take_length]
      exact ⟨_, _, _, rfl, hR, Alike.refl _ _ _, .inl ⟨rfl, rfl, hoff, fun i hi => hex i hi hi⟩, fun h => ⟨rfl, h⟩⟩
end Go.Proofs.YtbdhhmhlcdganaaGreatDoor
namespace Go.Proofs.YtbdhhmhlcdganaaGreatDoor
open Go.RowKit
set_option linter.unusedVariables false
set_option maxRecDepth 100000

theorem nodup_names {d : Dv} (ok : Dv.Ok d) : (namesD d).Nodup := by
  unfold namesD List.Nodup
  rw [List.pairwise_map]
  exact ok.up.imp (fun {a b} h e => by rw [e, lessN_irrefl] at h; cases h)
theorem few_files {d : Dv} (ok : Dv.Ok d) (n k : Nat) (h : ∀ i, i < k → lkF d (segN (n + i)) ≠ none) : k ≤ 64 := by
  have h1 : ((List.range k).map (fun i => segN (n + i))).Nodup := by
    rw [List.Nodup, List.pairwise_map]
    exact List.nodup_range.imp (fun {a b} hab e => hab (by have := segN_inj e; omega))
  have h2 := List.Nodup.length_le_of_subset h1 (l₂ := namesD d) (fun s hs => by
    obtain ⟨i, hi, rfl⟩ := List.mem_map.1 hs
    exact names_mem.2 (h i (List.mem_range.1 hi)))
  rw [List.length_map, List.length_range] at h2
  unfold namesD at h2
  rw [List.length_map] at h2
  have := ok.ln
  omega
theorem Rest.few {d : Dv} {n first : Nat} {segs : List (List (List Int))} (h : Rest d n first segs) : segs.length ≤ 64 :=
  few_files h.ok n segs.length (fun i hi => by obtain ⟨t, h1, _⟩ := h.at_ i hi; rw [h1]; simp)
theorem mine_seg (n k i : Nat) (h : i < k) : mineS n k (segN (n + i)) = true := by
  unfold mineS
  rw [Bool.or_eq_true]
  exact .inr (List.any_eq_true.2 ⟨i, List.mem_range.2 h, sameN_refl _⟩)
theorem mine_head (n k : Nat) : mineS n k headN = true := by
  unfold mineS
  rw [Bool.or_eq_true]
  exact .inl (by decide)
theorem wipe_rest {d : Dv} {n first : Nat} {segs : List (List (List Int))} (h : Rest d n first segs) (hoff : d.off = false) {s : ByteArray} (h1 : s ≠ headN) (h2 : ∀ i, i < segs.length → s ≠ segN (n + i)) :
    ∃ d' e, wipeG d s = (d', e) ∧ Rest d' n first segs ∧ (∀ t, lkF d' t = none ∨ lkF d' t = lkF d t) ∧ ((e = 0 ∧ d'.off = false ∧ lkF d' s = none) ∨ (e = 10 ∧ d'.off = true)) ∧ (d.left = -1 → e = 0 ∧ d'.left = -1) := by
  unfold wipeG
  by_cases h0 : lkF d s = none
  · rw [if_pos h0]
    exact ⟨_, _, rfl, h, fun t => .inr rfl, .inl ⟨rfl, hoff, h0⟩, fun hl => ⟨rfl, hl⟩⟩
  rw [if_neg h0]
  obtain ⟨d1, e1, q1, ok1, h3⟩ := rem_step h.ok s
  rw [q1]
  rcases h3 with ⟨hn, h7, h6⟩ | ⟨rfl, _, did, _, hlk⟩
  · have e10 : e1 = 10 := by
      rcases h7 with rfl | rfl
      · exact absurd (h6 rfl) h0
      · rfl
    subst e10
    simp only [show ¬ (10 : Int) = 0 by decide, if_false]
    refine ⟨_, _, rfl, h.of_lk ok1 hn.lk, fun t => .inr (by rw [hn.lk]), .inr ⟨rfl, left_of_down hn rfl hoff⟩, fun hl => ?_⟩
    have := armed_of hn rfl hoff
    omega
  · simp only [if_true]
    refine ⟨_, _, rfl, h.gone ok1 hlk h1 h2, fun t => ?_, .inl ⟨rfl, did.off, by rw [hlk, if_pos rfl]⟩, fun hl => ⟨rfl, by rw [did.left, hl]; rfl⟩⟩
    rw [hlk]
    split
    · exact .inl rfl
    · exact .inr rfl
theorem drop_rest {n first : Nat} {segs : List (List (List Int))} : ∀ (L : List ByteArray) (d : Dv), Rest d n first segs → d.off = false → L.Nodup → (∀ s ∈ L, lkF d s ≠ none) →
    ∃ d' e, dropG n segs.length d L = (d', e) ∧ Rest d' n first segs ∧ (∀ t, mineS n segs.length t = true → lkF d' t = lkF d t) ∧ (∀ t, lkF d' t = none ∨ lkF d' t = lkF d t) ∧ ((e = 0 ∧ d'.off = false ∧ ∀ s ∈ L, mineS n segs.length s = false → lkF d' s = none) ∨ (e = 10 ∧ d'.off = true)) ∧ (d.left = -1 → e = 0 ∧ d'.left = -1) := by
  intro L
  induction L with
  | nil => intro d h hoff _ _; exact ⟨_, _, rfl, h, fun t _ => rfl, fun t => .inr rfl, .inl ⟨rfl, hoff, fun s hs => absurd hs (by simp)⟩, fun hl => ⟨rfl, hl⟩⟩
  | cons s L ih =>
    intro d h hoff hnd hin
    obtain ⟨hns, hnd2⟩ := List.nodup_cons.1 hnd
    unfold dropG
    by_cases hm : mineS n segs.length s = true
    · rw [if_pos hm]
      obtain ⟨d', e, q, r1, r2, r3, r4, r5⟩ := ih d h hoff hnd2 (fun t ht => hin t (by simp [ht]))
      refine ⟨d', e, q, r1, r2, r3, ?_, r5⟩
      rcases r4 with ⟨e0, o0, h4⟩ | h4
      · refine .inl ⟨e0, o0, fun t ht hmt => ?_⟩
        rcases List.mem_cons.1 ht with rfl | ht
        · rw [hm] at hmt; cases hmt
        · exact h4 t ht hmt
      · exact .inr h4
    rw [if_neg hm]
    have hm' : mineS n segs.length s = false := by simpa using hm
    obtain ⟨d1, e1, q1, ok1, h3⟩ := rem_step h.ok s
    rw [q1]
    rcases h3 with ⟨hn, h7, h6⟩ | ⟨rfl, _, did, _, hlk⟩
    · have e10 : e1 = 10 := by
        rcases h7 with rfl | rfl
        · exact absurd (h6 rfl) (hin s (by simp))
        · rfl
      subst e10
      simp only [show ¬ (10 : Int) = 0 by decide, if_false]
      refine ⟨_, _, rfl, h.of_lk ok1 hn.lk, fun t _ => by rw [hn.lk], fun t => .inr (by rw [hn.lk]), .inr ⟨rfl, left_of_down hn rfl hoff⟩, fun hl => ?_⟩
      have := armed_of hn rfl hoff
      omega
    · simp only [if_true]
      have hs1 : s ≠ headN := fun x => by rw [x, mine_head] at hm'; cases hm'
      have hs2 : ∀ i, i < segs.length → s ≠ segN (n + i) := fun i hi x => by rw [x, mine_seg _ _ _ hi] at hm'; cases hm'
      obtain ⟨d', e, q, r1, r2, r3, r4, r5⟩ := ih d1 (h.gone ok1 hlk hs1 hs2) did.off hnd2 (fun t ht => by
        rw [hlk, if_neg (fun x => hns (by rw [← x]; exact ht))]
        exact hin t (by simp [ht]))
      have hne : ∀ t, mineS n segs.length t = true → t ≠ s := fun t ht x => by rw [x, hm'] at ht; cases ht
      refine ⟨d', e, q, r1, fun t ht => by rw [r2 t ht, hlk, if_neg (hne t ht)], fun t => ?_, ?_, fun hl => r5 (by rw [did.left, hl]; rfl)⟩
      · rcases r3 t with h9 | h9
        · exact .inl h9
        · rw [h9, hlk]
          split
          · exact .inl rfl
          · exact .inr rfl
      · rcases r4 with ⟨e0, o0, h4⟩ | h4
        · refine .inl ⟨e0, o0, fun t ht hmt => ?_⟩
          rcases List.mem_cons.1 ht with rfl | ht
          · rcases r3 t with h9 | h9
            · exact h9
            · rw [h9, hlk, if_pos rfl]
          · exact h4 t ht hmt
        · exact .inr h4
structure Fresh (d : Dv) (n first : Nat) (segs : List (List (List Int))) : Prop where
  rest : Rest d n first segs
  ex : ∀ i (h : i < segs.length), lkF d (segN (n + i)) = some (ckAll segs[i], (ckAll segs[i]).length)
  no : ∀ s, mineS n segs.length s = false → lkF d s = none
  hnew : lkF d hnewN = none
theorem open_rest {d : Dv} {n first : Nat} {segs : List (List (List Int))} (h : Rest d n first segs) (hoff : d.off = false) :
    ∃ d' o e, openG d = (d', o, e) ∧ Rest d' n first segs ∧ ((e = 0 ∧ o = some ⟨n, first, segs, first + cntS segs⟩ ∧ d'.off = false ∧ Fresh d' n first segs) ∨ (e = 10 ∧ o = none ∧ d'.off = true)) ∧ (d.left = -1 → e = 0 ∧ d'.left = -1) := by
  obtain ⟨d1, e1, q1, R1, hk1, h1, l1⟩ := wipe_rest h hoff (s := hnewN) (fun x => head_hnew x.symm) (fun i _ x => segN_hnew _ x.symm)
  unfold openG
  rw [if_neg (by rw [hoff]; simp), q1]
  rcases h1 with ⟨rfl, o1, w1⟩ | ⟨rfl, o1⟩
  · simp only [ne_eq, not_true_eq_false, if_false]
    rw [R1.hd]
    simp only
    obtain ⟨d2, acc, e2, q2, R2, A2, h2, l2⟩ := read_rest 66 d1 0 R1 o1 (Nat.zero_le _) (by have := R1.few; omega) (fun i hi => absurd hi (by omega))
    rw [List.take_zero] at q2
    rw [q2]
    rcases h2 with ⟨rfl, rfl, o2, ex2⟩ | ⟨rfl, o2⟩
    · simp only [not_true_eq_false, if_false]
      obtain ⟨d3, e3, q3, R3, m3, k3, h3, l3⟩ := drop_rest (namesD d2) d2 R2 o2 (nodup_names R2.ok) (fun s hs => names_mem.1 hs)
      rw [q3]
      rcases h3 with ⟨rfl, o3, n3⟩ | ⟨rfl, o3⟩
      · simp only [not_true_eq_false, if_false]
        refine ⟨_, _, _, rfl, R3, .inl ⟨rfl, rfl, o3, R3, fun i hi => ?_, fun s hs => ?_, ?_⟩, fun hl => ⟨rfl, (l3 (l2 (l1 hl).2).2).2⟩⟩
        · rw [m3 _ (mine_seg n _ i hi)]; exact ex2 i hi
        · by_cases hin : s ∈ namesD d2
          · exact n3 s hin hs
          · have h0 : lkF d2 s = none := Classical.byContradiction fun hh => hin (names_mem.2 hh)
            rcases k3 s with h9 | h9
            · exact h9
            · rw [h9, h0]
        · rcases k3 hnewN with h9 | h9
          · exact h9
          · rw [h9]; exact (A2.no hnewN).2 w1
      · refine ⟨_, _, _, rfl, R3, .inr ⟨rfl, rfl, o3⟩, fun hl => ?_⟩
        exact absurd (l3 (l2 (l1 hl).2).2).1 (by decide)
    · refine ⟨_, _, _, rfl, R2, .inr ⟨rfl, rfl, o2⟩, fun hl => ?_⟩
      exact absurd (l2 (l1 hl).2).1 (by decide)
  · refine ⟨_, _, _, rfl, R1, .inr ⟨rfl, rfl, o1⟩, fun hl => ?_⟩
    exact absurd (l1 hl).1 (by decide)
end Go.Proofs.YtbdhhmhlcdganaaGreatDoor
namespace Go.Proofs.YtbdhhmhlcdganaaGreatDoor
open Go.RowKit
set_option linter.unusedVariables false
set_option maxRecDepth 100000

theorem digF_all (f n : Nat) : ∀ x ∈ digF f n, 48 ≤ x.toNat ∧ x.toNat ≤ 57 := by
  induction f generalizing n with
  | zero => intro x hx; cases hx
  | succ f ih =>
    unfold digF
    split
    · intro x hx; cases hx
    · intro x hx
      rcases List.mem_append.1 hx with hx | hx
      · exact ih _ x hx
      · simp only [List.mem_singleton] at hx
        subst hx
        have : (UInt8.ofNat (48 + n % 10)).toNat = 48 + n % 10 := by simp; omega
        omega
theorem digF_head (f n : Nat) (h : n < f) (h0 : n ≠ 0) : ∃ x l, digF f n = x :: l ∧ x ≠ 48 := by
  induction f generalizing n with
  | zero => omega
  | succ f ih =>
    unfold digF
    rw [if_neg h0]
    by_cases h1 : n / 10 = 0
    · have : digF f (n / 10) = [] := by rw [h1]; cases f <;> simp [digF]
      rw [this]
      refine ⟨_, [], rfl, fun e => ?_⟩
      have e2 : (UInt8.ofNat (48 + n % 10)).toNat = 48 + n % 10 := by simp; omega
      rw [e] at e2
      have e3 : (48 : UInt8).toNat = 48 := rfl
      omega
    · obtain ⟨x, l, h2, h3⟩ := ih (n / 10) (by omega) h1
      rw [h2]
      exact ⟨x, _, rfl, h3⟩
theorem isSeg_segN {m : Nat} (h1 : 1 ≤ m) (h2 : m < 10 ^ 12) : isSeg (segN m) = true := by
  obtain ⟨x, l, hx, hne⟩ := digF_head (m + 1) m (by omega) (by omega)
  have hl := digF_len (m + 1) m 12 h2
  have ha := digF_all (m + 1) m
  have hd : digN m = x :: l := hx
  have hdl : (digN m).length ≤ 12 := hl
  have hda : ∀ y ∈ digN m, 48 ≤ y.toNat ∧ y.toNat ≤ 57 := ha
  have hdata : (segN m).data.toList = [108, 111, 103, 45] ++ digN m := by simp [segN]
  unfold isSeg
  rw [segN_size, hdata]
  simp only [Bool.and_eq_true, decide_eq_true_eq]
  refine ⟨⟨⟨⟨?_, by omega⟩, by simp⟩, ?_⟩, ?_⟩
  · rw [hd]; simp; omega
  · rw [List.all_eq_true]
    intro y hy
    have : y ∈ digN m := by simpa using hy
    simpa using hda y this
  · rw [hd]
    simp only [List.cons_append, List.nil_append, List.drop_succ_cons, List.drop_zero, List.head?_cons]
    intro e
    injection e with e
    exact hne e
theorem long_name {d : Dv} (ok : Dv.Ok d) {s : ByteArray} (h : okN s = false) : lkF d s = none := by
  rw [lk_none]
  intro f hf e
  have := (ok.fl f hf).nm
  rw [e, h] at this; cases this
theorem digF_big (k : Nat) : ∀ (f n : Nat), n < f → 10 ^ k ≤ n → k < (digF f n).length := by
  induction k with
  | zero =>
    intro f n h h1
    obtain ⟨x, l, e, _⟩ := digF_head f n h (by simp at h1; omega)
    rw [e]; simp
  | succ k ih =>
    intro f n h h1
    cases f with
    | zero => omega
    | succ f =>
      unfold digF
      have hp : 0 < 10 ^ k := Nat.pow_pos (by omega)
      rw [Nat.pow_succ] at h1
      rw [if_neg (by omega), List.length_append]
      have := ih f (n / 10) (by omega) (by omega)
      simp; omega
theorem segN_long {m : Nat} (h : 10 ^ 12 ≤ m) : okN (segN m) = false := by
  unfold okN
  rw [segN_size]
  have : 12 < (digN m).length := digF_big 12 (m + 1) m (by omega) h
  simp; omega
theorem mine_far (n k m : Nat) (h1 : 1 ≤ n) (hm : k ≤ m) (hl : n + m < 10 ^ 12) : mineS n k (segN (n + m)) = false := by
  unfold mineS
  rw [isSeg_segN (by omega) hl]
  rw [Bool.or_eq_false_iff]
  refine ⟨rfl, ?_⟩
  rw [List.any_eq_false]
  intro i hi
  rw [List.mem_range] at hi
  intro e
  have := segN_inj (sameN_iff.1 e)
  omega

structure SgIs (d : Dv) (l : Lg) : Prop where
  ok : Dv.Ok d
  hd : headG d = some (l.n, l.first)
  at_ : ∀ i (h : i < l.segs.length), ∃ y, lkF d (segN (l.n + i)) = some (ckAll l.segs[i], y) ∧ y ≤ (ckAll l.segs[i]).length ∧ (i + 1 < l.segs.length → y = (ckAll l.segs[i]).length)
  no : ∀ s, mineS l.n l.segs.length s = false → lkF d s = none
  mem : ∀ s ∈ l.segs, ∀ p ∈ s, p.length ≤ 1024
  saf : (l.segs = [] → l.safe = l.first) ∧ (l.segs ≠ [] → ∃ j y, j ≤ (lastS l).length ∧ lkF d (segN (curN l)) = some (ckAll (lastS l), y) ∧ l.safe = l.first + cntS l.segs.dropLast + j ∧ (ckAll ((lastS l).take j)).length ≤ y)
  lim : 1 ≤ l.n
theorem SgIs.far {d : Dv} {l : Lg} (h : SgIs d l) {m : Nat} (hm : l.segs.length ≤ m) : lkF d (segN (l.n + m)) = none := by
  by_cases hl : l.n + m < 10 ^ 12
  · exact h.no _ (mine_far l.n _ m h.lim hm hl)
  · exact long_name h.ok (segN_long (by omega))
theorem headG_of {d d' : Dv} (h : lkF d' headN = lkF d headN) {x : Nat × Nat} (hd : headG d = some x) : headG d' = some x := by rw [headG_lk (d := d) (d' := d') h]; exact hd
theorem SgIs.of_lk {d d' : Dv} {l : Lg} (h : SgIs d l) (ok : Dv.Ok d') (e : lkF d' = lkF d) : SgIs d' l :=
  ⟨ok, headG_of (by rw [e]) h.hd, by rw [e]; exact h.at_, by rw [e]; exact h.no, h.mem, by rw [e]; exact h.saf, h.lim⟩
theorem last_at {l : Lg} (h : l.segs ≠ []) : ∃ hk : l.segs.length - 1 < l.segs.length, lastS l = l.segs[l.segs.length - 1] ∧ curN l = l.n + (l.segs.length - 1) ∧ l.segs = l.segs.dropLast ++ [lastS l] := by
  have hp : 0 < l.segs.length := List.length_pos_iff.2 h
  refine ⟨by omega, ?_, rfl, ?_⟩
  · unfold lastS
    rw [List.getLastD_eq_getLast?, List.getLast?_eq_getElem?, List.getElem?_eq_getElem (by omega)]
    rfl
  · unfold lastS
    rw [List.getLastD_eq_getLast?, List.getLast?_eq_some_getLast h]
    exact (List.dropLast_concat_getLast h).symm
theorem cntS_append (a b : List (List (List Int))) : cntS (a ++ b) = cntS a + cntS b := by simp [cntS]
theorem cntS_last {l : Lg} (h : l.segs ≠ []) : cntS l.segs = cntS l.segs.dropLast + (lastS l).length := by
  obtain ⟨_, _, _, e⟩ := last_at h
  conv => lhs; rw [e]
  rw [cntS_append]
  simp [cntS]
theorem SgIs.safe_le {d : Dv} {l : Lg} (h : SgIs d l) : l.safe ≤ nextG l ∧ l.first ≤ l.safe := by
  unfold nextG
  by_cases h0 : l.segs = []
  · rw [h.saf.1 h0]; omega
  · obtain ⟨j, y, h1, h2, h3, h4⟩ := h.saf.2 h0
    rw [cntS_last h0, h3]
    omega
theorem SgIs.synced {d d' : Dv} {l : Lg} (h : SgIs d l) (ok : Dv.Ok d') (h0 : l.segs ≠ []) {b : List Int} {y : Nat} (hb : lkF d (segN (curN l)) = some (b, y)) (e : ∀ t, lkF d' t = if t = segN (curN l) then some (b, b.length) else lkF d t) : SgIs d' { l with safe := nextG l } := by
  obtain ⟨hk, hl, hc, hs⟩ := last_at h0
  obtain ⟨y0, h1, h2, h3⟩ := h.at_ _ hk
  rw [← hc, hb] at h1
  injection h1 with h1
  injection h1 with e1 e2
  subst e1 e2
  refine ⟨ok, headG_of (by rw [e, if_neg (fun x => segN_head _ x.symm)]) h.hd, fun i hi => ?_, fun s hms => ?_, h.mem, ⟨fun h9 => absurd h9 h0, fun _ => ⟨(lastS l).length, (ckAll (lastS l)).length, Nat.le_refl _, ?_, ?_, ?_⟩⟩, h.lim⟩
  · rw [e]
    by_cases hic : l.n + i = curN l
    · rw [hic, if_pos rfl]
      have hik : i = l.segs.length - 1 := by rw [hc] at hic; omega
      subst hik
      exact ⟨_, rfl, Nat.le_refl _, fun _ => rfl⟩
    · rw [if_neg (fun x => hic (segN_inj x))]
      exact h.at_ i hi
  · rw [e, if_neg (fun x => by rw [x, hc, mine_seg _ _ _ hk] at hms; cases hms)]
    exact h.no s hms
  · show lkF d' (segN (curN l)) = _
    rw [e, if_pos rfl, ← hl]
    rfl
  · show nextG l = l.first + cntS l.segs.dropLast + (lastS l).length
    unfold nextG
    rw [cntS_last h0]
    omega
  · show (ckAll ((lastS l).take (lastS l).length)).length ≤ _
    rw [List.take_length]
    exact Nat.le_refl _
theorem sync_is {d : Dv} {l : Lg} (h : SgIs d l) :
    ∃ d' l' e, syncG d l = (d', l', e) ∧ l'.segs = l.segs ∧ l'.n = l.n ∧ l'.first = l.first ∧ l.safe ≤ l'.safe ∧ SgIs d' l' ∧ usedD d'.fs = usedD d.fs ∧ d'.room = d.room ∧ (∀ s, lkF d' s = none ↔ lkF d s = none) ∧ ((e = 0 ∧ l'.safe = nextG l ∧ d.off = false ∧ d'.off = false) ∨ (e = 10 ∧ l' = l ∧ d'.off = true ∧ (d.off = true ∨ d.left = 0))) ∧ (d.left = -1 → d'.left = -1) := by
  unfold syncG
  by_cases hoff : d.off = true
  · rw [if_pos hoff]
    exact ⟨_, _, _, rfl, rfl, rfl, rfl, Nat.le_refl _, h, rfl, rfl, fun _ => Iff.rfl, .inr ⟨rfl, rfl, hoff, .inl hoff⟩, fun hl => hl⟩
  rw [if_neg hoff]
  have hoff' : d.off = false := by simpa using hoff
  by_cases hs : l.safe = nextG l
  · rw [if_pos hs]
    exact ⟨_, _, _, rfl, rfl, rfl, rfl, Nat.le_refl _, h, rfl, rfl, fun _ => Iff.rfl, .inl ⟨rfl, hs, hoff', hoff'⟩, fun hl => hl⟩
  rw [if_neg hs]
  have h0 : l.segs ≠ [] := fun h9 => hs (by rw [h.saf.1 h9]; unfold nextG; rw [h9]; simp [cntS])
  obtain ⟨j, y9, _, hcur, _⟩ := h.saf.2 h0
  obtain ⟨d1, e1, q1, ok1, h1⟩ := sync_step h.ok (segN (curN l))
  rw [q1]
  rcases h1 with ⟨hn, h7, h6⟩ | ⟨rfl, _, did, hu, b, y, hb, hlk⟩
  · have e10 : e1 = 10 := by
      rcases h7 with rfl | rfl
      · have := h6 rfl; rw [hcur] at this; cases this
      · rfl
    subst e10
    simp only [show ¬ (10 : Int) = 0 by decide, if_false]
    refine ⟨_, _, _, rfl, rfl, rfl, rfl, Nat.le_refl _, h.of_lk ok1 hn.lk, by rw [hn.2.1], hn.2.2.1, fun s => by rw [hn.lk], .inr ⟨rfl, rfl, left_of_down hn rfl hoff', .inr (armed_of hn rfl hoff')⟩, fun hl => by rw [hn.2.2.2.1]; exact hl⟩
  · simp only [if_true]
    refine ⟨_, _, _, rfl, rfl, rfl, rfl, h.safe_le.1, h.synced ok1 h0 hb hlk, hu, did.room, fun s => ?_, .inl ⟨rfl, rfl, hoff', did.off⟩, fun hl => by rw [did.left, hl]; rfl⟩
    rw [hlk]
    split
    · rename_i hs2; rw [hs2, hb]; simp
    · exact Iff.rfl
end Go.Proofs.YtbdhhmhlcdganaaGreatDoor
namespace Go.Proofs.YtbdhhmhlcdganaaGreatDoor
open Go.RowKit
set_option linter.unusedVariables false
set_option maxRecDepth 100000

theorem addS_flat (l : Lg) (p : List Int) : (addS l p).flatten = l.segs.flatten ++ [p] := by
  unfold addS
  split
  · simp
  · rename_i h
    have h0 : l.segs ≠ [] := fun h9 => h (.inl h9)
    obtain ⟨_, _, _, e⟩ := last_at h0
    conv => rhs; rw [e]
    simp
theorem addS_cnt (l : Lg) (p : List Int) : cntS (addS l p) = cntS l.segs + 1 := by
  have h : ∀ s : List (List (List Int)), cntS s = s.flatten.length := fun s => by unfold cntS; rw [List.length_flatten]
  rw [h, h, addS_flat, List.length_append]
  rfl
theorem SgIs.begun {d d' : Dv} {l : Lg} (h : SgIs d l) (ok : Dv.Ok d') (p : List Int) (hp : p.length ≤ 1024) (hnew : l.segs = [] ∨ fullS l = true) (hs : l.safe = nextG l) (hfull : ∀ i (h : i < l.segs.length), lkF d (segN (l.n + i)) = some (ckAll l.segs[i], (ckAll l.segs[i]).length))
    (e : ∀ t, lkF d' t = if t = segN (l.n + l.segs.length) then some (ckL p, 0) else lkF d t) : SgIs d' { l with segs := l.segs ++ [[p]] } := by
  have hlen : (l.segs ++ [[p]]).length = l.segs.length + 1 := by simp
  refine ⟨ok, headG_of (by rw [e, if_neg (fun x => segN_head _ x.symm)]) h.hd, fun i hi => ?_, fun s hms => ?_, fun s hs2 => ?_, ⟨fun h9 => absurd h9 (by simp), fun _ => ⟨0, 0, Nat.zero_le _, ?_, ?_, ?_⟩⟩, h.lim⟩
  · have hi2 : i < (l.segs ++ [[p]]).length := hi
    rw [hlen] at hi2
    show ∃ y, lkF d' (segN (l.n + i)) = some (ckAll (l.segs ++ [[p]])[i], y) ∧ y ≤ (ckAll (l.segs ++ [[p]])[i]).length ∧ (i + 1 < (l.segs ++ [[p]]).length → y = (ckAll (l.segs ++ [[p]])[i]).length)
    by_cases hlt : i < l.segs.length
    · rw [List.getElem_append_left hlt, e, if_neg (fun x => by have := segN_inj x; omega)]
      exact ⟨_, hfull i hlt, Nat.le_refl _, fun _ => rfl⟩
    · obtain rfl : i = l.segs.length := by omega
      rw [e, if_pos rfl]
      refine ⟨0, ?_, Nat.zero_le _, fun h9 => ?_⟩
      · simp [ckAll]
      · rw [hlen] at h9; omega
  · have hms2 : mineS l.n (l.segs ++ [[p]]).length s = false := hms
    rw [hlen] at hms2
    have h1 : s ≠ segN (l.n + l.segs.length) := fun x => by rw [x, mine_seg _ _ _ (by omega)] at hms2; cases hms2
    rw [e, if_neg h1]
    refine h.no s ?_
    unfold mineS at hms2 ⊢
    rw [Bool.or_eq_false_iff] at hms2 ⊢
    refine ⟨hms2.1, ?_⟩
    rw [List.any_eq_false] at hms2 ⊢
    exact fun i hi => hms2.2 i (List.mem_range.2 (by have := List.mem_range.1 hi; omega))
  · have hs2 : s ∈ l.segs ++ [[p]] := hs2
    rcases List.mem_append.1 hs2 with hs2 | hs2
    · exact h.mem s hs2
    · simp only [List.mem_singleton] at hs2
      subst hs2
      intro q hq
      simp only [List.mem_singleton] at hq
      subst hq
      exact hp
  · show lkF d' (segN (l.n + ((l.segs ++ [[p]]).length - 1))) = some (ckAll ((l.segs ++ [[p]]).getLastD []), 0)
    rw [hlen, show l.segs.length + 1 - 1 = l.segs.length by omega, e, if_pos rfl]
    simp [ckAll]
  · show l.safe = l.first + cntS (l.segs ++ [[p]]).dropLast + 0
    rw [hs]
    simp [nextG]
  · simp [ckAll]
theorem SgIs.grown {d d' : Dv} {l : Lg} (h : SgIs d l) (ok : Dv.Ok d') (p : List Int) (hp : p.length ≤ 1024) (h0 : l.segs ≠ []) {y : Nat} (hb : lkF d (segN (curN l)) = some (ckAll (lastS l), y))
    (e : ∀ t, lkF d' t = if t = segN (curN l) then some (ckAll (lastS l) ++ ckL p, y) else lkF d t) : SgIs d' { l with segs := l.segs.dropLast ++ [lastS l ++ [p]] } := by
  obtain ⟨hk, hl, hc, hs⟩ := last_at h0
  have hdl : l.segs.dropLast.length = l.segs.length - 1 := List.length_dropLast
  have hlen : (l.segs.dropLast ++ [lastS l ++ [p]]).length = l.segs.length := by rw [List.length_append, hdl]; simp; omega
  have hall : ckAll (lastS l ++ [p]) = ckAll (lastS l) ++ ckL p := by rw [ckAll_app]; congr 1; simp [ckAll]
  refine ⟨ok, headG_of (by rw [e, if_neg (fun x => segN_head _ x.symm)]) h.hd, fun i hi => ?_, fun s hms => ?_, fun s hs2 => ?_, ⟨fun h9 => absurd h9 (by simp), fun _ => ?_⟩, h.lim⟩
  · have hi2 : i < (l.segs.dropLast ++ [lastS l ++ [p]]).length := hi
    rw [hlen] at hi2
    show ∃ y, lkF d' (segN (l.n + i)) = some (ckAll (l.segs.dropLast ++ [lastS l ++ [p]])[i], y) ∧ y ≤ (ckAll (l.segs.dropLast ++ [lastS l ++ [p]])[i]).length ∧ (i + 1 < (l.segs.dropLast ++ [lastS l ++ [p]]).length → y = (ckAll (l.segs.dropLast ++ [lastS l ++ [p]])[i]).length)
    by_cases hlt : i < l.segs.length - 1
    · rw [List.getElem_append_left (by omega), e, if_neg (fun x => by have := segN_inj x; omega), List.getElem_dropLast]
      obtain ⟨y0, h1, h2, h3⟩ := h.at_ i (by omega)
      exact ⟨y0, h1, h2, fun _ => h3 (by omega)⟩
    · obtain rfl : i = l.segs.length - 1 := by omega
      rw [e, if_pos (by rw [hc])]
      have he : (l.segs.dropLast ++ [lastS l ++ [p]])[l.segs.length - 1] = lastS l ++ [p] := by rw [List.getElem_append_right (by omega)]; simp [hdl]
      rw [he, hall]
      obtain ⟨y0, h1, h2, h3⟩ := h.at_ _ hk
      rw [← hc, hb, ← hl] at h1
      injection h1 with h1
      injection h1 with _ e2
      subst e2
      rw [← hl] at h2
      refine ⟨y, rfl, by rw [List.length_append]; omega, fun h9 => ?_⟩
      rw [hlen] at h9; omega
  · have hms2 : mineS l.n (l.segs.dropLast ++ [lastS l ++ [p]]).length s = false := hms
    rw [hlen] at hms2
    rw [e, if_neg (fun x => by rw [x, hc, mine_seg _ _ _ hk] at hms2; cases hms2)]
    exact h.no s hms2
  · have hs2 : s ∈ l.segs.dropLast ++ [lastS l ++ [p]] := hs2
    rcases List.mem_append.1 hs2 with hs2 | hs2
    · exact h.mem s ((List.dropLast_sublist _).subset hs2)
    · simp only [List.mem_singleton] at hs2
      subst hs2
      intro q hq
      rcases List.mem_append.1 hq with hq | hq
      · exact h.mem _ (by rw [hl]; exact List.getElem_mem hk) q hq
      · simp only [List.mem_singleton] at hq
        subst hq
        exact hp
  · obtain ⟨j, y1, h1, h2, h3, h4⟩ := h.saf.2 h0
    rw [hb] at h2
    injection h2 with h2
    injection h2 with _ e2
    subst e2
    have hgl : (l.segs.dropLast ++ [lastS l ++ [p]]).getLastD [] = lastS l ++ [p] := by simp
    refine ⟨j, y, ?_, ?_, ?_, ?_⟩
    · show j ≤ ((l.segs.dropLast ++ [lastS l ++ [p]]).getLastD []).length
      rw [hgl, List.length_append]; omega
    · show lkF d' (segN (l.n + ((l.segs.dropLast ++ [lastS l ++ [p]]).length - 1))) = some (ckAll ((l.segs.dropLast ++ [lastS l ++ [p]]).getLastD []), y)
      rw [hgl, hlen, ← hc, e, if_pos rfl, hall]
    · show l.safe = l.first + cntS (l.segs.dropLast ++ [lastS l ++ [p]]).dropLast + j
      rw [List.dropLast_concat]
      exact h3
    · show (ckAll (((l.segs.dropLast ++ [lastS l ++ [p]]).getLastD []).take j)).length ≤ y
      rw [hgl, List.take_append_of_le_length h1]
      exact h4
theorem SgIs.whole {d : Dv} {l : Lg} (h : SgIs d l) (hs : l.safe = nextG l) : ∀ i (hi : i < l.segs.length), lkF d (segN (l.n + i)) = some (ckAll l.segs[i], (ckAll l.segs[i]).length) := by
  intro i hi
  have h0 : l.segs ≠ [] := fun h9 => by rw [h9] at hi; simp at hi
  obtain ⟨y0, h1, h2, h3⟩ := h.at_ i hi
  by_cases hlt : i + 1 < l.segs.length
  · rw [h3 hlt] at h1; exact h1
  · obtain ⟨hk, hl, hc, _⟩ := last_at h0
    obtain rfl : i = l.segs.length - 1 := by omega
    obtain ⟨j, y1, g1, g2, g3, g4⟩ := h.saf.2 h0
    rw [hc, h1, ← hl] at g2
    injection g2 with g2
    injection g2 with _ e2
    subst e2
    unfold nextG at hs
    rw [cntS_last h0] at hs
    have hj : j = (lastS l).length := by omega
    rw [hj, List.take_length] at g4
    rw [← hl] at h2 h1 ⊢
    rw [h1]
    congr 2
    omega
theorem used_fs {d d' : Dv} (h : d'.fs = d.fs) : usedD d'.fs = usedD d.fs := by rw [h]
theorem full_ne {l : Lg} (h : fullS l = true) : l.segs ≠ [] := (of_decide_eq_true h).1
theorem putN_cases (l : Lg) : (l.segs = [] ∧ fullS l = false ∧ putN l = l.n) ∨ (fullS l = true ∧ putN l = l.n + l.segs.length ∧ l.segs ≠ []) ∨ (fullS l = false ∧ l.segs ≠ [] ∧ putN l = curN l) := by
  by_cases hf : fullS l = true
  · refine .inr (.inl ⟨hf, ?_, full_ne hf⟩)
    have hp : 0 < l.segs.length := List.length_pos_iff.2 (full_ne hf)
    unfold putN curN
    rw [if_pos hf]; omega
  · have hf' : fullS l = false := by simpa using hf
    by_cases h0 : l.segs = []
    · refine .inl ⟨h0, hf', ?_⟩
      unfold putN curN
      rw [if_neg hf, h0]; rfl
    · refine .inr (.inr ⟨hf', h0, ?_⟩)
      unfold putN
      rw [if_neg hf]
theorem put_is {d : Dv} {l : Lg} (h : SgIs d l) (p : List Int) (hp : p.length ≤ 1024) (hw : ∀ x ∈ p, (Lit.int .u8 x).wf = true) (hn : putN l ≤ 999999999999) (hf : fullS l = true → l.safe = nextG l) (hoff : d.off = false) :
    ∃ d' e, appD d (segN (putN l)) (ckL p) = (d', e) ∧ d'.room = d.room ∧ (d.left = -1 → d'.left = -1) ∧ ((e = 0 ∧ SgIs d' { l with segs := addS l p } ∧ d'.off = false ∧ usedD d'.fs = usedD d.fs + (p.length + 6)) ∨ (SgIs d' l ∧ d'.fs = d.fs ∧ ((e = 9 ∧ d' = d ∧ ((d.room : Int) - usedD d.fs < p.length + 6 ∨ d.fs.length = 64)) ∨ (e = 10 ∧ d'.off = true ∧ d.left = 0)))) := by
  have hlen : (ckL p).length = p.length + 6 := by rw [ckL_len]; omega
  obtain ⟨d1, e1, q1, ok1, h1⟩ := app_step h.ok (segN (putN l)) (ckL p) (ckL_wf (by omega) hw)
  have hok : okN (segN (putN l)) = true := segN_ok (by omega)
  rcases h1 with ⟨hnn, h9, h8, h7⟩ | ⟨rfl, _, _, did, hu, hlk⟩
  · refine ⟨_, _, q1, hnn.2.2.1, fun hl => by rw [hnn.2.2.2.1]; exact hl, .inr ⟨h.of_lk ok1 hnn.lk, hnn.2.1, ?_⟩⟩
    rcases h7 with rfl | rfl | rfl
    · rw [h8.1 rfl] at hok; cases hok
    · obtain ⟨_, h10⟩ := h9 rfl
      refine .inl ⟨rfl, ?_, ?_⟩
      · rcases hnn.2.2.2.2 with ⟨h11, _⟩ | ⟨_, h11⟩
        · exact absurd h11 (by decide)
        · exact h11
      · rcases h10 with ⟨_, h11⟩ | h11
        · exact .inr h11
        · rw [hlen] at h11
          exact .inl (by omega)
    · exact .inr ⟨rfl, left_of_down hnn rfl hoff, armed_of hnn rfl hoff⟩
  · refine ⟨_, _, q1, did.room, fun hl => by rw [did.left, hl]; rfl, .inl ⟨rfl, ?_, did.off, by rw [hu, hlen]⟩⟩
    rcases putN_cases l with ⟨h0, hff, hpn⟩ | ⟨hff, hpn, h0⟩ | ⟨hff, h0, hpn⟩
    · have hnone : lkF d (segN (l.n + l.segs.length)) = none := h.far (Nat.le_refl _)
      rw [hpn] at hlk
      have e0 : l.n = l.n + l.segs.length := by rw [h0]; rfl
      rw [e0, hnone] at hlk
      have hadd : addS l p = l.segs ++ [[p]] := if_pos (.inl h0)
      rw [hadd]
      exact h.begun ok1 p hp (.inl h0) (by rw [h.saf.1 h0]; unfold nextG; rw [h0]; simp [cntS]) (fun i hi => by rw [h0] at hi; simp at hi) hlk
    · have hnone : lkF d (segN (l.n + l.segs.length)) = none := h.far (Nat.le_refl _)
      rw [hpn, hnone] at hlk
      have hadd : addS l p = l.segs ++ [[p]] := if_pos (.inr hff)
      rw [hadd]
      exact h.begun ok1 p hp (.inr hff) (hf hff) (h.whole (hf hff)) hlk
    · obtain ⟨j, y, _, hcur, _⟩ := h.saf.2 h0
      rw [hpn, hcur] at hlk
      have hadd : addS l p = l.segs.dropLast ++ [lastS l ++ [p]] := if_neg (by rintro (h9 | h9); exact h0 h9; rw [hff] at h9; cases h9)
      rw [hadd]
      exact h.grown ok1 p hp h0 hcur hlk
theorem app_is {d : Dv} {l : Lg} (h : SgIs d l) (p : List Int) (hw : ∀ x ∈ p, (Lit.int .u8 x).wf = true) :
    ∃ d' l' a e, appG d l p = (d', l', a, e) ∧ SgIs d' l' ∧ l'.n = l.n ∧ l'.first = l.first ∧ l.safe ≤ l'.safe ∧ d'.room = d.room ∧ (d.left = -1 → d'.left = -1) ∧
      ((e = 0 ∧ a = (nextG l : Int) ∧ l'.segs = addS l p ∧ p.length ≤ 1024 ∧ d.off = false ∧ d'.off = false ∧ usedD d'.fs = usedD d.fs + (p.length + 6)) ∨
       (e ≠ 0 ∧ a = 0 ∧ l'.segs = l.segs ∧ usedD d'.fs = usedD d.fs ∧ ((e = 2 ∧ 1024 < p.length ∧ d' = d) ∨ (e = 9 ∧ d'.off = false ∧ ((d'.room : Int) - usedD d'.fs < p.length + 6 ∨ d'.fs.length = 64)) ∨ (e = 10 ∧ d'.off = true ∧ (d.off = true ∨ 0 ≤ d.left)) ∨ (e = 12 ∧ (1099511627776 ≤ nextG l ∨ 999999999999 < putN l) ∧ d' = d)))) := by
  unfold appG
  by_cases hoff : d.off = true
  · rw [if_pos hoff]
    exact ⟨_, _, _, _, rfl, h, rfl, rfl, Nat.le_refl _, rfl, fun hl => hl, .inr ⟨by decide, rfl, rfl, rfl, .inr (.inr (.inl ⟨rfl, hoff, .inl hoff⟩))⟩⟩
  rw [if_neg hoff]
  have hoff' : d.off = false := by simpa using hoff
  by_cases hp : 1024 < p.length
  · rw [if_pos hp]
    exact ⟨_, _, _, _, rfl, h, rfl, rfl, Nat.le_refl _, rfl, fun hl => hl, .inr ⟨by decide, rfl, rfl, rfl, .inl ⟨rfl, hp, rfl⟩⟩⟩
  rw [if_neg hp]
  by_cases hb : 1099511627776 ≤ nextG l ∨ 999999999999 < putN l
  · rw [if_pos hb]
    exact ⟨_, _, _, _, rfl, h, rfl, rfl, Nat.le_refl _, rfl, fun hl => hl, .inr ⟨by decide, rfl, rfl, rfl, .inr (.inr (.inr ⟨rfl, hb, rfl⟩))⟩⟩
  rw [if_neg hb]
  by_cases hf : fullS l = true
  · rw [if_pos hf]
    obtain ⟨d1, l1, e1, q1, s1, s2, s3, s4, s5, s6, s7, s8, s9, s10⟩ := sync_is h
    rw [q1]
    rcases s9 with ⟨rfl, s11, _, s12⟩ | ⟨rfl, rfl, s11, s12⟩
    · simp only [if_true]
      have hpn : putN l1 = putN l := by unfold putN fullS curN lastS; rw [s1, s2]
      have hnx : nextG l1 = nextG l := by unfold nextG; rw [s1, s3]
      have hadd : addS l1 p = addS l p := by unfold addS fullS lastS; rw [s1]
      obtain ⟨d2, e2, q2, r1, r2, r3⟩ := put_is s5 p (by omega) hw (by rw [hpn]; omega) (fun _ => by rw [s11, hnx]) s12
      rw [hpn] at q2
      rw [q2]
      rcases r3 with ⟨rfl, r4, r5, r6⟩ | ⟨r4, r5, r6⟩
      · simp only [if_true]
        rw [hadd] at r4
        refine ⟨_, _, _, _, rfl, r4, s2, s3, s4, by rw [r1, s7], fun hl => r2 (s10 hl), .inl ⟨rfl, rfl, rfl, by omega, hoff', r5, by rw [r6, s6]⟩⟩
      · have he : e2 ≠ 0 := by rcases r6 with ⟨rfl, _⟩ | ⟨rfl, _⟩ <;> decide
        simp only [if_neg he]
        refine ⟨_, _, _, _, rfl, r4, s2, s3, s4, by rw [r1, s7], fun hl => r2 (s10 hl), .inr ⟨he, rfl, s1, by rw [used_fs r5, s6], ?_⟩⟩
        rcases r6 with ⟨rfl, r7, r8⟩ | ⟨rfl, r7, r8⟩
        · rw [r7]; exact .inr (.inl ⟨rfl, s12, r8⟩)
        · refine .inr (.inr (.inl ⟨rfl, r7, .inr ?_⟩))
          by_cases hl : d.left = -1
          · have := s10 hl; omega
          · have := h.ok.lf; omega
    · simp only [show ¬ (10 : Int) = 0 by decide, if_false]
      refine ⟨_, _, _, _, rfl, s5, s2, s3, s4, s7, s10, .inr ⟨by decide, rfl, rfl, s6, .inr (.inr (.inl ⟨rfl, s11, .inr ?_⟩))⟩⟩
      rcases s12 with h9 | h9
      · rw [hoff'] at h9; cases h9
      · omega
  · rw [if_neg hf]
    unfold putG
    obtain ⟨d2, e2, q2, r1, r2, r3⟩ := put_is h p (by omega) hw (by omega) (fun h9 => absurd h9 hf) hoff'
    rw [q2]
    rcases r3 with ⟨rfl, r4, r5, r6⟩ | ⟨r4, r5, r6⟩
    · simp only [if_true]
      exact ⟨_, _, _, _, rfl, r4, rfl, rfl, Nat.le_refl _, r1, r2, .inl ⟨rfl, rfl, rfl, by omega, hoff', r5, r6⟩⟩
    · have he : e2 ≠ 0 := by rcases r6 with ⟨rfl, _⟩ | ⟨rfl, _⟩ <;> decide
      simp only [if_neg he]
      refine ⟨_, _, _, _, rfl, r4, rfl, rfl, Nat.le_refl _, r1, r2, .inr ⟨he, rfl, rfl, used_fs r5, ?_⟩⟩
      rcases r6 with ⟨rfl, r7, r8⟩ | ⟨rfl, r7, r8⟩
      · rw [r7]; exact .inr (.inl ⟨rfl, hoff', r8⟩)
      · exact .inr (.inr (.inl ⟨rfl, r7, .inr (by omega)⟩))
end Go.Proofs.YtbdhhmhlcdganaaGreatDoor
namespace Go.Proofs.YtbdhhmhlcdganaaGreatDoor
open Go.RowKit
set_option linter.unusedVariables false
set_option maxRecDepth 100000

theorem cut_at (ls : List (List Int)) : ∀ c, c ≤ (ckAll ls).length → ∃ j, j ≤ ls.length ∧ (ckAll (ls.take j)).length ≤ c ∧ (j < ls.length → c < (ckAll (ls.take (j + 1))).length) := by
  induction ls with
  | nil => intro c hc; exact ⟨0, Nat.le_refl _, by simp [ckAll], fun h => absurd h (by simp)⟩
  | cons p ls ih =>
    intro c hc
    have e : ∀ m, ckAll ((p :: ls).take (m + 1)) = ckL p ++ ckAll (ls.take m) := fun m => by unfold ckAll; rw [List.take_succ_cons, List.flatMap_cons]
    have e2 : ckAll (p :: ls) = ckL p ++ ckAll ls := by unfold ckAll; rw [List.flatMap_cons]
    by_cases h : c < (ckL p).length
    · exact ⟨0, Nat.zero_le _, by simp [ckAll], fun _ => by rw [e, List.length_append]; omega⟩
    · rw [e2, List.length_append] at hc
      obtain ⟨j, h1, h2, h3⟩ := ih (c - (ckL p).length) (by omega)
      refine ⟨j + 1, by simpa using h1, by rw [e, List.length_append]; omega, fun h4 => ?_⟩
      rw [e, List.length_append]
      have := h3 (by simpa using h4)
      omega
theorem ckAll_mono (ls : List (List Int)) {a b : Nat} (h : a ≤ b) : (ckAll (ls.take a)).length ≤ (ckAll (ls.take b)).length := by
  have e : ls.take a = (ls.take b).take a := by rw [List.take_take, Nat.min_eq_left h]
  rw [e]
  exact ckAll_take_le _ _
structure Core (d : Dv) (l : Lg) : Prop where
  ok : Dv.Ok d
  hd : headG d = some (l.n, l.first)
  hs : ∀ b y, lkF d headN = some (b, y) → y = b.length
  at_ : ∀ i (h : i < l.segs.length), ∃ y, lkF d (segN (l.n + i)) = some (ckAll l.segs[i], y) ∧ y ≤ (ckAll l.segs[i]).length ∧ (i + 1 < l.segs.length → y = (ckAll l.segs[i]).length)
  next : lkF d (segN (l.n + l.segs.length)) = none
  mem : ∀ s ∈ l.segs, ∀ p ∈ s, p.length ≤ 1024
  saf : (l.segs = [] → l.safe = l.first) ∧ (l.segs ≠ [] → ∃ j y, j ≤ (lastS l).length ∧ lkF d (segN (curN l)) = some (ckAll (lastS l), y) ∧ l.safe = l.first + cntS l.segs.dropLast + j ∧ (ckAll ((lastS l).take j)).length ≤ y)
theorem SgIs.core {d : Dv} {l : Lg} (h : SgIs d l) (hs : ∀ b y, lkF d headN = some (b, y) → y = b.length) : Core d l := ⟨h.ok, h.hd, hs, h.at_, h.far (Nat.le_refl _), h.mem, h.saf⟩
theorem Core.beside {d d' : Dv} {l : Lg} (h : Core d l) (ok : Dv.Ok d') {s : ByteArray} (e : ∀ t, t ≠ s → lkF d' t = lkF d t) (h1 : s ≠ headN) (h2 : ∀ i, i ≤ l.segs.length → s ≠ segN (l.n + i)) : Core d' l := by
  have hh : lkF d' headN = lkF d headN := e _ (fun x => h1 x.symm)
  have hsg : ∀ i, i ≤ l.segs.length → lkF d' (segN (l.n + i)) = lkF d (segN (l.n + i)) := fun i hi => e _ (fun x => h2 i hi x.symm)
  refine ⟨ok, headG_of hh h.hd, fun b y hb => h.hs b y (by rw [← hh]; exact hb), fun i hi => ?_, by rw [hsg _ (Nat.le_refl _)]; exact h.next, h.mem, h.saf.1, fun h0 => ?_⟩
  · rw [hsg i (by omega)]; exact h.at_ i hi
  · have : lkF d' (segN (curN l)) = lkF d (segN (curN l)) := hsg _ (by omega)
    rw [this]
    exact h.saf.2 h0
theorem cntS_flat (s : List (List (List Int))) : cntS s = s.flatten.length := by unfold cntS; rw [List.length_flatten]
theorem wake_rest {d : Dv} {l : Lg} (h : Core d l) (keep : Int) :
    ∃ segs', Rest (wakeD d keep) l.n l.first segs' ∧ segs'.length = l.segs.length ∧ segs'.flatten = l.segs.flatten.take (cntS segs') ∧ l.safe ≤ l.first + cntS segs' ∧ cntS segs' ≤ cntS l.segs := by
  have wl := wake_lk h.ok keep
  have wok := wake_ok h.ok keep
  have whd : headG (wakeD d keep) = some (l.n, l.first) := by
    refine headG_of ?_ h.hd
    rw [wl]
    cases hh : lkF d headN with
    | none => rfl
    | some p =>
      obtain ⟨b, y⟩ := p
      have := h.hs b y hh
      subst this
      simp
  have wsyn : ∀ s b y, lkF (wakeD d keep) s = some (b, y) → y = b.length := by
    intro s b y hb
    rw [wl, Option.map_eq_some_iff] at hb
    obtain ⟨⟨b0, y0⟩, h1, h2⟩ := hb
    injection h2 with e1 e2
    obtain ⟨f, hf, _, hfb, hfy⟩ := (lk_some h.ok).1 h1
    have := (h.ok.fl f hf).sy
    rw [hfb, hfy] at this
    rw [← e1, ← e2, List.length_take]
    simp only
    omega
  have wnext : lkF (wakeD d keep) (segN (l.n + l.segs.length)) = none := by rw [wl, h.next]; rfl
  by_cases h0 : l.segs = []
  · refine ⟨[], ⟨wok, whd, fun i hi => absurd hi (by simp), ?_, wsyn, fun s hs => absurd hs (by simp)⟩, by rw [h0], by simp [cntS], by rw [h.saf.1 h0]; omega, by rw [h0]; exact Nat.le_refl _⟩
    rw [h0] at wnext
    exact wnext
  obtain ⟨hk, hl, hc, hs⟩ := last_at h0
  obtain ⟨j, y, g1, g2, g3, g4⟩ := h.saf.2 h0
  obtain ⟨y0, k1, k2, _⟩ := h.at_ _ hk
  rw [← hc, ← hl] at k1
  rw [← hl] at k2
  rw [g2] at k1
  injection k1 with k1
  injection k1 with _ k1
  subst k1
  obtain ⟨c, hcc⟩ : ∃ c, c = y + min keep.toNat ((ckAll (lastS l)).length - y) := ⟨_, rfl⟩
  have hcl : c ≤ (ckAll (lastS l)).length := by omega
  obtain ⟨m, m1, m2, m3⟩ := cut_at (lastS l) c hcl
  obtain ⟨t, t1, t2⟩ := ck_cut (lastS l) m c m1 m2 m3
  have hjm : j ≤ m := by
    rcases Nat.lt_or_ge m j with hlt | hge
    · exfalso
      have h5 := m3 (by omega)
      have h6 := ckAll_mono (lastS l) (show m + 1 ≤ j by omega)
      omega
    · exact hge
  have hdl : l.segs.dropLast.length = l.segs.length - 1 := List.length_dropLast
  have hlen : (l.segs.dropLast ++ [(lastS l).take m]).length = l.segs.length := by rw [List.length_append, hdl]; simp; omega
  have hlm : ((lastS l).take m).length = m := by rw [List.length_take]; omega
  have hcnt : cntS (l.segs.dropLast ++ [(lastS l).take m]) = cntS l.segs.dropLast + m := by rw [cntS_append]; simp [cntS, hlm]
  refine ⟨l.segs.dropLast ++ [(lastS l).take m], ⟨wok, whd, fun i hi => ?_, by rw [hlen]; exact wnext, wsyn, fun s hs2 => ?_⟩, hlen, ?_, by rw [g3, hcnt]; omega, by rw [hcnt, cntS_last h0]; omega⟩
  · rw [hlen] at hi
    by_cases hlt : i < l.segs.length - 1
    · have he : (l.segs.dropLast ++ [(lastS l).take m])[i]'(by rw [hlen]; exact hi) = l.segs[i] := by rw [List.getElem_append_left (by omega), List.getElem_dropLast]
      rw [he]
      obtain ⟨y1, p1, p2, p3⟩ := h.at_ i hi
      have p4 := p3 (by omega)
      subst p4
      refine ⟨[], ?_, ckE_nil, fun _ => rfl⟩
      rw [wl, p1, List.append_nil]
      simp
    · obtain rfl : i = l.segs.length - 1 := by omega
      have he : (l.segs.dropLast ++ [(lastS l).take m])[l.segs.length - 1]'(by rw [hlen]; exact hi) = (lastS l).take m := by rw [List.getElem_append_right (by omega)]; simp [hdl]
      rw [he]
      refine ⟨t, ?_, t2, fun h9 => by rw [hlen] at h9; omega⟩
      rw [wl, ← hc, g2, ← t1, hcc]
      simp only [Option.map_some, List.length_take]
      congr 2
      omega
  · rcases List.mem_append.1 hs2 with hs2 | hs2
    · exact h.mem s ((List.dropLast_sublist _).subset hs2)
    · simp only [List.mem_singleton] at hs2
      subst hs2
      intro q hq
      exact h.mem (lastS l) (by rw [hl]; exact List.getElem_mem hk) q (List.mem_of_mem_take hq)
  · have hfl : l.segs.flatten = l.segs.dropLast.flatten ++ lastS l := by
      conv => lhs; rw [hs]
      simp
    rw [hcnt, hfl, cntS_flat, List.take_length_add_append]
    simp
theorem Rest.wake {d : Dv} {n first : Nat} {segs : List (List (List Int))} (h : Rest d n first segs) (keep : Int) : Rest (wakeD d keep) n first segs := by
  refine h.of_lk (wake_ok h.ok keep) ?_
  funext s
  rw [wake_lk h.ok keep]
  cases hb : lkF d s with
  | none => rfl
  | some p =>
    obtain ⟨b, y⟩ := p
    have := h.syn s b y hb
    subst this
    simp
theorem Rest.arm {d : Dv} {n first : Nat} {segs : List (List (List Int))} (h : Rest d n first segs) (k : Int) (hk : k < 9223372036854775808) : Rest (armD d k) n first segs := h.of_lk (arm_ok h.ok k hk) (lkF_fs rfl)
theorem Rest.op {d d' : Dv} {n first : Nat} {segs : List (List (List Int))} (h : Rest d n first segs) (e : d'.fs = d.fs) (ok : Dv.Ok d') : Rest d' n first segs := h.of_lk ok (lkF_fs e)
end Go.Proofs.YtbdhhmhlcdganaaGreatDoor
namespace Go.Proofs.YtbdhhmhlcdganaaGreatDoor
open Go.RowKit
set_option linter.unusedVariables false
set_option maxRecDepth 100000

theorem Fresh.is {d : Dv} {n first : Nat} {segs : List (List (List Int))} (h : Fresh d n first segs) (hn : 1 ≤ n) : SgIs d ⟨n, first, segs, first + cntS segs⟩ := by
  refine ⟨h.rest.ok, h.rest.hd, fun i hi => ⟨_, h.ex i hi, Nat.le_refl _, fun _ => rfl⟩, h.no, h.rest.mem, ⟨fun h0 => ?_, fun h0 => ?_⟩, hn⟩
  · show first + cntS segs = first
    rw [show segs = [] from h0]; simp [cntS]
  · obtain ⟨hk, e1, e2, e3⟩ := last_at (l := ⟨n, first, segs, first + cntS segs⟩) h0
    refine ⟨(lastS ⟨n, first, segs, first + cntS segs⟩).length, (ckAll (lastS ⟨n, first, segs, first + cntS segs⟩)).length, Nat.le_refl _, ?_, ?_, by rw [List.take_length]; exact Nat.le_refl _⟩
    · rw [e1, e2]; exact h.ex _ hk
    · have := cntS_last (l := ⟨n, first, segs, first + cntS segs⟩) h0
      show first + cntS segs = first + cntS segs.dropLast + _
      have h2 : cntS segs = cntS segs.dropLast + (lastS ⟨n, first, segs, first + cntS segs⟩).length := this
      omega
theorem new_rest (r : Nat) (hr : r ≤ 16777216) : Rest (newD r) 1 0 [] := by
  have hl : ∀ s, lkF (newD r) s = none := fun s => by rw [lk_none]; intro f hf; simp [newD] at hf
  refine ⟨new_ok r (by omega), ?_, fun i h => absurd h (by simp), hl _, fun s b y h => (by rw [hl] at h; cases h), fun s hs => absurd hs (by simp)⟩
  unfold headG
  rw [if_pos (hl _)]
instance : DecidableEq Fl := fun a b => decidable_of_iff (a.nm = b.nm ∧ a.bs = b.bs ∧ a.sy = b.sy) ⟨fun h => by cases a; cases b; simp at h; simp [h], fun h => by simp [h]⟩
instance : DecidableEq Dv := fun a b => decidable_of_iff (a.room = b.room ∧ a.left = b.left ∧ a.off = b.off ∧ a.fs = b.fs) ⟨fun h => by cases a; cases b; simp at h; simp [h], fun h => by simp [h]⟩
instance : DecidableEq Lg := fun a b => decidable_of_iff (a.n = b.n ∧ a.first = b.first ∧ a.segs = b.segs ∧ a.safe = b.safe) ⟨fun h => by cases a; cases b; simp at h; simp [h], fun h => by simp [h]⟩
theorem wk14 : ∃ d0 d1 d2 d3 d4 d5, openG (newD 4096) = (d0, some ⟨1, 0, [], 0⟩, 0) ∧ appG d0 ⟨1, 0, [], 0⟩ [1] = (d1, ⟨1, 0, [[[1]]], 0⟩, 0, 0) ∧ appG d1 ⟨1, 0, [[[1]]], 0⟩ [] = (d2, ⟨1, 0, [[[1], []]], 0⟩, 1, 0) ∧ syncG d2 ⟨1, 0, [[[1], []]], 0⟩ = (d3, ⟨1, 0, [[[1], []]], 2⟩, 0) ∧ appG d3 ⟨1, 0, [[[1], []]], 2⟩ [2] = (d4, ⟨1, 0, [[[1], [], [2]]], 2⟩, 2, 0) ∧ openG (wakeD d4 0) = (d5, some ⟨1, 0, [[[1], []]], 2⟩, 0) := by
  obtain ⟨d0, e0⟩ : ∃ d, d = (openG (newD 4096)).1 := ⟨_, rfl⟩
  obtain ⟨d1, e1⟩ : ∃ d, d = (appG d0 ⟨1, 0, [], 0⟩ [1]).1 := ⟨_, rfl⟩
  obtain ⟨d2, e2⟩ : ∃ d, d = (appG d1 ⟨1, 0, [[[1]]], 0⟩ []).1 := ⟨_, rfl⟩
  obtain ⟨d3, e3⟩ : ∃ d, d = (syncG d2 ⟨1, 0, [[[1], []]], 0⟩).1 := ⟨_, rfl⟩
  obtain ⟨d4, e4⟩ : ∃ d, d = (appG d3 ⟨1, 0, [[[1], []]], 2⟩ [2]).1 := ⟨_, rfl⟩
  obtain ⟨d5, e5⟩ : ∃ d, d = (openG (wakeD d4 0)).1 := ⟨_, rfl⟩
  refine ⟨d0, d1, d2, d3, d4, d5, ?_⟩
  subst e0
  subst e1
  subst e2
  subst e3
  subst e4
  subst e5
  decide +kernel
end Go.Proofs.YtbdhhmhlcdganaaGreatDoor
namespace Go.Proofs.YtbdhhmhlcdganaaGreatDoor
open Go.RowKit
set_option linter.unusedVariables false
set_option maxRecDepth 100000

def txC (s : ByteArray) : List Value := [.string s]
theorem txC_len (s : ByteArray) : (txC s).length = 1 := rfl
theorem info_tx : (Tryz.prog.info? 9).map (fun i => (i.zero, i.size, i.bytes)) = some (some (.string ⟨#[]⟩), 1, 16) := by kernel_rfl
def TxOwn (w : World) (base : Nat) (v : Value) (l : List ByteArray) : Prop := w.ownsRow base 9 1 v l.length (flatV txC l)
theorem TxOwn.nil (w : World) (base : Nat) : TxOwn w base (.slice none 0 0) [] := World.ownsRow_nil w base _ 1
theorem TxOwn.row {w : World} {base : Nat} {v : Value} {l : List ByteArray} (h : TxOwn w base v l) : ∃ A c, v = .slice A l.length c ∧ VRow w w.heap.size A (flatV txC l) ∧ l.length ≤ c ∧ c ≤ maxLen := VRow.of_own h
theorem TxOwn.alloc {w : World} {base : Nat} {v : Value} {l : List ByteArray} (h : TxOwn w base v l) (o : Obj) : TxOwn (w.alloc o) base v l := World.ownsRow.alloc h o
theorem TxOwn.frm {F : Nat → Prop} {w w' : World} {base : Nat} {v : Value} {l : List ByteArray} (h : TxOwn w base v l) (hf : Frm F w w') (hn : ∀ b, v.ownBlock = some b → ¬ F b) : TxOwn w' base v l := by
  refine ⟨h.1, ?_⟩
  rcases h.2 with h0 | ⟨g, cap, cur, hv, h1, h2, h3⟩
  · exact .inl h0
  · exact .inr ⟨g, cap, cur, hv, h1, (hf.block g (block_lt h2) (hn g (by rw [hv]; rfl))).trans h2, h3⟩
theorem TxOwn.mono {w : World} {base base' : Nat} {v : Value} {l : List ByteArray} (h : TxOwn w base v l) (hb : base' ≤ base) : TxOwn w base' v l := by
  refine ⟨h.1, ?_⟩
  rcases h.2 with h0 | ⟨g, cap, cur, hv, h1, r⟩
  · exact .inl h0
  · exact .inr ⟨g, cap, cur, hv, by omega, r⟩
theorem TxOwn.lt {w : World} {base : Nat} {v : Value} {l : List ByteArray} (h : TxOwn w base v l) : ∀ g, v.ownBlock = some g → base ≤ g ∧ g < w.heap.size := World.ownsRow.lt h
theorem TxOwn.below {w w' : World} {base : Nat} {v : Value} {l : List ByteArray} (h : TxOwn w base v l) (hb : Below w.heap.size w w') : TxOwn w' base v l := h.frm (F := fun _ => False) (Frm.of_below hb) (fun _ _ h => h)
theorem TxOwn.elem {w : World} {base : Nat} {v : Value} {l : List ByteArray} (h : TxOwn w base v l) {i : Nat} (hi : i < l.length) :
    ∃ b cap, v = .slice (some ⟨b, 0, none⟩) l.length cap ∧ base ≤ b ∧ b < w.heap.size ∧ l.length ≤ cap ∧ cap ≤ maxLen ∧ w.cell? ⟨b, i, none⟩ = some (.string l[i]) ∧ ∀ j, w.frozen? ⟨b, j, none⟩ = false := by
  rcases h.2 with ⟨_, h0⟩ | ⟨g, cap, cur, rfl, h1, h2, h3, h4, h5, h6⟩
  · omega
  · have key : ∀ j, j < 1 → w.cell? ⟨g, i * 1 + j, none⟩ = (txC l[i])[j]? := fun j hj => by
      rw [cell_of_row w g (i * 1 + j) cur _ _ h2, ← Array.getElem?_toList, ← flatV_get txC_len l i hi j hj, ← h6, List.getElem?_take_of_lt (by omega)]
    have k0 := key 0 (by omega)
    rw [Nat.mul_one, Nat.add_zero] at k0
    exact ⟨g, cap, rfl, h1, block_lt h2, h3, h4, k0, fun j => block_frozen w g j _ _ h2⟩
end Go.Proofs.YtbdhhmhlcdganaaGreatDoor
namespace Go.Proofs.YtbdhhmhlcdganaaGreatDoor
open Go.RowKit
set_option linter.unusedVariables false
def spoil8 (k : Nat) (l : List Int) : List Int := (l.take k).map (bits .xor .u8 · 90) ++ l.drop k
end Go.Proofs.YtbdhhmhlcdganaaGreatDoor
namespace Go.Proofs.YtbdhhmhlcdganaaGreatDoor
open Go.RowKit
set_option linter.unusedVariables false
set_option maxRecDepth 100000

def tblk (l : List ByteArray) : Array Value := (l.map Value.string).toArray
theorem tblk_size (l : List ByteArray) : (tblk l).size = l.length := by simp [tblk]
theorem tblk_get (l : List ByteArray) (i : Nat) (hi : i < l.length) : (tblk l)[i]? = some (.string l[i]) := by simp [tblk, hi]
def TkOwn (w : World) (base : Nat) (v : Value) (l : List ByteArray) : Prop :=
  (v = .slice none 0 0 ∧ l = []) ∨
  ∃ (g n cap : Nat) (r : List ByteArray), v = .slice (some ⟨g, 0, none⟩) n cap ∧ base ≤ g ∧ l.length = n ∧ w.heap[g]? = some (.cells (tblk (l ++ r)) 9 (0, 0)) ∧ n ≤ cap ∧ cap ≤ maxLen ∧ l.length + r.length = cap ∧ ∀ s ∈ r, s.size ≤ 1000
theorem TkOwn.nil (w : World) (base : Nat) : TkOwn w base (.slice none 0 0) [] := .inl ⟨rfl, rfl⟩
theorem TkOwn.below {w w' : World} {base B : Nat} {v : Value} {l : List ByteArray} (h : TkOwn w base v l) (hb : Below B w w') (hB : w.heap.size ≤ B) : TkOwn w' base v l := by
  rcases h with h | ⟨g, n, cap, r, h1, h2, h3, h4, h5⟩
  · exact .inl h
  · exact .inr ⟨g, n, cap, r, h1, h2, h3, (hb.block g (by have := block_lt h4; omega)).trans h4, h5⟩
theorem TkOwn.frm {F : Nat → Prop} {w w' : World} {base : Nat} {v : Value} {l : List ByteArray} (h : TkOwn w base v l) (hf : Frm F w w') (hn : ∀ b, v.ownBlock = some b → ¬ F b) : TkOwn w' base v l := by
  rcases h with h | ⟨g, n, cap, r, rfl, h2, h3, h4, h5⟩
  · exact .inl h
  · exact .inr ⟨g, n, cap, r, rfl, h2, h3, (hf.block g (block_lt h4) (hn g rfl)).trans h4, h5⟩
theorem TkOwn.letters {w : World} {base : Nat} {v : Value} {l : List ByteArray} (h : TkOwn w base v l) : ∃ A c, v = .slice A l.length c := by
  rcases h with ⟨rfl, rfl⟩ | ⟨g, n, cap, r, rfl, _, h3, _⟩
  · exact ⟨_, _, rfl⟩
  · rw [h3]; exact ⟨_, _, rfl⟩
theorem TkOwn.own {w : World} {base : Nat} {v : Value} {l : List ByteArray} (h : TkOwn w base v l) : TxOwn w base v l := by
  rcases h with ⟨rfl, rfl⟩ | ⟨g, n, cap, r, rfl, h2, h3, h4, h5, h6, h7, _⟩
  · exact TxOwn.nil _ _
  · subst h3
    have ef : ∀ l : List ByteArray, flatV txC l = l.map Value.string := fun l => by
      induction l with
      | nil => rfl
      | cons a l ih => rw [flatV_cons, ih]; rfl
    refine ⟨by rw [ef]; simp, .inr ⟨g, cap, _, rfl, h2, h4, h5, h6, by rw [tblk_size, List.length_append]; omega, ?_⟩⟩
    rw [ef, Nat.mul_one]
    simp only [tblk, List.map_append]
    rw [List.take_left' (by simp)]

end Go.Proofs.YtbdhhmhlcdganaaGreatDoor
namespace Go.Proofs.YtbdhhmhlcdganaaGreatDoor
open Go.RowKit
set_option linter.unusedVariables false
set_option maxRecDepth 100000

abbrev DevP := World → (Nat → Prop) → Nat → Dv → Prop
structure Dev (D : DevP) : Prop where
  frm : ∀ {F G : Nat → Prop} {w w' : World} {g : Nat} {d : Dv}, D w G g d → Frm F w w' → (∀ b, G b → ¬ F b) → D w' G g d
  lt : ∀ {G : Nat → Prop} {w : World} {g : Nat} {d : Dv}, D w G g d → ∀ b, G b → b < w.heap.size
def Did (D : DevP) (G : Nat → Prop) (g : Nat) (d : Dv) (w w' : World) (G' : Nat → Prop) : Prop := D w' G' g d ∧ Frm G w w' ∧ ∀ b, G' b → G b ∨ w.heap.size ≤ b
def Stp (D : DevP) (G : Nat → Prop) (g : Nat) (d : Dv) (v : Value) (w : World) (e : Ending) (w' : World) : Prop := e = .returned v ∧ ∃ G', Did D G g d w w' G'
structure DevOk0 (D : DevP) : Prop where
  dev : Dev D
  sync : ∀ {w : World} {G : Nat → Prop} {g : Nat} {d : Dv} (s : ByteArray), D w G g d → Dv.Ok d → Calls Tryz.prog 64 #[.pointer (some ⟨g, 0, none⟩), .string s] w (Stp D G g (syncD d s).1 (.int .i64 (syncD d s).2) w)
  truncate : ∀ {w : World} {G : Nat → Prop} {g : Nat} {d : Dv} (s : ByteArray) (n : Int), D w G g d → Dv.Ok d → -9223372036854775808 ≤ n ∧ n < 9223372036854775808 → Calls Tryz.prog 84 #[.pointer (some ⟨g, 0, none⟩), .string s, .int .i64 n] w (Stp D G g (truncD d s n).1 (.int .i64 (truncD d s n).2) w)
  remove : ∀ {w : World} {G : Nat → Prop} {g : Nat} {d : Dv} (s : ByteArray), D w G g d → Dv.Ok d → Calls Tryz.prog 68 #[.pointer (some ⟨g, 0, none⟩), .string s] w (Stp D G g (remD d s).1 (.int .i64 (remD d s).2) w)
  append : ∀ {w : World} {G : Nat → Prop} {g : Nat} {d : Dv} (s : ByteArray) (A : Option Addr) (n c : Nat) (bs : List Int), D w G g d → Dv.Ok d → Row .u8 w w.heap.size A bs → bs.length = n → n ≤ c → c ≤ 9223372036854775807 → n ≤ 100000000 → (∀ a, A = some a → 0 < n → ¬ G a.block) → Calls Tryz.prog 16 #[.pointer (some ⟨g, 0, none⟩), .string s, .slice A n c] w (Stp D G g (appD d s bs).1 (.int .i64 (appD d s bs).2) w)
  wake : ∀ {w : World} {G : Nat → Prop} {g : Nat} {d : Dv} (keep : Int), D w G g d → Dv.Ok d → -9223372036854775808 ≤ keep ∧ keep < 9223372036854775808 → Calls Tryz.prog 17 #[.pointer (some ⟨g, 0, none⟩), .int .i64 keep] w (Stp D G g (wakeD d keep) (.tuple #[]) w)
  arm : ∀ {w : World} {G : Nat → Prop} {g : Nat} {d : Dv} (n : Int), D w G g d → Dv.Ok d → -9223372036854775808 ≤ n ∧ n < 9223372036854775808 → Calls Tryz.prog 11 #[.pointer (some ⟨g, 0, none⟩), .int .i64 n] w (Stp D G g (armD d n) (.tuple #[]) w)
  names : ∀ {w : World} {G : Nat → Prop} {g : Nat} {d : Dv}, D w G g d → Dv.Ok d → Calls Tryz.prog 23 #[.pointer (some ⟨g, 0, none⟩)] w fun e w' => ∃ v, e = .returned v ∧ TkOwn w' w.heap.size v (namesD d) ∧ Below w.heap.size w w'
  read : ∀ {w : World} {G : Nat → Prop} {g : Nat} {d : Dv} (s : ByteArray), D w G g d → Dv.Ok d → Calls Tryz.prog 69 #[.pointer (some ⟨g, 0, none⟩), .string s] w fun e w' => ∃ v, e = .returned (.tuple #[v, .int .i64 (readE d s)]) ∧ KOwn .u8 5 w' w.heap.size v (readL d s) ∧ Below w.heap.size w w'
  used : ∀ {w : World} {G : Nat → Prop} {g : Nat} {d : Dv}, D w G g d → Dv.Ok d → Calls Tryz.prog 20 #[.pointer (some ⟨g, 0, none⟩)] w fun e w' => e = .returned (.int .i64 (usedD d.fs : Nat)) ∧ Below w.heap.size w w'
  free : ∀ {w : World} {G : Nat → Prop} {g : Nat} {d : Dv}, D w G g d → Dv.Ok d → Calls Tryz.prog 22 #[.pointer (some ⟨g, 0, none⟩)] w fun e w' => e = .returned (.int .i64 ((d.room : Int) - usedD d.fs)) ∧ Below w.heap.size w w'
  down : ∀ {w : World} {G : Nat → Prop} {g : Nat} {d : Dv}, D w G g d → Dv.Ok d → Calls Tryz.prog 33 #[.pointer (some ⟨g, 0, none⟩)] w fun e w' => e = .returned (.bool d.off) ∧ Below w.heap.size w w'
  newNo : ∀ (r : Int) (w : World), r < 0 ∨ 16777216 < r → Calls Tryz.prog 9 #[.int .i64 r] w fun e w' => e = .returned (.tuple #[.pointer none, .int .i64 3]) ∧ Below w.heap.size w w'
  newYes : ∀ (r : Nat) (w : World), r ≤ 16777216 → Calls Tryz.prog 9 #[.int .i64 r] w fun e w' => ∃ g G, e = .returned (.tuple #[.pointer (some ⟨g, 0, none⟩), .int .i64 0]) ∧ D w' G g (newD r) ∧ Below w.heap.size w w' ∧ ∀ b, G b → w.heap.size ≤ b
structure DevOk (D : DevP) : Prop extends DevOk0 D where
  rename : ∀ {w : World} {G : Nat → Prop} {g : Nat} {d : Dv} (s u : ByteArray), D w G g d → Dv.Ok d → Calls Tryz.prog 164 #[.pointer (some ⟨g, 0, none⟩), .string s, .string u] w (Stp D G g (renD d s u).1 (.int .i64 (renD d s u).2) w)
theorem Frm.cell {F : Nat → Prop} {w w' : World} (h : Frm F w w') {b o : Nat} (hb : b < w.heap.size) (hn : ¬ F b) : w'.cell? ⟨b, o, none⟩ = w.cell? ⟨b, o, none⟩ := World.cell?_of_block (h.block b hb hn)
end Go.Proofs.YtbdhhmhlcdganaaGreatDoor
namespace Go.Proofs.YtbdhhmhlcdganaaGreatDoor
open Go.RowKit
set_option linter.unusedVariables false
set_option maxRecDepth 100000

structure DevGl (D : DevP) : Prop where
  frm : ∀ {F G : Nat → Prop} {w w' : World} {g : Nat} {d : Dv}, D w G g d → Frm F w w' → (∀ b, G b → ¬ F b) → Gl w' → D w' G g d
  lt : ∀ {G : Nat → Prop} {w : World} {g : Nat} {d : Dv}, D w G g d → ∀ b, G b → b < w.heap.size
  gl : ∀ {G : Nat → Prop} {w : World} {g : Nat} {d : Dv}, D w G g d → Gl w
  ng : ∀ {G : Nat → Prop} {w : World} {g : Nat} {d : Dv}, D w G g d → ∀ b, G b → ¬ gB b
theorem DevGl.below {D : DevP} (Y : DevGl D) {G : Nat → Prop} {w w' : World} {g : Nat} {d : Dv} (h : D w G g d) (hb : Below w.heap.size w w') : D w' G g d := Y.frm (F := fun _ => False) h (Frm.of_below hb) (fun _ _ e => e) ((Y.gl h).below hb)
structure DevOkG (D : DevP) : Prop where
  dev : DevGl D
  sync : ∀ {w : World} {G : Nat → Prop} {g : Nat} {d : Dv} (s : ByteArray), D w G g d → Dv.Ok d → Calls Tryz.prog 64 #[.pointer (some ⟨g, 0, none⟩), .string s] w (Stp D G g (syncD d s).1 (.int .i64 (syncD d s).2) w)
  truncate : ∀ {w : World} {G : Nat → Prop} {g : Nat} {d : Dv} (s : ByteArray) (n : Int), D w G g d → Dv.Ok d → -9223372036854775808 ≤ n ∧ n < 9223372036854775808 → Calls Tryz.prog 84 #[.pointer (some ⟨g, 0, none⟩), .string s, .int .i64 n] w (Stp D G g (truncD d s n).1 (.int .i64 (truncD d s n).2) w)
  remove : ∀ {w : World} {G : Nat → Prop} {g : Nat} {d : Dv} (s : ByteArray), D w G g d → Dv.Ok d → Calls Tryz.prog 68 #[.pointer (some ⟨g, 0, none⟩), .string s] w (Stp D G g (remD d s).1 (.int .i64 (remD d s).2) w)
  append : ∀ {w : World} {G : Nat → Prop} {g : Nat} {d : Dv} (s : ByteArray) (A : Option Addr) (n c : Nat) (bs : List Int), D w G g d → Dv.Ok d → Row .u8 w w.heap.size A bs → bs.length = n → n ≤ c → c ≤ 9223372036854775807 → n ≤ 100000000 → (∀ a, A = some a → 0 < n → ¬ G a.block) → Calls Tryz.prog 16 #[.pointer (some ⟨g, 0, none⟩), .string s, .slice A n c] w (Stp D G g (appD d s bs).1 (.int .i64 (appD d s bs).2) w)
  wake : ∀ {w : World} {G : Nat → Prop} {g : Nat} {d : Dv} (keep : Int), D w G g d → Dv.Ok d → -9223372036854775808 ≤ keep ∧ keep < 9223372036854775808 → Calls Tryz.prog 17 #[.pointer (some ⟨g, 0, none⟩), .int .i64 keep] w (Stp D G g (wakeD d keep) (.tuple #[]) w)
  arm : ∀ {w : World} {G : Nat → Prop} {g : Nat} {d : Dv} (n : Int), D w G g d → Dv.Ok d → -9223372036854775808 ≤ n ∧ n < 9223372036854775808 → Calls Tryz.prog 11 #[.pointer (some ⟨g, 0, none⟩), .int .i64 n] w (Stp D G g (armD d n) (.tuple #[]) w)
  names : ∀ {w : World} {G : Nat → Prop} {g : Nat} {d : Dv}, D w G g d → Dv.Ok d → Calls Tryz.prog 23 #[.pointer (some ⟨g, 0, none⟩)] w fun e w' => ∃ v, e = .returned v ∧ TkOwn w' w.heap.size v (namesD d) ∧ Below w.heap.size w w'
  read : ∀ {w : World} {G : Nat → Prop} {g : Nat} {d : Dv} (s : ByteArray), D w G g d → Dv.Ok d → Calls Tryz.prog 69 #[.pointer (some ⟨g, 0, none⟩), .string s] w fun e w' => ∃ v, e = .returned (.tuple #[v, .int .i64 (readE d s)]) ∧ KOwn .u8 5 w' w.heap.size v (readL d s) ∧ Below w.heap.size w w'
  used : ∀ {w : World} {G : Nat → Prop} {g : Nat} {d : Dv}, D w G g d → Dv.Ok d → Calls Tryz.prog 20 #[.pointer (some ⟨g, 0, none⟩)] w fun e w' => e = .returned (.int .i64 (usedD d.fs : Nat)) ∧ Below w.heap.size w w'
  free : ∀ {w : World} {G : Nat → Prop} {g : Nat} {d : Dv}, D w G g d → Dv.Ok d → Calls Tryz.prog 22 #[.pointer (some ⟨g, 0, none⟩)] w fun e w' => e = .returned (.int .i64 ((d.room : Int) - usedD d.fs)) ∧ Below w.heap.size w w'
  down : ∀ {w : World} {G : Nat → Prop} {g : Nat} {d : Dv}, D w G g d → Dv.Ok d → Calls Tryz.prog 33 #[.pointer (some ⟨g, 0, none⟩)] w fun e w' => e = .returned (.bool d.off) ∧ Below w.heap.size w w'
  newNo : ∀ (r : Int) (w : World), Gl w → r < 0 ∨ 16777216 < r → Calls Tryz.prog 9 #[.int .i64 r] w fun e w' => e = .returned (.tuple #[.pointer none, .int .i64 3]) ∧ Below w.heap.size w w'
  newYes : ∀ (r : Nat) (w : World), Gl w → r ≤ 16777216 → Calls Tryz.prog 9 #[.int .i64 r] w fun e w' => ∃ g G, e = .returned (.tuple #[.pointer (some ⟨g, 0, none⟩), .int .i64 0]) ∧ D w' G g (newD r) ∧ Below w.heap.size w w' ∧ ∀ b, G b → w.heap.size ≤ b
def DGl (D : DevP) : DevP := fun w G g d => D w G g d ∧ Gl w ∧ ∀ b, G b → ¬ gB b
theorem stp_gl {D : DevP} {G : Nat → Prop} {g : Nat} {d d' : Dv} {v : Value} {w : World} {e : Ending} {w' : World} (h : DGl D w G g d) (s : Stp D G g d' v w e w') : Stp (DGl D) G g d' v w e w' := by
  obtain ⟨he, G', h1, h2, h3⟩ := s
  exact ⟨he, G', ⟨h1, h.2.1.frm h2 h.2.2, fun b hb e => (h3 b hb).elim (fun hg => h.2.2 b hg e) (fun hl => by have := h.2.1.lt e; omega)⟩, h2, h3⟩
theorem devG_of {D : DevP} (X : DevOk0 D) : DevOkG (DGl D) where
  dev := ⟨fun h f n gl => ⟨X.dev.frm h.1 f n, gl, h.2.2⟩, fun h => X.dev.lt h.1, fun h => h.2.1, fun h => h.2.2⟩
  sync s h ok := (X.sync s h.1 ok).mono fun _ _ s => stp_gl h s
  truncate s n h ok hn := (X.truncate s n h.1 ok hn).mono fun _ _ s => stp_gl h s
  remove s h ok := (X.remove s h.1 ok).mono fun _ _ s => stp_gl h s
  append s A n c bs h ok hr hl hc hm hb ha := (X.append s A n c bs h.1 ok hr hl hc hm hb ha).mono fun _ _ s => stp_gl h s
  wake keep h ok hn := (X.wake keep h.1 ok hn).mono fun _ _ s => stp_gl h s
  arm n h ok hn := (X.arm n h.1 ok hn).mono fun _ _ s => stp_gl h s
  names h ok := X.names h.1 ok
  read s h ok := X.read s h.1 ok
  used h ok := X.used h.1 ok
  free h ok := X.free h.1 ok
  down h ok := X.down h.1 ok
  newNo r w _ hr := X.newNo r w hr
  newYes r w gl hr := (X.newYes r w hr).mono fun e w' ⟨g, G, he, h1, h2, h3⟩ => ⟨g, G, he, ⟨h1, gl.below h2, fun b hb e => by have := h3 b hb; have := gl.lt e; omega⟩, h2, h3⟩
abbrev LogP := World → (Nat → Prop) → Nat → Nat → Dv → Lg → Prop
def LStp (K : LogP) (G : Nat → Prop) (g q : Nat) (d : Dv) (l : Lg) (v : Value) (w : World) (e : Ending) (w' : World) : Prop := e = .returned v ∧ ∃ G', K w' G' g q d l ∧ Frm G w w' ∧ ∀ b, G' b → G b ∨ w.heap.size ≤ b
structure LogOk (D : DevP) (K : LogP) : Prop where
  frm : ∀ {F G : Nat → Prop} {w w' : World} {g q : Nat} {d : Dv} {l : Lg}, K w G g q d l → Frm F w w' → (∀ b, G b → ¬ F b) → Gl w' → K w' G g q d l
  gl : ∀ {G : Nat → Prop} {w : World} {g q : Nat} {d : Dv} {l : Lg}, K w G g q d l → Gl w
  lt : ∀ {G : Nat → Prop} {w : World} {g q : Nat} {d : Dv} {l : Lg}, K w G g q d l → ∀ b, G b → b < w.heap.size
  dev : ∀ {G : Nat → Prop} {w : World} {g q : Nat} {d : Dv} {l : Lg}, K w G g q d l → Dv.Ok d ∧ ∃ Gd, D w Gd g d ∧ ∀ b, Gd b → G b
  openNo : ∀ {w : World} {G : Nat → Prop} {g : Nat} {d d' : Dv} {E : Int}, D w G g d → Dv.Ok d → openG d = (d', none, E) → Calls Tryz.prog 10 #[.pointer (some ⟨g, 0, none⟩)] w (Stp D G g d' (.tuple #[.pointer none, .int .i64 E]) w)
  openYes : ∀ {w : World} {G : Nat → Prop} {g : Nat} {d d' : Dv} {l : Lg} {E : Int}, D w G g d → Dv.Ok d → openG d = (d', some l, E) → Calls Tryz.prog 10 #[.pointer (some ⟨g, 0, none⟩)] w fun e w' => ∃ q, LStp K G g q d' l (.tuple #[.pointer (some ⟨q, 0, none⟩), .int .i64 E]) w e w'
  append : ∀ {w : World} {G : Nat → Prop} {g q : Nat} {d d' : Dv} {l l' : Lg} {a E : Int} (A : Option Addr) (n c : Nat) (p : List Int), K w G g q d l → Row .u8 w w.heap.size A p → p.length = n → n ≤ c → c ≤ 140737488355328 → n ≤ 4096 → (∀ a, A = some a → 0 < n → ¬ G a.block) → appG d l p = (d', l', a, E) → Calls Tryz.prog 21 #[.pointer (some ⟨q, 0, none⟩), .slice A n c] w (LStp K G g q d' l' (.tuple #[.int .i64 a, .int .i64 E]) w)
  sync : ∀ {w : World} {G : Nat → Prop} {g q : Nat} {d d' : Dv} {l l' : Lg} {E : Int}, K w G g q d l → syncG d l = (d', l', E) → Calls Tryz.prog 30 #[.pointer (some ⟨q, 0, none⟩)] w (LStp K G g q d' l' (.int .i64 E) w)
  arm : ∀ {w : World} {G : Nat → Prop} {g q : Nat} {d : Dv} {l : Lg} (n : Int), K w G g q d l → -9223372036854775808 ≤ n ∧ n < 9223372036854775808 → Calls Tryz.prog 11 #[.pointer (some ⟨g, 0, none⟩), .int .i64 n] w (LStp K G g q (armD d n) l (.tuple #[]) w)
  first : ∀ {w : World} {G : Nat → Prop} {g q : Nat} {d : Dv} {l : Lg}, K w G g q d l → Calls Tryz.prog 19 #[.pointer (some ⟨q, 0, none⟩)] w fun e w' => e = .returned (.int .i64 (l.first : Nat)) ∧ Below w.heap.size w w'
  next : ∀ {w : World} {G : Nat → Prop} {g q : Nat} {d : Dv} {l : Lg}, K w G g q d l → Calls Tryz.prog 18 #[.pointer (some ⟨q, 0, none⟩)] w fun e w' => e = .returned (.int .i64 (nextG l : Nat)) ∧ Below w.heap.size w w'
  safe : ∀ {w : World} {G : Nat → Prop} {g q : Nat} {d : Dv} {l : Lg}, K w G g q d l → Calls Tryz.prog 15 #[.pointer (some ⟨q, 0, none⟩)] w fun e w' => e = .returned (.int .i64 (l.safe : Nat)) ∧ Below w.heap.size w w'
  segments : ∀ {w : World} {G : Nat → Prop} {g q : Nat} {d : Dv} {l : Lg}, K w G g q d l → Calls Tryz.prog 38 #[.pointer (some ⟨q, 0, none⟩)] w fun e w' => e = .returned (.int .i64 (l.segs.length : Nat)) ∧ Below w.heap.size w w'
  get : ∀ {w : World} {G : Nat → Prop} {g q : Nat} {d : Dv} {l : Lg} (n : Int), K w G g q d l → -9223372036854775808 ≤ n ∧ n < 9223372036854775808 → Calls Tryz.prog 31 #[.pointer (some ⟨q, 0, none⟩), .int .i64 n] w fun e w' => ∃ v, e = .returned (.tuple #[v, .int .i64 (getE14 l n)]) ∧ KOwn .u8 5 w' w.heap.size v (getG l n) ∧ Below w.heap.size w w'
theorem LogOk.below {D : DevP} {K : LogP} (X : LogOk D K) {G : Nat → Prop} {w w' : World} {g q : Nat} {d : Dv} {l : Lg} (h : K w G g q d l) (hb : Below w.heap.size w w') : K w' G g q d l := X.frm (F := fun _ => False) h (Frm.of_below hb) (fun _ _ e => e) ((X.gl h).below hb)
theorem getG_at {l : Lg} {k : Nat} (h : k < l.segs.flatten.length) : getE14 l ((l.first + k : Nat) : Int) = 0 ∧ getG l ((l.first + k : Nat) : Int) = nthB l.segs.flatten k := by
  have hn : nextG l = l.first + l.segs.flatten.length := by unfold nextG; rw [cntS_flat]
  have h0 : getE14 l ((l.first + k : Nat) : Int) = 0 := by
    unfold getE14
    rw [if_neg (by omega), if_neg (by omega)]
  refine ⟨h0, ?_⟩
  unfold getG nthB
  rw [if_pos h0]
  congr 1
  omega
def ToldTo (w : World) (l : Lg) (e : Ending) (w' : World) : Prop := ∃ A c, e = .returned (.tuple #[.slice A l.segs.flatten.length c, .bool true]) ∧ LOwn w' w.heap.size (.slice A l.segs.flatten.length c) l.segs.flatten ∧ Below w.heap.size w w'
set_option maxHeartbeats 2000000 in
theorem told_any {D : DevP} {K : LogP} (X : LogOk D K) {G : Nat → Prop} {w : World} {g q : Nat} {d : Dv} {l : Lg} (h : K w G g q d l) (hs : l.segs.flatten.length ≤ 10000) (hf : l.first ≤ 1099511627776) :
    Calls Tryz.prog 24 #[.pointer (some ⟨q, 0, none⟩)] w (ToldTo w l) := by
  have H := Lib.hid h
  have XX := Lib.hid X
  obtain ⟨T, hT⟩ : ∃ T, Hid (l.segs.flatten = T) := ⟨_, Lib.hid rfl⟩
  have HAT : Hid (∀ k, k < T.length → getE14 l ((l.first + k : Nat) : Int) = 0 ∧ getG l ((l.first + k : Nat) : Int) = nthB T k) := Lib.hid (fun k hk => by rw [← hT.out] at hk ⊢; exact getG_at hk)
  have HNX : Hid (nextG l = l.first + T.length) := Lib.hid (by rw [← hT.out]; unfold nextG; rw [cntS_flat])
  obtain ⟨F, hF⟩ : ∃ F, Hid (l.first = F) := ⟨_, Lib.hid rfl⟩
  obtain ⟨m, hm⟩ : ∃ m, Hid (T.length = m) := ⟨_, Lib.hid rfl⟩
  have HPT : Hid (ToldTo w l = fun e w' => ∃ A c, e = .returned (.tuple #[.slice A m c, .bool true]) ∧ LOwn w' w.heap.size (.slice A m c) T ∧ Below w.heap.size w w') := Lib.hid (by unfold ToldTo; rw [hT.out, hm.out])
  rw [hF.out] at hf HAT HNX
  rw [hm.out] at HNX
  have hs2 : m ≤ 10000 := by rw [← hm.out, ← hT.out]; exact hs
  have HFI : Hid (∀ W, Below w.heap.size w W → Calls Tryz.prog 19 #[.pointer (some ⟨q, 0, none⟩)] W fun e w' => e = .returned (.int .i64 (F : Nat)) ∧ Below W.heap.size W w') := Lib.hid (fun W hb => by have := XX.out.first (XX.out.below H.out hb); rw [hF.out] at this; exact this)
  have HNE : Hid (∀ W, Below w.heap.size w W → Calls Tryz.prog 18 #[.pointer (some ⟨q, 0, none⟩)] W fun e w' => e = .returned (.int .i64 ((F : Int) + (m : Int))) ∧ Below W.heap.size W w') := Lib.hid (fun W hb => by have := XX.out.next (XX.out.below H.out hb); rw [HNX.out] at this; exact this)
  have HGE : Hid (∀ W k, Below w.heap.size w W → k < m → Calls Tryz.prog 31 #[.pointer (some ⟨q, 0, none⟩), .int .i64 ((F : Int) + (k : Int))] W fun e w' => ∃ A c, e = .returned (.tuple #[.slice A (nthB T k).length c, .int .i64 0]) ∧ KOwn .u8 5 w' W.heap.size (.slice A (nthB T k).length c) (nthB T k) ∧ Below W.heap.size W w') := Lib.hid (fun W k hb hk => by
    refine (XX.out.get ((F + k : Nat) : Int) (XX.out.below H.out hb) (by omega)).mono fun e w' ⟨v, he, ho, hb2⟩ => ?_
    obtain ⟨h1, h2⟩ := HAT.out k (by rw [hm.out]; exact hk)
    rw [h1] at he
    rw [h2] at ho
    rcases ho with ⟨rfl, h9⟩ | ⟨gg, n, cap, r, rfl, h10, h11, h12⟩
    · rw [h9]; exact ⟨none, 0, he, by rw [← h9]; exact .inl ⟨by rw [h9]; rfl, h9⟩, hb2⟩
    · subst h11
      exact ⟨_, cap, he, .inr ⟨gg, _, cap, r, rfl, h10, rfl, h12⟩, hb2⟩)
  rw [HPT.out]
  clear h X HAT HNX hs HPT
  go_enter Tryz.func24, Tryz.ntmps24
  go_wp2_with fail
  refine (HFI.out w (Below.refl _ _)).mono ?_
  rintro e w1 ⟨rfl, b1⟩
  go_wp2
  go_loopw [4, 5, 6, 7] (fun v i _ _ wr => ∃ k : Nat, k ≤ m ∧ i = .int .i64 ((F : Int) + (k : Int)) ∧ LOwn wr w.heap.size v (T.take k) ∧ Below w.heap.size w wr) (fun _ i _ _ _ => F + m - (intOf i).toNat)
  case atStart => exact ⟨0, by omega, by simp, LOwn.nil _ _, b1⟩
  case round =>
    obtain ⟨k, hk, rfl, own, bel⟩ := hrel
    have HN1 := Lib.hid (HNE.out wr bel)
    have BEL := Lib.hid bel
    have OWN := Lib.hid own
    clear own bel
    go_wp2_with fail
    refine HN1.out.mono ?_
    rintro e w2 ⟨rfl, d2⟩
    have b2 := BEL.out.trans (d2.mono BEL.out.size)
    have o2 := OWN.out.below d2 (Nat.le_refl _)
    by_cases hlt : k < m
    · have HG1 := Lib.hid (HGE.out w2 k b2 hlt)
      have hst : Hid (T.take (k + 1) = T.take k ++ [nthB T k]) := Lib.hid (takeB_step T k (by rw [hm.out]; exact hlt))
      obtain ⟨p, hp⟩ : ∃ p, Hid (nthB T k = p) := ⟨_, Lib.hid rfl⟩
      rw [hp.out] at HG1 hst
      obtain ⟨A9, c9, e9, _⟩ := o2.len
      subst e9
      have htl : Hid ((T.take k).length = k) := Lib.hid (by rw [List.length_take, hm.out]; omega)
      rw [htl.out] at o2 ⊢
      have O2 := Lib.hid o2
      have B2 := Lib.hid b2
      have hz2 := b2.size
      have i1 : (F : Int) + (k : Int) < (F : Int) + (m : Int) := by omega
      have i2 : ¬ (k : Int) > 10000 := by omega
      clear o2 b2 d2
      go_wp2_with (first
        | (go_at_call 31; refine HG1.out.mono ?_; rintro e w3 ⟨A3, c3, rfl, k3, d3⟩; have K3 := Lib.hid k3; have D3 := Lib.hid d3; have O3 := Lib.hid (O2.out.below d3 (Nat.le_refl _)); have hz3 := d3.size; clear k3 d3)
        | (at_builtin; refine wpList_append_l8 _ rfl _ _ 22 rfl w.heap.size Tryz.underlying22 info_l8 _ (T.take k) rfl (O3.out.alloc _) ⟨w3.heap.size, 0, none⟩ 1 p A3 p.length c3 rfl ((K3.out.mono hz2).below (bel_alloc w3 _) (Nat.le_refl _)) (box_l8 _ _ _) (by rw [htl.out]; omega) (by simp; omega) ?_; intro v4 w4 o4 g4))
      rw [← hst.out] at o4
      have b4 := Below.lown ((B2.out.trans (D3.out.mono hz2)).alloc (by omega) _) (by simp; omega) (O3.out.alloc _) (Nat.le_refl _) g4
      go_roundw
      case rel => exact ⟨k + 1, by omega, by go_num, o4, b4⟩
      case measure => simp [intOf]; omega
    · obtain rfl : m = k := by omega
      have hx : T.take m = T := List.take_of_length_le (by rw [hm.out]; exact Nat.le_refl _)
      rw [hx] at o2
      obtain ⟨A9, c9, e9, _⟩ := o2.len
      subst e9
      rw [hm.out] at o2 ⊢
      clear hx
      have i1 : ¬ (F : Int) + (m : Int) < (F : Int) + (m : Int) := by omega
      go_wp2
      go_ret2
      exact ⟨A9, c9, rfl, o2, b2⟩
end Go.Proofs.YtbdhhmhlcdganaaGreatDoor
