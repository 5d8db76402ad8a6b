/-
  Texts of the proof of SegsFull, joined.
-/
import Derived.Test.YtbdhhmhlcdganaaGreatDoorJSegsFullC
import Derived.Test.YtbdhhmhlcdganaaGreatDoorJSegsFullB
import Derived.Shelf.Strconv.AtoiAll
import Derived.Shelf.Strconv.Itoa3
import Derived.Shelf.Strings.Prefix
import Derived.Ground.NamesProg
import Derived.Test.YtbdhhmhlcdganaaGreatDoorProg
import Derived.Lib.AtoiTie
import Derived.Lib.ItoaMem
import Derived.Lib.Strings
import Derived.Test.YtbdhhmhlcdganaaGreatDoorJSegsFullA
import Derived.Lib.AtoiErrMem
import Derived.Test.YtbdhhmhlcdganaaGreatDoorRows
import Derived.Laws.AppendOwn
import Derived.Maps.RangeWalk
import Derived.Sort.KeysCollected
import Derived.LoopTactic
import Derived.Deep.QuietTactic
import Derived.Test.YtbdhhmhlcdganaaGreatDoorJSegsFullD
namespace Go.Proofs.YtbdhhmhlcdganaaGreatDoor
open Go.RowKit
set_option linter.unusedVariables false
set_option maxRecDepth 100000

theorem lk_wf {d : Dv} (ok : Dv.Ok d) {s : ByteArray} {b : List Int} {y : Nat} (h : lkF d s = some (b, y)) : ∀ x ∈ b, (Lit.int .u8 x).wf = true := by
  obtain ⟨f, hf, _, rfl, _⟩ := (lk_some ok).1 h
  exact (ok.fl f hf).wf
theorem mem_sum : ∀ (l : List Nat) (a : Nat), a ∈ l → a ≤ l.sum
  | b :: t, a, h => by
    rw [List.sum_cons]
    rcases List.mem_cons.1 h with rfl | h
    · omega
    · have := mem_sum t a h; omega
theorem lk_len {d : Dv} (ok : Dv.Ok d) {s : ByteArray} {b : List Int} {y : Nat} (h : lkF d s = some (b, y)) : b.length ≤ 16777216 := by
  obtain ⟨f, hf, _, rfl, _⟩ := (lk_some ok).1 h
  have h1 : f.bs.length ≤ usedD d.fs := by
    unfold usedD
    exact mem_sum _ _ (List.mem_map.2 ⟨f, hf, rfl⟩)
  have := ok.us
  have := ok.rm
  omega
theorem lk_name {d : Dv} (ok : Dv.Ok d) {s : ByteArray} {x : List Int × Nat} (h : lkF d s = some x) : s.size ≤ 16 := by
  obtain ⟨f, hf, e, _, _⟩ := (lk_some ok).1 (show lkF d s = some (x.1, x.2) from h)
  have := (ok.fl f hf).nm
  rw [e] at this
  unfold okN at this
  simp at this
  omega
theorem rem_err {d : Dv} (ok : Dv.Ok d) {s : ByteArray} (h : lkF d s ≠ none) (he : (remD d s).2 ≠ 0) : (remD d s).2 = 10 := by
  obtain ⟨d', e, q, _, h1⟩ := rem_step ok s
  rw [q] at he ⊢
  rcases h1 with ⟨_, h2, h3⟩ | ⟨h2, _⟩
  · rcases h2 with h2 | h2
    · exact absurd (h3 h2) h
    · exact h2
  · exact absurd h2 he
theorem sync_err {d : Dv} (ok : Dv.Ok d) {s : ByteArray} (h : lkF d s ≠ none) (he : (syncD d s).2 ≠ 0) : (syncD d s).2 = 10 := by
  obtain ⟨d', e, q, _, h1⟩ := sync_step ok s
  rw [q] at he ⊢
  rcases h1 with ⟨_, h2, h3⟩ | ⟨h2, _⟩
  · rcases h2 with h2 | h2
    · exact absurd (h3 h2) h
    · exact h2
  · exact absurd h2 he
theorem readG_ex (f : Nat) : ∀ (d : Dv) (n : Nat) (acc : List (List (List Int))), Dv.Ok d → (∀ i (h : i < acc.length), lkF d (segN (n + i)) = some (ckAll acc[i], (ckAll acc[i]).length)) → (∀ s ∈ acc, ∀ p ∈ s, p.length ≤ 1024) →
    ∀ d' acc' e, readG f d n acc = (d', acc', e) → Dv.Ok d' ∧ (∀ i (h : i < acc'.length), lkF d' (segN (n + i)) = some (ckAll acc'[i], (ckAll acc'[i]).length)) ∧ (∀ s ∈ acc', ∀ p ∈ s, p.length ≤ 1024) ∧ lkF d' headN = lkF d headN := by
  induction f with
  | zero =>
    intro d n acc ok hat hm d' acc' e q
    unfold readG at q
    injection q with q1 q; injection q with q2 q3
    subst q1 q2
    exact ⟨ok, hat, hm, rfl⟩
  | succ f ih =>
    intro d n acc ok hat hm d' acc' e q
    unfold readG at q
    cases hl : lkF d (segN (n + acc.length)) with
    | none =>
      rw [hl] at q
      simp only at q
      injection q with q1 q; injection q with q2 q3
      subst q1 q2
      exact ⟨ok, hat, hm, rfl⟩
    | some x =>
      obtain ⟨b, y0⟩ := x
      rw [hl] at q
      simp only at q
      have hw := lk_wf ok hl
      have hne : ∀ i, i < acc.length → segN (n + i) ≠ segN (n + acc.length) := fun i hi h9 => by have := segN_inj h9; omega
      have hadd : ∀ d2, Dv.Ok d2 → (∀ t, t ≠ segN (n + acc.length) → lkF d2 t = lkF d t) → lkF d2 (segN (n + acc.length)) = some (ckAll (ckScan b).1, (ckAll (ckScan b).1).length) →
          (∀ i (h : i < (acc ++ [(ckScan b).1]).length), lkF d2 (segN (n + i)) = some (ckAll (acc ++ [(ckScan b).1])[i], (ckAll (acc ++ [(ckScan b).1])[i]).length)) := fun d2 ok2 ho hs i hi => by
        rw [List.length_append] at hi
        by_cases h1 : i < acc.length
        · rw [ho _ (hne i h1), List.getElem_append_left h1]
          exact hat i h1
        · obtain rfl : i = acc.length := by simp at hi; omega
          rw [hs]; simp
      have hmm : ∀ s ∈ acc ++ [(ckScan b).1], ∀ p ∈ s, p.length ≤ 1024 := fun s hs p hp => by
        rcases List.mem_append.1 hs with hs | hs
        · exact hm s hs p hp
        · rw [List.mem_singleton.1 hs] at hp
          exact (ckScan_mem hw p hp).1
      by_cases hlt : (ckScan b).2 < b.length
      · rw [if_pos hlt] at q
        obtain ⟨d1, e1, t1, ok1, h1⟩ := trunc_step ok (segN (n + acc.length)) (ckScan b).2
        rw [t1] at q
        rcases h1 with ⟨hn, _⟩ | ⟨rfl, _, _, b', y', hb', _, hk1⟩
        · simp only [if_neg hn.1] at q
          injection q with q1 q; injection q with q2 q3
          subst q1 q2
          exact ⟨ok1, fun i hi => by rw [hn.lk]; exact hat i hi, hm, by rw [hn.lk]⟩
        · rw [hl] at hb'
          injection hb' with hb'; injection hb' with hb1 hb2
          subst hb1 hb2
          simp only [if_true] at q
          obtain ⟨d2, e2, t2, ok2, h2⟩ := sync_step ok1 (segN (n + acc.length))
          rw [t2] at q
          rcases h2 with ⟨hn, _⟩ | ⟨rfl, _, _, _, b2, y2, hb2, hk2⟩
          · simp only [if_neg hn.1] at q
            injection q with q1 q; injection q with q2 q3
            subst q1 q2
            refine ⟨ok2, fun i hi => ?_, hm, ?_⟩
            · rw [hn.lk, hk1, if_neg (hne i hi)]; exact hat i hi
            · rw [hn.lk, hk1, if_neg (fun x => segN_head _ x.symm)]
          · simp only [if_true] at q
            injection q with q1 q; injection q with q2 q3
            subst q1 q2
            rw [hk1, if_pos rfl] at hb2
            injection hb2 with hb2; injection hb2 with hb3 hb4
            subst hb3
            refine ⟨ok2, hadd d2 ok2 (fun t ht => by rw [hk2, if_neg ht, hk1, if_neg ht]) ?_, hmm, ?_⟩
            · rw [hk2, if_pos rfl, ckScan_all hw]
            · rw [hk2, if_neg (fun x => segN_head _ x.symm), hk1, if_neg (fun x => segN_head _ x.symm)]
      · rw [if_neg hlt] at q
        have hwh : ckAll (ckScan b).1 = b := by rw [ckScan_all hw, List.take_of_length_le (by have := ckScan_le b; omega)]
        obtain ⟨d2, e2, t2, ok2, h2⟩ := sync_step ok (segN (n + acc.length))
        rw [t2] at q
        rcases h2 with ⟨hn, _⟩ | ⟨rfl, _, _, _, b2, y2, hb2, hk2⟩
        · simp only [if_neg hn.1] at q
          injection q with q1 q; injection q with q2 q3
          subst q1 q2
          exact ⟨ok2, fun i hi => by rw [hn.lk]; exact hat i hi, hm, by rw [hn.lk]⟩
        · simp only [if_true] at q
          rw [hl] at hb2
          injection hb2 with hb2; injection hb2 with hb3 hb4
          subst hb3
          obtain ⟨r1, r2, r3, r4⟩ := ih d2 n _ ok2 (hadd d2 ok2 (fun t ht => by rw [hk2, if_neg ht]) (by rw [hk2, if_pos rfl, hwh])) hmm _ _ _ q
          exact ⟨r1, r2, r3, by rw [r4, hk2, if_neg (fun x => segN_head _ x.symm)]⟩
theorem dropG_ex (n k : Nat) : ∀ (L : List ByteArray) (d : Dv), Dv.Ok d → ∀ d' e, dropG n k d L = (d', e) → Dv.Ok d' ∧ (∀ t, mineS n k t = true → lkF d' t = lkF d t) ∧ (∀ t, lkF d' t = none ∨ lkF d' t = lkF d t) ∧ (e = 0 → ∀ s ∈ L, mineS n k s = false → lkF d' s = none) := by
  intro L
  induction L with
  | nil =>
    intro d ok d' e q
    unfold dropG at q
    injection q with q1 q2
    subst q1
    exact ⟨ok, fun _ _ => rfl, fun _ => .inr rfl, fun _ s hs => by cases hs⟩
  | cons s t ih =>
    intro d ok d' e q
    unfold dropG at q
    by_cases hm : mineS n k s = true
    · rw [if_pos hm] at q
      obtain ⟨r1, r2, r3, r4⟩ := ih d ok d' e q
      refine ⟨r1, r2, r3, fun he x hx hx2 => ?_⟩
      rcases List.mem_cons.1 hx with rfl | hx
      · rw [hm] at hx2; cases hx2
      · exact r4 he x hx hx2
    · rw [if_neg hm] at q
      obtain ⟨d1, e1, t1, ok1, h1⟩ := rem_step ok s
      rw [t1] at q
      rcases h1 with ⟨hn, _⟩ | ⟨rfl, _, _, _, hk⟩
      · simp only [if_neg hn.1] at q
        injection q with q1 q2
        subst q1 q2
        exact ⟨ok1, fun _ _ => by rw [hn.lk], fun _ => .inr (by rw [hn.lk]), fun he => absurd he (by decide)⟩
      · simp only [if_true] at q
        obtain ⟨r1, r2, r3, r4⟩ := ih d1 ok1 d' e q
        refine ⟨r1, fun x hx => ?_, fun x => ?_, fun he x hx hx2 => ?_⟩
        · rw [r2 x hx, hk, if_neg (fun e9 => hm (by rw [← e9]; exact hx))]
        · rcases r3 x with h | h
          · exact .inl h
          · rw [h, hk]
            by_cases e9 : x = s
            · rw [if_pos e9]; exact .inl rfl
            · rw [if_neg e9]; exact .inr rfl
        · rcases List.mem_cons.1 hx with rfl | hx
          · rcases r3 x with h | h
            · exact h
            · rw [h, hk, if_pos rfl]
          · exact r4 he x hx hx2
theorem cntS_few (segs : List (List (List Int))) (h : ∀ s ∈ segs, s.length ≤ 16777216) : cntS segs ≤ segs.length * 16777216 := by
  induction segs with
  | nil => simp [cntS]
  | cons s t ih =>
    have h1 := ih (fun x hx => h x (by simp [hx]))
    have h2 := h s (by simp)
    unfold cntS at h1 ⊢
    simp only [List.map_cons, List.sum_cons, List.length_cons]
    omega
theorem headG_le {d : Dv} {n first : Nat} (h : headG d = some (n, first)) : 1 ≤ n ∧ n ≤ 999999999999 ∧ first ≤ 1099511627776 := by
  unfold headG at h
  split at h
  · injection h with h; injection h with h1 h2
    subst h1 h2
    omega
  · unfold hdOf at h
    split at h
    · rename_i hh
      injection h with h; injection h with h1 h2
      subst h1 h2
      exact ⟨hh.2.2.2.1, hh.2.2.2.2.1, hh.2.2.2.2.2⟩
    · cases h
structure SgAt (d : Dv) (l : Lg) (k : Nat) : Prop where
  ok : Dv.Ok d
  rd : ∀ i (h : i < l.segs.length), k ≤ i → ∃ y, lkF d (segN (l.n + i)) = some (ckAll l.segs[i], y)
  mem : ∀ s ∈ l.segs, ∀ p ∈ s, p.length ≤ 1024 ∧ ∀ x ∈ p, (Lit.int .u8 x).wf = true
  live : d.off = false → k = 0 ∧ SgIs d l
  n1 : 1 ≤ l.n
  n2 : l.n ≤ 999999999999
  few : l.segs.length ≤ 64
  fst : l.first ≤ 1099511627776
  nxt : nextG l ≤ 1200000000000
  saf : l.safe ≤ nextG l
  emp : l.segs = [] → l.safe = l.first
  byt : ∀ s ∈ l.segs, (ckAll s).length ≤ 16777216
structure SgBd (l : Lg) : Prop where
  n2 : l.n ≤ 999999999999
  few : l.segs.length ≤ 64
  nxt : nextG l ≤ 1200000000000
  siz : (ckAll (lastS l)).length ≤ 16777216
theorem SgAt.bd {d : Dv} {l : Lg} {k : Nat} (h : SgAt d l k) : SgBd l := ⟨h.n2, h.few, h.nxt, by
  by_cases h0 : l.segs = []
  · have : lastS l = [] := by unfold lastS; rw [h0]; rfl
    rw [this]; exact Nat.zero_le _
  · obtain ⟨hk, hl, _, _⟩ := last_at h0
    rw [hl]
    exact h.byt _ (List.getElem_mem hk)⟩
theorem ckAll_wf14 {s : List (List Int)} (h : ∀ x ∈ ckAll s, (Lit.int .u8 x).wf = true) : ∀ p ∈ s, ∀ x ∈ p, (Lit.int .u8 x).wf = true := fun p hp x hx => h x (by
  unfold ckAll
  rw [List.mem_flatMap]
  exact ⟨p, hp, by unfold ckL; simp [hx]⟩)
theorem SgIs.sat {d : Dv} {l : Lg} (h : SgIs d l) (n2 : l.n ≤ 999999999999) (fst : l.first ≤ 1099511627776) (nxt : nextG l ≤ 1200000000000) : SgAt d l 0 :=
  ⟨h.ok, fun i hi _ => by obtain ⟨y, h1, _⟩ := h.at_ i hi; exact ⟨y, h1⟩, fun s hs p hp => ⟨h.mem s hs p hp, by
    obtain ⟨i, hi, rfl⟩ := List.mem_iff_getElem.1 hs
    obtain ⟨y, h1, _⟩ := h.at_ i hi
    exact ckAll_wf14 (lk_wf h.ok h1) p hp⟩, fun _ => ⟨rfl, h⟩, h.lim, n2, few_files h.ok l.n l.segs.length (fun i hi => by obtain ⟨y, h1, _⟩ := h.at_ i hi; rw [h1]; simp), fst, nxt, h.safe_le.1, h.saf.1, fun s hs => by
    obtain ⟨i, hi, rfl⟩ := List.mem_iff_getElem.1 hs
    obtain ⟨y, h1, _⟩ := h.at_ i hi
    exact lk_len h.ok h1⟩
theorem open_is {d d' : Dv} {l : Lg} {E : Int} (ok : Dv.Ok d) (h : openG d = (d', some l, E)) : E = 0 ∧ SgIs d' l ∧ SgAt d' l 0 ∧ l.safe = nextG l ∧ d.off = false := by
  unfold openG at h
  by_cases hoff : d.off = true
  · rw [if_pos hoff] at h; injection h with _ h; injection h with h; cases h
  rw [if_neg hoff] at h
  by_cases hw : (wipeG d hnewN).2 ≠ 0
  · rw [if_pos hw] at h; injection h with _ h; injection h with h; cases h
  rw [if_neg hw] at h
  have ok1 : Dv.Ok (wipeG d hnewN).1 := by
    unfold wipeG
    split
    · exact ok
    · split <;> exact rem_ok ok hnewN
  generalize (wipeG d hnewN).1 = d1 at h ok1
  cases hh : headG d1 with
  | none => rw [hh] at h; simp only at h; injection h with _ h; injection h with h; cases h
  | some x =>
    obtain ⟨n, first⟩ := x
    rw [hh] at h
    simp only at h
    obtain ⟨hn1, hn2, hf⟩ := headG_le hh
    obtain ⟨d2, acc, e2, q2⟩ : ∃ d2 acc e2, readG 66 d1 n [] = (d2, acc, e2) := ⟨_, _, _, rfl⟩
    rw [q2] at h
    simp only at h
    obtain ⟨ok2, r2, m2, hd2⟩ := readG_ex 66 d1 n [] ok1 (fun i hi => absurd hi (by simp)) (fun s hs => by cases hs) _ _ _ q2
    by_cases he2 : e2 ≠ 0
    · rw [if_pos he2] at h; injection h with _ h; injection h with h; cases h
    rw [if_neg he2] at h
    obtain ⟨d3, e3, q3⟩ : ∃ d3 e3, dropG n acc.length d2 (namesD d2) = (d3, e3) := ⟨_, _, rfl⟩
    rw [q3] at h
    simp only at h
    obtain ⟨ok3, k3, o3, n3⟩ := dropG_ex n acc.length (namesD d2) d2 ok2 _ _ q3
    by_cases he3 : e3 ≠ 0
    · rw [if_pos he3] at h; injection h with _ h; injection h with h; cases h
    rw [if_neg he3] at h
    injection h with e1 h; injection h with e4 e5
    injection e4 with e4
    subst e1 e4 e5
    have he3 : e3 = 0 := Classical.byContradiction he3
    have hex : ∀ i (h : i < acc.length), lkF d3 (segN (n + i)) = some (ckAll acc[i], (ckAll acc[i]).length) := fun i hi => by rw [k3 _ (mine_seg n _ i hi)]; exact r2 i hi
    have his : SgIs d3 ⟨n, first, acc, first + cntS acc⟩ := by
      refine ⟨ok3, ?_, fun i hi => ⟨_, hex i hi, Nat.le_refl _, fun _ => rfl⟩, fun s hs => ?_, m2, ⟨fun h0 => ?_, fun h0 => ?_⟩, hn1⟩
      · rw [headG_lk (d := d1) (d' := d3) (by rw [k3 _ (mine_head n _), hd2])]; exact hh
      · by_cases hin : s ∈ namesD d2
        · exact n3 he3 s hin hs
        · have h0 : lkF d2 s = none := Classical.byContradiction fun hh => hin (names_mem.2 hh)
          rcases o3 s with h9 | h9
          · exact h9
          · rw [h9, h0]
      · show first + cntS acc = first
        rw [show acc = [] from h0]; simp [cntS]
      · obtain ⟨hk, hl, hc, _⟩ := last_at h0
        refine ⟨(lastS (⟨n, first, acc, first + cntS acc⟩ : Lg)).length, (ckAll (lastS (⟨n, first, acc, first + cntS acc⟩ : Lg))).length, Nat.le_refl _, ?_, ?_, ?_⟩
        · rw [hc, hl]; exact hex _ hk
        · have h9 : cntS acc = cntS acc.dropLast + (lastS (⟨n, first, acc, first + cntS acc⟩ : Lg)).length := cntS_last h0
          show first + cntS acc = first + cntS acc.dropLast + (lastS (⟨n, first, acc, first + cntS acc⟩ : Lg)).length
          generalize (lastS (⟨n, first, acc, first + cntS acc⟩ : Lg)).length = z at h9 ⊢
          omega
        · rw [List.take_length]; exact Nat.le_refl _
    have hfew : acc.length ≤ 64 := few_files ok3 n acc.length (fun i hi => by rw [hex i hi]; simp)
    have hcnt : cntS acc ≤ acc.length * 16777216 := cntS_few acc fun s hs => by
      obtain ⟨i, hi, rfl⟩ := List.mem_iff_getElem.1 hs
      have h1 := lk_len ok3 (hex i hi)
      have h2 := ckAll_len_ge acc[i]
      omega
    refine ⟨rfl, his, his.sat hn2 hf ?_, rfl, by simpa using hoff⟩
    show first + cntS acc ≤ _
    omega
end Go.Proofs.YtbdhhmhlcdganaaGreatDoor
namespace Go.Proofs.YtbdhhmhlcdganaaGreatDoor
open Go.Shelf Go.Proofs
def Tryz.atoiAll_ren : Go.Shelf.Ren := ⟨fun | 172 => 108 | 244 => 146 | 245 => 147 | 247 => 167 | 279 => 168 | 280 => 169 | 281 => 170 | 282 => 171 | 287 => 181 | 316 => 77 | 171 => 76 | 205 => 182 | 321 => 188 | 322 => 189 | 243 => 113 | 246 => 150 | 283 => 174 | 284 => 175 | 285 => 176 | 286 => 177 | 129 => 124 | 317 => 184 | 318 => 185 | 319 => 186 | 320 => 187 | 337 => 190 | 338 => 191 | n => n, fun | 9 => 9 | 3 => 3 | 75 => 133 | 76 => 134 | 4 => 4 | 5 => 5 | 167 => 177 | 37 => 47 | 0 => 0 | 85 => 178 | 2 => 2 | 168 => 180 | 53 => 105 | 175 => 191 | 46 => 114 | 210 => 194 | 127 => 141 | 145 => 203 | 143 => 201 | 21 => 21 | 171 => 184 | 173 => 186 | 212 => 198 | 51 => 138 | 20 => 20 | 213 => 199 | 232 => 204 | 233 => 205 | 80 => 82 | n => n, fun | 15 => 0 | 16 => 1 | 17 => 2 | 18 => 3 | 19 => 4 | n => n⟩
theorem Tryz.atoiAll : Go.Proofs.LaysC.n172 Tryz.prog Tryz.atoiAll_ren := {
  mixed := by kernel_rfl
  f129 := Tryz.func124.trans (congrArg some (by kernel_rfl))
  f171 := Tryz.func76.trans (congrArg some (by kernel_rfl))
  f172 := Tryz.func108.trans (congrArg some (by kernel_rfl))
  f205 := Tryz.func182.trans (congrArg some (by kernel_rfl))
  f243 := Tryz.func113.trans (congrArg some (by kernel_rfl))
  f244 := Tryz.func146.trans (congrArg some (by kernel_rfl))
  f245 := Tryz.func147.trans (congrArg some (by kernel_rfl))
  f246 := Tryz.func150.trans (congrArg some (by kernel_rfl))
  f247 := Tryz.func167.trans (congrArg some (by kernel_rfl))
  f279 := Tryz.func168.trans (congrArg some (by kernel_rfl))
  f280 := Tryz.func169.trans (congrArg some (by kernel_rfl))
  f281 := Tryz.func170.trans (congrArg some (by kernel_rfl))
  f282 := Tryz.func171.trans (congrArg some (by kernel_rfl))
  f283 := Tryz.func174.trans (congrArg some (by kernel_rfl))
  f284 := Tryz.func175.trans (congrArg some (by kernel_rfl))
  f285 := Tryz.func176.trans (congrArg some (by kernel_rfl))
  f286 := Tryz.func177.trans (congrArg some (by kernel_rfl))
  f287 := Tryz.func181.trans (congrArg some (by kernel_rfl))
  f316 := Tryz.func77.trans (congrArg some (by kernel_rfl))
  f317 := Tryz.func184.trans (congrArg some (by kernel_rfl))
  f318 := Tryz.func185.trans (congrArg some (by kernel_rfl))
  f319 := Tryz.func186.trans (congrArg some (by kernel_rfl))
  f320 := Tryz.func187.trans (congrArg some (by kernel_rfl))
  f321 := Tryz.func188.trans (congrArg some (by kernel_rfl))
  f322 := Tryz.func189.trans (congrArg some (by kernel_rfl))
  f337 := Tryz.func190.trans (congrArg some (by kernel_rfl))
  f338 := Tryz.func191.trans (congrArg some (by kernel_rfl))
  t0 := Tryz.underlying0
  a0 := Tryz.isAgg0
  z0 := Tryz.sizeOf0
  v0 := Tryz.zeroValue0
  t2 := Tryz.underlying2
  a2 := Tryz.isAgg2
  z2 := Tryz.sizeOf2
  v2 := Tryz.zeroValue2
  t3 := Tryz.underlying3
  a3 := Tryz.isAgg3
  z3 := Tryz.sizeOf3
  v3 := Tryz.zeroValue3
  t4 := Tryz.underlying4
  a4 := Tryz.isAgg4
  z4 := Tryz.sizeOf4
  v4 := Tryz.zeroValue4
  t5 := Tryz.underlying5
  a5 := Tryz.isAgg5
  z5 := Tryz.sizeOf5
  v5 := Tryz.zeroValue5
  t9 := Tryz.underlying9
  a9 := Tryz.isAgg9
  z9 := Tryz.sizeOf9
  v9 := Tryz.zeroValue9
  t20 := Tryz.underlying20
  a20 := Tryz.isAgg20
  z20 := Tryz.sizeOf20
  v20 := Tryz.zeroValue20
  t21 := Tryz.underlying21
  a21 := Tryz.isAgg21
  z21 := Tryz.sizeOf21
  v21 := Tryz.zeroValue21
  t37 := Tryz.underlying47
  a37 := Tryz.isAgg47
  z37 := Tryz.sizeOf47
  v37 := Tryz.zeroValue47
  t46 := Tryz.underlying114
  a46 := Tryz.isAgg114
  z46 := Tryz.sizeOf114
  v46 := Tryz.zeroValue114
  t51 := Tryz.underlying138
  a51 := Tryz.isAgg138
  z51 := Tryz.sizeOf138
  v51 := Tryz.zeroValue138
  t53 := Tryz.underlying105
  a53 := Tryz.isAgg105
  z53 := Tryz.sizeOf105
  v53 := Tryz.zeroValue105
  t75 := Tryz.underlying133
  a75 := Tryz.isAgg133
  z75 := Tryz.sizeOf133
  v75 := Tryz.zeroValue133
  t76 := Tryz.underlying134
  a76 := Tryz.isAgg134
  z76 := Tryz.sizeOf134
  v76 := Tryz.zeroValue134
  t85 := Tryz.underlying178
  a85 := Tryz.isAgg178
  z85 := Tryz.sizeOf178
  v85 := Tryz.zeroValue178
  t127 := Tryz.underlying141
  a127 := Tryz.isAgg141
  z127 := Tryz.sizeOf141
  v127 := Tryz.zeroValue141
  t143 := Tryz.underlying201
  a143 := Tryz.isAgg201
  z143 := Tryz.sizeOf201
  v143 := Tryz.zeroValue201
  t145 := Tryz.underlying203
  a145 := Tryz.isAgg203
  z145 := Tryz.sizeOf203
  v145 := Tryz.zeroValue203
  t167 := Tryz.underlying177
  a167 := Tryz.isAgg177
  z167 := Tryz.sizeOf177
  v167 := Tryz.zeroValue177
  t168 := Tryz.underlying180
  a168 := Tryz.isAgg180
  z168 := Tryz.sizeOf180
  v168 := Tryz.zeroValue180
  t171 := Tryz.underlying184
  a171 := Tryz.isAgg184
  z171 := Tryz.sizeOf184
  v171 := Tryz.zeroValue184
  t173 := Tryz.underlying186
  a173 := Tryz.isAgg186
  z173 := Tryz.sizeOf186
  v173 := Tryz.zeroValue186
  t175 := Tryz.underlying191
  a175 := Tryz.isAgg191
  z175 := Tryz.sizeOf191
  v175 := Tryz.zeroValue191
  t210 := Tryz.underlying194
  a210 := Tryz.isAgg194
  z210 := Tryz.sizeOf194
  v210 := Tryz.zeroValue194
  t212 := Tryz.underlying198
  a212 := Tryz.isAgg198
  z212 := Tryz.sizeOf198
  v212 := Tryz.zeroValue198
  t213 := Tryz.underlying199
  a213 := Tryz.isAgg199
  z213 := Tryz.sizeOf199
  t232 := Tryz.underlying204
  a232 := Tryz.isAgg204
  z232 := Tryz.sizeOf204
  v232 := Tryz.zeroValue204
  t233 := Tryz.underlying205
  a233 := Tryz.isAgg205
  z233 := Tryz.sizeOf205
  v233 := Tryz.zeroValue205
  g15 := by kernel_rfl
  g16 := by kernel_rfl
  g17 := by kernel_rfl
  g18 := by kernel_rfl
  g19 := by kernel_rfl
  t80 := Tryz.underlying82
  a80 := Tryz.isAgg82
  z80 := Tryz.sizeOf82
  v80 := Tryz.zeroValue82
  i0 := by kernel_rfl
  i2 := by kernel_rfl
  i3 := by kernel_rfl
  i4 := by kernel_rfl
  i5 := by kernel_rfl
  i9 := by kernel_rfl
  i20 := by kernel_rfl
  i21 := by kernel_rfl
  i37 := by kernel_rfl
  i46 := by kernel_rfl
  i51 := by kernel_rfl
  i53 := by kernel_rfl
  i75 := by kernel_rfl
  i76 := by kernel_rfl
  i80 := by kernel_rfl
  i85 := by kernel_rfl
  i127 := by kernel_rfl
  i143 := by kernel_rfl
  i145 := by kernel_rfl
  i167 := by kernel_rfl
  i168 := by kernel_rfl
  i171 := by kernel_rfl
  i173 := by kernel_rfl
  i175 := by kernel_rfl
  i210 := by kernel_rfl
  i212 := by kernel_rfl
  i232 := by kernel_rfl
  i233 := by kernel_rfl
  m15 := by kernel_rfl
  m16 := by kernel_rfl
  m17 := by kernel_rfl
  m18 := by kernel_rfl
  m19 := by kernel_rfl
  c0 := by kernel_rfl
  c2 := by kernel_rfl
  c3 := by kernel_rfl
  c4 := by kernel_rfl
  c5 := by kernel_rfl
  c9 := by kernel_rfl
  c20 := by kernel_rfl
  c21 := by kernel_rfl
  c37 := by kernel_rfl
  c46 := by kernel_rfl
  c51 := by kernel_rfl
  c53 := by kernel_rfl
  c75 := by kernel_rfl
  c76 := by kernel_rfl
  c80 := by kernel_rfl
  c85 := by kernel_rfl
  c127 := by kernel_rfl
  c143 := by kernel_rfl
  c145 := by kernel_rfl
  c167 := by kernel_rfl
  c168 := by kernel_rfl
  c171 := by kernel_rfl
  c173 := by kernel_rfl
  c175 := by kernel_rfl
  c210 := by kernel_rfl
  c212 := by kernel_rfl
  c213 := by kernel_rfl
  c232 := by kernel_rfl
  c233 := by kernel_rfl }
def Tryz.itoaAll_ren : Go.Shelf.Ren := ⟨fun | 171 => 76 | 243 => 113 | 246 => 150 | 283 => 174 | 284 => 175 | 285 => 176 | 286 => 177 | 129 => 124 | 317 => 184 | 318 => 185 | 319 => 186 | 320 => 187 | 337 => 190 | 338 => 191 | n => n, fun | 3 => 3 | 9 => 9 | 2 => 2 | 4 => 4 | 171 => 184 | 0 => 0 | 53 => 105 | 37 => 47 | 5 => 5 | 173 => 186 | 212 => 198 | 51 => 138 | 20 => 20 | 213 => 199 | 46 => 114 | 232 => 204 | 233 => 205 | n => n, fun | 17 => 2 | 18 => 3 | 19 => 4 | n => n⟩
theorem Tryz.itoaAll : Go.Proofs.LaysM.n171 Tryz.prog Tryz.itoaAll_ren := {
  mixed := by kernel_rfl
  f129 := Tryz.func124.trans (congrArg some (by kernel_rfl))
  f171 := Tryz.func76.trans (congrArg some (by kernel_rfl))
  f243 := Tryz.func113.trans (congrArg some (by kernel_rfl))
  f246 := Tryz.func150.trans (congrArg some (by kernel_rfl))
  f283 := Tryz.func174.trans (congrArg some (by kernel_rfl))
  f284 := Tryz.func175.trans (congrArg some (by kernel_rfl))
  f285 := Tryz.func176.trans (congrArg some (by kernel_rfl))
  f286 := Tryz.func177.trans (congrArg some (by kernel_rfl))
  f317 := Tryz.func184.trans (congrArg some (by kernel_rfl))
  f318 := Tryz.func185.trans (congrArg some (by kernel_rfl))
  f319 := Tryz.func186.trans (congrArg some (by kernel_rfl))
  f320 := Tryz.func187.trans (congrArg some (by kernel_rfl))
  f337 := Tryz.func190.trans (congrArg some (by kernel_rfl))
  f338 := Tryz.func191.trans (congrArg some (by kernel_rfl))
  t0 := Tryz.underlying0
  a0 := Tryz.isAgg0
  z0 := Tryz.sizeOf0
  v0 := Tryz.zeroValue0
  t2 := Tryz.underlying2
  a2 := Tryz.isAgg2
  z2 := Tryz.sizeOf2
  v2 := Tryz.zeroValue2
  t3 := Tryz.underlying3
  a3 := Tryz.isAgg3
  z3 := Tryz.sizeOf3
  v3 := Tryz.zeroValue3
  t4 := Tryz.underlying4
  a4 := Tryz.isAgg4
  z4 := Tryz.sizeOf4
  v4 := Tryz.zeroValue4
  t5 := Tryz.underlying5
  a5 := Tryz.isAgg5
  z5 := Tryz.sizeOf5
  v5 := Tryz.zeroValue5
  t9 := Tryz.underlying9
  a9 := Tryz.isAgg9
  z9 := Tryz.sizeOf9
  v9 := Tryz.zeroValue9
  t20 := Tryz.underlying20
  a20 := Tryz.isAgg20
  z20 := Tryz.sizeOf20
  v20 := Tryz.zeroValue20
  t37 := Tryz.underlying47
  a37 := Tryz.isAgg47
  z37 := Tryz.sizeOf47
  v37 := Tryz.zeroValue47
  t46 := Tryz.underlying114
  a46 := Tryz.isAgg114
  z46 := Tryz.sizeOf114
  v46 := Tryz.zeroValue114
  t51 := Tryz.underlying138
  a51 := Tryz.isAgg138
  z51 := Tryz.sizeOf138
  v51 := Tryz.zeroValue138
  t53 := Tryz.underlying105
  a53 := Tryz.isAgg105
  z53 := Tryz.sizeOf105
  v53 := Tryz.zeroValue105
  t171 := Tryz.underlying184
  a171 := Tryz.isAgg184
  z171 := Tryz.sizeOf184
  v171 := Tryz.zeroValue184
  t173 := Tryz.underlying186
  a173 := Tryz.isAgg186
  z173 := Tryz.sizeOf186
  v173 := Tryz.zeroValue186
  t212 := Tryz.underlying198
  a212 := Tryz.isAgg198
  z212 := Tryz.sizeOf198
  v212 := Tryz.zeroValue198
  t213 := Tryz.underlying199
  a213 := Tryz.isAgg199
  z213 := Tryz.sizeOf199
  t232 := Tryz.underlying204
  a232 := Tryz.isAgg204
  z232 := Tryz.sizeOf204
  v232 := Tryz.zeroValue204
  t233 := Tryz.underlying205
  a233 := Tryz.isAgg205
  z233 := Tryz.sizeOf205
  v233 := Tryz.zeroValue205
  g17 := by kernel_rfl
  g18 := by kernel_rfl
  g19 := by kernel_rfl
  i0 := by kernel_rfl
  i2 := by kernel_rfl
  i3 := by kernel_rfl
  i4 := by kernel_rfl
  i5 := by kernel_rfl
  i9 := by kernel_rfl
  i20 := by kernel_rfl
  i37 := by kernel_rfl
  i46 := by kernel_rfl
  i51 := by kernel_rfl
  i53 := by kernel_rfl
  i171 := by kernel_rfl
  i173 := by kernel_rfl
  i212 := by kernel_rfl
  i232 := by kernel_rfl
  i233 := by kernel_rfl
  m17 := by kernel_rfl
  m18 := by kernel_rfl
  m19 := by kernel_rfl }
def Tryz.trimPre_ren : Go.Shelf.Ren := ⟨fun | 101 => 109 | 208 => 148 | 206 => 172 | n => n, fun | 9 => 9 | 4 => 4 | 3 => 3 | n => n, fun | n => n⟩
theorem Tryz.trimPre : Go.Proofs.Lays.n101 Tryz.prog Tryz.trimPre_ren := {
  mixed := by kernel_rfl
  f101 := Tryz.func109.trans (congrArg some (by kernel_rfl))
  f206 := Tryz.func172.trans (congrArg some (by kernel_rfl))
  f208 := Tryz.func148.trans (congrArg some (by kernel_rfl))
  t3 := Tryz.underlying3
  a3 := Tryz.isAgg3
  z3 := Tryz.sizeOf3
  v3 := Tryz.zeroValue3
  t4 := Tryz.underlying4
  a4 := Tryz.isAgg4
  z4 := Tryz.sizeOf4
  v4 := Tryz.zeroValue4
  t9 := Tryz.underlying9
  a9 := Tryz.isAgg9
  z9 := Tryz.sizeOf9
  v9 := Tryz.zeroValue9 }
end Go.Proofs.YtbdhhmhlcdganaaGreatDoor
namespace Go.Proofs.YtbdhhmhlcdganaaGreatDoor
open Go.RowKit
set_option linter.unusedVariables false
set_option maxRecDepth 100000

theorem dec_dig (n : Nat) (h : 1 ≤ n) : Lib.decDigits n = digN n := by
  induction n using Nat.strongRecOn with
  | ind n ih =>
    rw [Lib.decDigits, digN_step n (by omega)]
    by_cases h1 : n < 10
    · rw [dif_pos h1, show n / 10 = 0 by omega, show n % 10 = n by omega]; rfl
    · rw [dif_neg h1, ih (n / 10) (by omega) (by omega)]
theorem itoa_dig (n : Nat) (h : 1 ≤ n) : Lib.itoa (n : Int) = digN n := by rw [Lib.itoa_nonneg, dec_dig n h]
theorem dig_of : ∀ (k : Nat) (l : List UInt8), l.length = k → (∀ x ∈ l, 48 ≤ x.toNat ∧ x.toNat ≤ 57) → l.head? ≠ some 48 → digN (valN l) = l := by
  intro k
  induction k with
  | zero => intro l hl _ _; obtain rfl := List.length_eq_zero_iff.1 hl; rfl
  | succ k ih =>
    intro l hl hd hh
    have hne : l ≠ [] := by intro e; rw [e] at hl; cases hl
    obtain ⟨a, x, e⟩ : ∃ a x, l = a ++ [x] := ⟨_, _, (List.dropLast_concat_getLast hne).symm⟩
    subst e
    have hla : a.length = k := by simpa using hl
    have hx := hd x (by simp)
    rw [valN_snoc]
    have hr : UInt8.ofNat (48 + (x.toNat - 48)) = x := by rw [show 48 + (x.toNat - 48) = x.toNat by omega]; simp
    by_cases ha : a = []
    · subst ha
      have h0 : x.toNat ≠ 48 := fun e => hh (by
        have : x = 48 := UInt8.toNat_inj.1 e
        rw [this]; rfl)
      have hv : valN [] = 0 := rfl
      rw [hv, digN_step _ (by omega), show (0 * 10 + (x.toNat - 48)) / 10 = 0 by omega, show (0 * 10 + (x.toNat - 48)) % 10 = x.toNat - 48 by omega, hr]; rfl
    · have h1 := ih a hla (fun y hy => hd y (by simp [hy])) (by cases a with | nil => exact absurd rfl ha | cons b t => simpa using hh)
      have h2 : valN a ≠ 0 := fun e => ha (by rw [← h1, e]; rfl)
      rw [digN_step _ (by omega), show (valN a * 10 + (x.toNat - 48)) / 10 = valN a by omega, show (valN a * 10 + (x.toNat - 48)) % 10 = x.toNat - 48 by omega, hr, h1]
def numS (s : ByteArray) : Nat := if isSeg s = true then valN (s.data.toList.drop 4) else 0
theorem seg_is {s : ByteArray} (h : isSeg s = true) : 1 ≤ numS s ∧ numS s < 10 ^ 12 ∧ s = segN (numS s) := by
  have hn : numS s = valN (s.data.toList.drop 4) := if_pos h
  unfold isSeg at h
  simp only [Bool.and_eq_true, decide_eq_true_eq, beq_iff_eq, List.all_eq_true] at h
  obtain ⟨⟨⟨⟨h5, h16⟩, hp⟩, hd⟩, h0⟩ := h
  have hsz : s.data.toList.length = s.size := by rw [Array.length_toList]; rfl
  have hdl : (s.data.toList.drop 4).length = s.size - 4 := by rw [List.length_drop, hsz]
  have hap := List.take_append_drop 4 s.data.toList
  rw [hp] at hap
  generalize s.data.toList.drop 4 = l at hn hd h0 hdl hap
  have e := dig_of _ l rfl hd h0
  rw [hn]
  refine ⟨?_, ?_, ?_⟩
  · rcases Nat.eq_zero_or_pos (valN l) with e0 | h1
    · rw [e0] at e
      rw [← e] at hdl
      have : (digN 0).length = 0 := rfl
      omega
    · exact h1
  · apply Nat.lt_of_not_le
    intro hb
    have h1 : 12 < (digN (valN l)).length := digF_big 12 (valN l + 1) (valN l) (by omega) hb
    rw [e] at h1
    omega
  · unfold segN
    rw [e, hap]
theorem numS_zero {s : ByteArray} (h : isSeg s = false) : numS s = 0 := by unfold numS; rw [if_neg (by rw [h]; decide)]
theorem numS_segN {m : Nat} (h1 : 1 ≤ m) (h2 : m < 10 ^ 12) : numS (segN m) = m := (segN_inj (seg_is (isSeg_segN h1 h2)).2.2).symm
theorem mineS_num (n k : Nat) (s : ByteArray) : mineS n k s = decide (numS s = 0 ∨ (n ≤ numS s ∧ numS s < n + k)) := by
  unfold mineS
  cases h : isSeg s with
  | false => rw [numS_zero h]; simp
  | true =>
    obtain ⟨h1, h2, h3⟩ := seg_is h
    rw [Bool.eq_iff_iff]
    simp only [Bool.not_true, Bool.false_or, List.any_eq_true, List.mem_range, decide_eq_true_eq]
    constructor
    · rintro ⟨i, hi, he⟩
      have := sameN_iff.1 he
      rw [h3] at this
      have := segN_inj this
      right
      omega
    · intro h4
      refine ⟨numS s - n, by omega, ?_⟩
      rw [sameN_iff, show n + (numS s - n) = numS s by omega]
      exact h3
theorem trim_seg (m : Nat) : Lib.trimPrefix (segN m).data.toList [108, 111, 103, 45] = digN m := by
  have e : (segN m).data.toList = [108, 111, 103, 45] ++ digN m := by simp [segN]
  rw [e]
  unfold Lib.trimPrefix Lib.hasPrefix
  simp
theorem decFrom_snoc (l : List UInt8) (x : UInt8) : ∀ acc, Lib.decFrom acc (l ++ [x]) = (Lib.decFrom acc l).bind fun v => (Lib.digitVal x).map fun d => v * 10 + d := by
  induction l with
  | nil => intro acc; simp only [List.nil_append, Lib.decFrom, Option.bind_some]; cases Lib.digitVal x <;> rfl
  | cons a t ih =>
    intro acc
    simp only [List.cons_append, Lib.decFrom]
    cases Lib.digitVal a with
    | none => rfl
    | some d => exact ih _
theorem decFrom_dig (m : Nat) : Lib.decFrom 0 (digN m) = some m := by
  induction m using Nat.strongRecOn with
  | ind m ih =>
    by_cases h0 : m = 0
    · subst h0; rfl
    · rw [digN_step m h0, decFrom_snoc, ih (m / 10) (by omega)]
      have e : (UInt8.ofNat (48 + m % 10)).toNat = 48 + m % 10 := by simp; omega
      have hv : Lib.digitVal (UInt8.ofNat (48 + m % 10)) = some (m % 10) := by
        unfold Lib.digitVal
        rw [e, if_pos (by omega)]
        simp
      rw [hv]
      simp
      omega
theorem atoi_dig (m : Nat) (h1 : 1 ≤ m) (h2 : m < 10 ^ 12) : Lib.atoiAll (digN m) = .ok (m : Int) := by
  have hl : (digN m).length ≤ 12 := digF_len (m + 1) m 12 h2
  rw [Lib.atoiAll_short _ (by omega)]
  obtain ⟨x, l, hx, _⟩ := digF_head (m + 1) m (by omega) (by omega)
  have hd : digN m = x :: l := hx
  have ha := digF_all (m + 1) m x (by rw [hx]; simp)
  have hn : Lib.decNat (x :: l) = some m := by
    unfold Lib.decNat
    rw [if_neg (by simp), ← hd]
    exact decFrom_dig m
  have n45 : ¬ (x == 45) = true := by intro e; rw [beq_iff_eq] at e; rw [e] at ha; exact absurd ha.1 (by decide)
  have n43 : ¬ (x == 43) = true := by intro e; rw [beq_iff_eq] at e; rw [e] at ha; exact absurd ha.1 (by decide)
  rw [hd]
  have he : Lib.atoi (x :: l) = some (m : Int) := by
    show (if (x == 45) = true then _ else if (x == 43) = true then _ else (Lib.decNat (x :: l)).map _) = _
    rw [if_neg n45, if_neg n43, hn]
    rfl
  rw [he]
  rfl
theorem not_seg {s : ByteArray} (h : ∀ m : Nat, 1 ≤ m → m < 10 ^ 12 → Lib.atoiAll (Lib.trimPrefix s.data.toList [108, 111, 103, 45]) = .ok (m : Int) → s ≠ segN m) : numS s = 0 := by
  cases hs : isSeg s with
  | false => exact numS_zero hs
  | true =>
    obtain ⟨h1, h2, h3⟩ := seg_is hs
    exfalso
    refine h (numS s) h1 h2 ?_ h3
    conv => lhs; rw [h3]
    rw [trim_seg]
    exact atoi_dig _ h1 h2
theorem yes_seg {s : ByteArray} (h16 : s.size ≤ 16) {m : Nat} (h1 : 1 ≤ m) (he : s = segN m) : numS s = m := by
  by_cases h2 : m < 10 ^ 12
  · rw [he]; exact numS_segN h1 h2
  · exfalso
    have := digF_big 12 (m + 1) m (by omega) (by omega)
    have h3 := segN_size m
    rw [← he] at h3
    unfold digN at h3
    omega
end Go.Proofs.YtbdhhmhlcdganaaGreatDoor
namespace Go.Proofs.YtbdhhmhlcdganaaGreatDoor
open Go.RowKit
set_option linter.unusedVariables false
set_option maxRecDepth 100000

theorem str_app (a b : List UInt8) : (⟨a.toArray⟩ : ByteArray) ++ ⟨b.toArray⟩ = ⟨(a ++ b).toArray⟩ := by
  apply ByteArray.ext
  simp [ByteArray.data_append]
end Go.Proofs.YtbdhhmhlcdganaaGreatDoor
namespace Go.Proofs.YtbdhhmhlcdganaaGreatDoor
open Go.RowKit
set_option linter.unusedVariables false
set_option maxRecDepth 100000

theorem below_grow {w : World} (k : Nat) (os : Array Obj) : Below w.heap.size w (Go.Sort.grow (w.drewN k) os) := ⟨rfl, rfl, rfl, by simp [Go.Sort.grow], fun i hi => by
  show (w.heap ++ os)[i]? = _
  rw [Array.getElem?_append, if_pos hi]⟩
theorem itoa_any (m : Nat) (h1 : 1 ≤ m) (h2 : m ≤ 9223372036854775807) (w : World) (gl : Gl w) : Calls Tryz.prog 76 #[.int .i64 (m : Nat)] w fun e w' => e = .returned (.string ⟨(digN m).toArray⟩) ∧ Below w.heap.size w w' := by
  refine (Any.strconv_Itoa Tryz.itoaAll (m : Int) (by omega) (by omega) w (gl.is (by kernel_rfl))).mono ?_
  rintro e w' ⟨he, k, os, rfl⟩
  rw [itoa_dig m h1] at he
  exact ⟨he, below_grow k os⟩
theorem atoi_any (s : ByteArray) (hs : s.size ≤ 281474976710656) (w : World) (gl : Gl w) : Calls Tryz.prog 108 #[.string s] w fun e w' => ((∃ v : Int, Lib.atoiAll s.data.toList = .ok v ∧ e = .returned (.tuple #[.int .i64 v, .nilIface])) ∨ (∃ (n : Int) (t : TypeId) (p : Addr), (∀ v, Lib.atoiAll s.data.toList ≠ .ok v) ∧ e = .returned (.tuple #[.int .i64 n, .iface t (.pointer (some p))]))) ∧ Below w.heap.size w w' := by
  cases h : Lib.atoiAll s.data.toList with
  | ok v =>
    refine (Any.strconv_Atoi_ok Tryz.atoiAll s (by omega) v h w).mono ?_
    rintro e w' ⟨he, hw⟩
    refine ⟨.inl ⟨v, rfl, he⟩, ?_⟩
    rcases hw with rfl | ⟨t, rfl⟩
    · exact Below.refl _ _
    · exact Lib.bytesWorld_below w _ _
  | range =>
    obtain ⟨ev, h1, h2⟩ := gl.rng
    refine (Any.strconv_Atoi_range Tryz.atoiAll s hs h ev w h1 h2).mono ?_
    rintro e w' ⟨N, he, _, _, hb⟩
    exact ⟨.inr ⟨_, _, _, (fun v h9 => by cases h9), he⟩, hb⟩
  | _ =>
    obtain ⟨ev, h1, h2⟩ := gl.syn
    refine (Any.strconv_Atoi_syntax Tryz.atoiAll s hs h ev w h1 h2).mono ?_
    rintro e w' ⟨N, he, _, _, hb⟩
    exact ⟨.inr ⟨_, _, _, (fun v h9 => by cases h9), he⟩, hb⟩
theorem trimPrefix_any (s p : ByteArray) (w : World) : Calls Tryz.prog 109 #[.string s, .string p] w fun e w' => e = .returned (.string ⟨(Lib.trimPrefix s.data.toList p.data.toList).toArray⟩) ∧ w' = w :=
  Any.strings_TrimPrefix Tryz.trimPre s p w
theorem file_any (m : Nat) (b : Int) (h1 : 1 ≤ m) (h2 : m ≤ 9223372036854775807) (w : World) (gl : Gl w) : Calls Tryz.prog 50 #[.agg #[.int .i64 (m : Nat), .int .i64 b]] w fun e w' => e = .returned (.string (segN m)) ∧ Below w.heap.size w w' := by
  have HG := Lib.hid gl
  have HB := Lib.hid (bel_alloc w (.cells #[.int .i64 (m : Nat), .int .i64 b] 67))
  have HI := Lib.hid (itoa_any m h1 h2 _ (HG.out.below HB.out))
  clear gl
  go_enter Tryz.func50, Tryz.ntmps50
  go_wp2_with fail
  refine HI.out.mono ?_
  rintro e w1 ⟨rfl, b1⟩
  have hs : (⟨#[108, 111, 103, 45]⟩ : ByteArray) ++ ⟨(digN m).toArray⟩ = segN m := str_app [108, 111, 103, 45] (digN m)
  have hl : (digN m).length ≤ 19 := digF_len _ m 19 (by omega)
  have hsz : ¬ 9223372036854775807 < (⟨#[108, 111, 103, 45]⟩ : ByteArray).size + (⟨(digN m).toArray⟩ : ByteArray).size := by simp [ByteArray.size]; omega
  clear hl
  have b2 := HB.out.trans (b1.mono HB.out.size)
  go_wp2
  go_ret
  exact ⟨rfl, b2⟩
theorem trim_size (s : ByteArray) (p : List UInt8) : (Lib.trimPrefix s.data.toList p).length ≤ s.size := by
  have h : s.data.toList.length = s.size := by rw [Array.length_toList]; rfl
  unfold Lib.trimPrefix
  split
  · rw [List.length_drop]; omega
  · omega
theorem segOf_any (s : ByteArray) (h16 : s.size ≤ 16) (w : World) (gl : Gl w) : Calls Tryz.prog 73 #[.string s] w fun e w' => e = .returned (.int .i64 (numS s : Nat)) ∧ Below w.heap.size w w' := by
  have HG := Lib.hid gl
  have HT : Hid (Calls Tryz.prog 109 #[.string s, .string ⟨#[108, 111, 103, 45]⟩] w fun e w' => e = .returned (.string ⟨(Lib.trimPrefix s.data.toList [108, 111, 103, 45]).toArray⟩) ∧ w' = w) := Lib.hid (trimPrefix_any s ⟨#[108, 111, 103, 45]⟩ w)
  obtain ⟨T, hT⟩ : ∃ T, Lib.trimPrefix s.data.toList [108, 111, 103, 45] = T := ⟨_, rfl⟩
  have hTl : T.length ≤ 16 := by rw [← hT]; exact Nat.le_trans (trim_size s _) h16
  rw [hT] at HT
  have HNO : Hid ((∀ m : Nat, 1 ≤ m → m < 10 ^ 12 → Lib.atoiAll T = .ok (m : Int) → s ≠ segN m) → numS s = 0) := Lib.hid (by rw [← hT]; exact not_seg)
  have HYES : Hid (∀ m : Nat, 1 ≤ m → s = segN m → numS s = m) := Lib.hid (fun m h1 he => yes_seg h16 h1 he)
  have HA := Lib.hid (atoi_any ⟨T.toArray⟩ (by simp [ByteArray.size]; omega) w gl)
  have HTT : Hid ((⟨T.toArray⟩ : ByteArray).data.toList = T) := Lib.hid (by simp)
  rw [HTT.out] at HA
  obtain ⟨N, hN⟩ : ∃ N, numS s = N := ⟨_, rfl⟩
  rw [hN] at HNO HYES ⊢
  clear gl hT hTl hN
  go_enter Tryz.func73, Tryz.ntmps73
  go_wp2_with fail
  refine HT.out.mono ?_
  rintro e w1 ⟨rfl, hw⟩
  rw [hw]
  clear hw HT
  go_wp2_with fail
  refine HA.out.mono ?_
  rintro e w2 ⟨hor, b2⟩
  have HB2 := Lib.hid b2
  have HG2 := Lib.hid (HG.out.below b2)
  clear b2 HA
  rcases hor with ⟨v, hv, rfl⟩ | ⟨n, t, p, hno, rfl⟩
  · have HV := Lib.hid hv
    clear hv
    by_cases h1 : v < 1
    · have h0 : N = 0 := HNO.out fun m hm _ he => by
        rw [HV.out] at he
        injection he with he
        omega
      subst h0
      clear HNO HYES HV
      go_wp2
      go_ret
      exact ⟨rfl, HB2.out⟩
    · obtain ⟨m, rfl⟩ : ∃ m : Nat, v = (m : Int) := ⟨v.toNat, by omega⟩
      have hvb := Lib.atoiAll_bounds HV.out
      have HF := Lib.hid (file_any m 0 (by omega) (by omega) w2 HG2.out)
      by_cases he : s = segN m
      · have hN : N = m := HYES.out m (by omega) he
        subst hN
        have hb : (s.toList == (segN N).toList) = true := by rw [he]; simp
        clear HNO HYES HV he
        go_wp2_with fail
        refine HF.out.mono ?_
        rintro e w3 ⟨rfl, b3⟩
        have HB3 := Lib.hid (HB2.out.trans (b3.mono HB2.out.size))
        clear b3
        go_wp2
        go_ret
        exact ⟨rfl, HB3.out⟩
      · have h0 : N = 0 := HNO.out fun k hk _ hk2 => by
          rw [HV.out] at hk2
          injection hk2 with hk2
          obtain rfl : k = m := by omega
          exact he
        subst h0
        have hb : (s.toList == (segN m).toList) = false := by
          cases hx : (s.toList == (segN m).toList) with
          | false => rfl
          | true => exact absurd (sameN_iff.1 hx) he
        clear HNO HYES HV he
        go_wp2_with fail
        refine HF.out.mono ?_
        rintro e w3 ⟨rfl, b3⟩
        have HB3 := Lib.hid (HB2.out.trans (b3.mono HB2.out.size))
        clear b3
        go_wp2
        go_ret
        exact ⟨rfl, HB3.out⟩
  · have h0 : N = 0 := HNO.out fun m hm _ he => absurd he (hno m)
    subst h0
    clear HNO HYES hno
    go_wp2
    go_ret
    exact ⟨rfl, HB2.out⟩
end Go.Proofs.YtbdhhmhlcdganaaGreatDoor
namespace Go.Proofs.YtbdhhmhlcdganaaGreatDoor
open Go.RowKit
set_option linter.unusedVariables false

def distI (a b : Int) : Int := max a b - min a b
structure Hd where
  has : Bool
  v : Int
  t : Int
def Hd.zero : Hd := ⟨false, 0, 0⟩
abbrev Pt := Int × Int

def farB7 (d a b : Int) : Bool := decide (max d 0 < distI a b)
def dueB (q t y : Int) : Bool := decide (0 < q) && (decide (t ≤ y) && decide (q ≤ distI y t))
def toldB (d q : Int) (h : Hd) (p : Pt) : Bool := !h.has || (farB7 d p.1 h.v || dueB q h.t p.2)
def stepH (d q : Int) (h : Hd) (p : Pt) : Hd := bif toldB d q h p then ⟨true, p.1, p.2⟩ else h
def endH (d q : Int) (h : Hd) (l : List Pt) : Hd := l.foldl (stepH d q) h
def runP (d q : Int) : Hd → List Pt → List Pt
  | _, [] => []
  | h, p :: l => bif toldB d q h p then p :: runP d q (stepH d q h p) l else runP d q (stepH d q h p) l
def chkB (d q : Int) : Int := if 0 ≤ d ∧ d ≤ 1099511627776 ∧ 0 ≤ q ∧ q ≤ 1099511627776 then 0 else 26

def flP (l : List Pt) : List Int := l.flatMap fun p => [p.1, p.2]
theorem flP_nil : flP [] = [] := rfl
theorem flP_cons (p : Pt) (l : List Pt) : flP (p :: l) = p.1 :: p.2 :: flP l := rfl
theorem flP_append (a b : List Pt) : flP (a ++ b) = flP a ++ flP b := by simp [flP]
theorem flP_len (l : List Pt) : (flP l).length = 2 * l.length := by
  induction l with
  | nil => rfl
  | cons p l ih => rw [flP_cons, List.length_cons, List.length_cons, List.length_cons, ih]; omega
def ptX (l : List Pt) (k : Nat) : Int := (l.getD k (0, 0)).1
def ptY (l : List Pt) (k : Nat) : Int := (l.getD k (0, 0)).2
theorem pt_eq (l : List Pt) (k : Nat) (h : k < l.length) : l[k] = (ptX l k, ptY l k) := by simp [ptX, ptY, List.getD_eq_getElem?_getD, List.getElem?_eq_getElem h]
theorem nth_cons_succ (x : Int) (l : List Int) (i : Nat) : nth (x :: l) (i + 1) = nth l i := rfl
theorem flP_x (l : List Pt) (k : Nat) : nth (flP l) (2 * k) = ptX l k := by
  induction l generalizing k with
  | nil => rfl
  | cons p l ih =>
    cases k with
    | zero => rfl
    | succ k =>
      rw [flP_cons, show 2 * (k + 1) = 2 * k + 1 + 1 by omega, nth_cons_succ, nth_cons_succ, ih]; rfl
theorem flP_y (l : List Pt) (k : Nat) : nth (flP l) (2 * k + 1) = ptY l k := by
  induction l generalizing k with
  | nil => rfl
  | cons p l ih =>
    cases k with
    | zero => rfl
    | succ k =>
      rw [flP_cons, show 2 * (k + 1) + 1 = 2 * k + 1 + 1 + 1 by omega, nth_cons_succ, nth_cons_succ, ih]; rfl
def Pt.Ok (p : Pt) : Prop := (-9223372036854775808 ≤ p.1 ∧ p.1 < 9223372036854775808) ∧ (-9223372036854775808 ≤ p.2 ∧ p.2 < 9223372036854775808)
theorem flP_wf {l : List Pt} (h : ∀ p ∈ l, Pt.Ok p) : ∀ x ∈ flP l, (Lit.int .i64 x).wf = true := by
  intro x hx
  simp only [flP, List.mem_flatMap] at hx
  obtain ⟨p, hp, hx⟩ := hx
  have := h p hp
  simp only [Pt.Ok] at this
  simp only [List.mem_cons, List.not_mem_nil, or_false] at hx
  rcases hx with rfl | rfl <;> (simp [Lit.wf, IntKind.min, IntKind.max, IntKind.signed, IntKind.bits]; omega)
def Hd.Ok (h : Hd) : Prop := Pt.Ok (h.v, h.t)
end Go.Proofs.YtbdhhmhlcdganaaGreatDoor
namespace Go.Proofs.YtbdhhmhlcdganaaGreatDoor
open Go.RowKit
set_option linter.unusedVariables false

theorem Row.pt {w : World} {B : Nat} {A : Option Addr} {l : List Pt} (h : Row .i64 w B A (flP l)) {k : Nat} (hk : k < l.length) :
    ∃ b o, A = some ⟨b, o, none⟩ ∧ b < B ∧ w.cell? ⟨b, o + k * 2, none⟩ = some (.int .i64 (ptX l k)) ∧ w.cell? ⟨b, o + k * 2 + 1, none⟩ = some (.int .i64 (ptY l k)) := by
  have hl := flP_len l
  obtain ⟨b, o, e, hb, hc⟩ := h.2 (by omega)
  refine ⟨b, o, e, hb, ?_, ?_⟩
  · rw [Nat.mul_comm k 2, ← flP_x]; exact hc _ (by omega)
  · rw [Nat.mul_comm k 2, Nat.add_assoc, ← flP_y]; exact hc _ (by omega)
theorem Row.pts_of_block {w : World} {g : Nat} {t : TypeId} {l m : List Pt} (hg : w.heap[g]? = some (.cells (blk .i64 (flP (l ++ m))) t (0, 0))) (hw : ∀ p ∈ l, Pt.Ok p) : Row .i64 w w.heap.size (some ⟨g, 0, none⟩) (flP l) :=
  (Row.of_block hg (flP l) (flP_wf hw) (by rw [flP_append]; exact List.prefix_append _ _)).more (block_lt hg)

def zeroP (n : Nat) : List Pt := List.replicate n (0, 0)
theorem zeroP_succ (n : Nat) : zeroP (n + 1) = (0, 0) :: zeroP n := List.replicate_succ
theorem flP_zero (n : Nat) : flP (zeroP n) = List.replicate (2 * n) 0 := by
  induction n with
  | zero => rfl
  | succ n ih => rw [zeroP_succ, flP_cons, ih, show 2 * (n + 1) = 2 * n + 1 + 1 by omega, List.replicate_succ, List.replicate_succ]
theorem zeroP_len (n : Nat) : (zeroP n).length = n := by simp [zeroP]
theorem made_two (n : Nat) : madeCells (Value.agg #[.int .i64 0, .int .i64 0]).cells (n * 2) = blk .i64 (flP (zeroP n)) := by
  rw [flP_zero]
  have hc : (Value.agg #[.int .i64 0, .int .i64 0]).cells = #[.int .i64 0, .int .i64 0] := rfl
  apply Array.ext
  · rw [size_madeCells, blk_size, List.length_replicate, Nat.mul_comm]
  · intro i h1 h2
    rw [blk_size, List.length_replicate] at h2
    have e1 : (blk .i64 (List.replicate (2 * n) 0))[i] = .int .i64 0 := by simp [blk]
    rw [e1]
    simp only [madeCells, Array.getElem_map, Array.getElem_range, hc]
    have h3 : i % (#[Value.int .i64 0, .int .i64 0] : Array Value).size = i % 2 := rfl
    rw [h3]
    rcases (show i % 2 = 0 ∨ i % 2 = 1 by omega) with h | h <;> rw [h] <;> rfl
theorem zero_two (m : Nat) : Builtin.zeroCells (Value.agg #[.int .i64 0, .int .i64 0]).cells m = blk .i64 (flP (zeroP m)) := by
  rw [← made_two m]; rfl
def marksT : List Pt := [(-77, -77), (-77, -77), (-77, -77), (-77, -77), (-77, -77)]

end Go.Proofs.YtbdhhmhlcdganaaGreatDoor
namespace Go.Proofs.YtbdhhmhlcdganaaGreatDoor
open Go.RowKit
set_option linter.unusedVariables false

def PtOwn (e : TypeId) (w : World) (base : Nat) (v : Value) (l : List Pt) : Prop :=
  (v = .slice none 0 0 ∧ l = []) ∨
  ∃ (g cap : Nat) (r : List Pt), v = .slice (some ⟨g, 0, none⟩) l.length cap ∧ base ≤ g ∧ w.heap[g]? = some (.cells (blk .i64 (flP (l ++ r))) e (0, 0)) ∧ l.length + r.length = cap ∧ cap ≤ maxLen

theorem PtOwn.nil (e : TypeId) (w : World) (base : Nat) : PtOwn e w base (.slice none 0 0) [] := .inl ⟨rfl, rfl⟩
theorem PtOwn.below {e : TypeId} {w w' : World} {base B : Nat} {v : Value} {l : List Pt} (h : PtOwn e w base v l) (hb : Below B w w') (hB : w.heap.size ≤ B) : PtOwn e w' base v l := by
  rcases h with h | ⟨g, cap, r, h1, h2, h3, h4⟩
  · exact .inl h
  · exact .inr ⟨g, cap, r, h1, h2, (hb.block g (by have := block_lt h3; omega)).trans h3, h4⟩
theorem PtOwn.alloc {e : TypeId} {w : World} {base : Nat} {v : Value} {l : List Pt} (h : PtOwn e w base v l) (o : Obj) : PtOwn e (w.alloc o) base v l :=
  h.below (bel_alloc w o) (Nat.le_refl _)
theorem PtOwn.drewN {e : TypeId} {w : World} {base : Nat} {v : Value} {l : List Pt} (h : PtOwn e w base v l) (n : Nat) : PtOwn e (w.drewN n) base v l := h
theorem PtOwn.mono {e : TypeId} {w : World} {base base' : Nat} {v : Value} {l : List Pt} (h : PtOwn e w base v l) (hb : base' ≤ base) : PtOwn e w base' v l := by
  rcases h with h | ⟨g, cap, r, h1, h2, h3⟩
  · exact .inl h
  · exact .inr ⟨g, cap, r, h1, by omega, h3⟩
theorem PtOwn.block {e : TypeId} {w : World} {base : Nat} {v : Value} {l : List Pt} (h : PtOwn e w base v l) : ∀ g, v.ownBlock = some g → base ≤ g ∧ g < w.heap.size := by
  intro g hg
  rcases h with ⟨rfl, _⟩ | ⟨g', cap, r, rfl, h2, h3, h4⟩
  · cases hg
  · injection hg with hg
    subst hg
    exact ⟨h2, block_lt h3⟩
theorem PtOwn.kept {e : TypeId} {w w' : World} {base : Nat} {v : Value} {l : List Pt} {row : Option Nat} (h : PtOwn e w base v l) (hg : w.grownBy w' row) (hne : v.ownBlock = none ∨ v.ownBlock ≠ row) : PtOwn e w' base v l := by
  rcases h with h | ⟨g, cap, r, rfl, h2, h3, h4⟩
  · exact .inl h
  · refine .inr ⟨g, cap, r, rfl, h2, (hg.block g (block_lt h3) fun e => ?_).trans h3, h4⟩
    rcases hne with h | h
    · cases h
    · exact h e
theorem PtOwn.set {e : TypeId} {w : World} {base g : Nat} {v : Value} {l : List Pt} (h : PtOwn e w base v l) (hg : g < base) (i : Nat) (u : Value) : PtOwn e (w.setCell ⟨g, i, none⟩ u) base v l := by
  rcases h with h | ⟨q, cap, r, rfl, h2, h3, h4⟩
  · exact .inl h
  · exact .inr ⟨q, cap, r, rfl, h2, (Below.heap_setCell w ⟨g, i, none⟩ u q (by simp; omega)).trans h3, h4⟩
theorem PtOwn.row {e : TypeId} {w : World} {base : Nat} {v : Value} {l : List Pt} (h : PtOwn e w base v l) (hw : ∀ p ∈ l, Pt.Ok p) :
    ∃ A c, v = .slice A l.length c ∧ Row .i64 w w.heap.size A (flP l) ∧ l.length ≤ c ∧ c ≤ maxLen := by
  rcases h with ⟨rfl, rfl⟩ | ⟨g, cap, r, rfl, h2, h3, h4, h5⟩
  · exact ⟨none, 0, rfl, Row.nil _ _ _ _, Nat.le_refl _, Nat.zero_le _⟩
  · exact ⟨_, cap, rfl, Row.pts_of_block h3 hw, by omega, h5⟩

section
variable {P : Program}
theorem blkP_cat (l m : List Pt) : blk .i64 (flP l) ++ blk .i64 (flP m) = blk .i64 (flP (l ++ m)) := by rw [flP_append]; simp [blk]
theorem run_append_pt (w : World) (base : Nat) (t ty e : TypeId) (ht : P.underlying t = some (.slice e)) (hi : (P.info? e).map (fun i => (i.zero, i.size, i.bytes)) = some (some (.agg #[.int .i64 0, .int .i64 0]), 2, 16))
    (v : Value) (l : List Pt) (hown : PtOwn e w base v l) (a : Addr) (c : Nat) (x y : Int) (hnews : ∀ j u, [Value.int .i64 x, .int .i64 y][j]? = some u → w.cell? (a.add j) = some u)
    (hb : (l.length + 1) * 16 ≤ 140737488355328) (hbase : base ≤ w.heap.size) :
    ∃ v' w', (Builtin.append_ #[t, t] ty #[v, .slice (some a) 1 c]).run P w = .ok v' w' ∧ PtOwn e w' base v' (l ++ [(x, y)]) ∧ w.grownBy w' v.ownBlock := by
  obtain ⟨i, hi1, hz, hsz, hby⟩ := info_parts hi
  have hl : [Value.int .i64 x, .int .i64 y].length = 1 * i.size := by rw [hsz]; rfl
  rcases hown with ⟨rfl, rfl⟩ | ⟨g, cap, r, rfl, h2, h3, h4, h5⟩
  · have hr := run_append_nil (P := P) w t ty e i _ ht hi1 hz a 1 c _ hl hnews (by omega) (by omega) (by rw [hby]; omega)
    have hge := grownCap_ge w 1 0 e
    refine ⟨_, _, hr, .inr ⟨_, _, zeroP (grownCap w 1 0 e - 1), rfl, hbase, ?_, ?_, grownCap_le_maxLen w 1 0 e (by simp [maxLen])⟩, ⟨rfl, rfl, rfl, by simp, fun k hk _ => heap_alloc_old w.drew _ hk⟩⟩
    · have := heap_alloc_new w.drew (.cells ([Value.int .i64 x, .int .i64 y].toArray ++ Builtin.zeroCells (Value.agg #[.int .i64 0, .int .i64 0]).cells (grownCap w 1 0 e - 1)) e)
      rw [zero_two] at this
      rw [zero_two]
      refine this.trans ?_
      have e1 : [Value.int .i64 x, .int .i64 y].toArray = blk .i64 (flP [(x, y)]) := rfl
      rw [e1, blkP_cat]; rfl
    · rw [zeroP_len]; simp; omega
  · by_cases hroom : l.length + 1 ≤ cap
    · have hcs : (blk .i64 (flP (l ++ r))).size = 2 * cap := by rw [blk_size, flP_len, List.length_append]; omega
      have hr := run_append_room (P := P) w t ty e i ht hi1 g l.length cap _ h3 a 1 c _ hl hnews (by simp [Value.oneCell']) hroom (by rw [hsz, hcs]; simp; omega)
      obtain ⟨p, r, rfl⟩ : ∃ p r', r = p :: r' := by
        cases r with
        | nil => simp at h4; omega
        | cons p r => exact ⟨p, r, rfl⟩
      refine ⟨_, _, hr, .inr ⟨g, cap, r, by rw [List.length_append]; rfl, h2, ?_, by rw [List.length_append]; simp at h4 ⊢; omega, h5⟩, ⟨rfl, rfl, rfl, by simp, fun k _ hk => setRow_other w g k _ (fun e => hk (by simp [Value.ownBlock, e]))⟩⟩
      rw [setRow_heap w g _ _ e _ h3, hsz]
      congr 2
      have e1 : (blk .i64 (flP (l ++ p :: r))).toList = (flP l).map (Value.int .i64) ++ (Value.int .i64 p.1 :: .int .i64 p.2 :: (flP r).map (Value.int .i64)) := by rw [flP_append, flP_cons]; simp [blk]
      have e2 : ((flP l).map (Value.int .i64)).length = l.length * 2 := by rw [List.length_map, flP_len]; omega
      rw [e1, List.take_left' e2, List.drop_append, List.drop_eq_nil_of_le (by rw [e2]; simp), e2, List.append_assoc, flP_append, flP_append, flP_cons, flP_nil]
      simp [blk]
    · have hcn : l.length = cap := by omega
      have hr0 : r = [] := List.eq_nil_of_length_eq_zero (by omega)
      subst hr0
      rw [List.append_nil] at h3
      have holds : ∀ j u, ((flP l).map (Value.int .i64))[j]? = some u → w.cell? ((⟨g, 0, none⟩ : Addr).add j) = some u := by
        intro j u hu
        rw [Go.WideShapes.add_plain, Nat.zero_add, cell_of_row w g j _ _ _ h3]
        simpa [blk] using hu
      have hr := run_append_grow (P := P) w t ty e i _ ht hi1 hz ⟨g, 0, none⟩ l.length cap _ (by rw [hsz, List.length_map, flP_len]; omega) holds a 1 c _ hl hnews (by omega) (by omega) (growslice_fits (by omega) (by rw [hby]; omega))
      have hge := grownCap_ge w (l.length + 1) cap e
      refine ⟨_, _, hr, .inr ⟨_, _, zeroP (grownCap w (l.length + 1) cap e - (l.length + 1)), by rw [List.length_append]; rfl, hbase, ?_, by rw [List.length_append, zeroP_len]; simp; omega, grownCap_le_maxLen w (l.length + 1) cap e (by simp only [maxLen]; omega)⟩, ⟨rfl, rfl, rfl, by simp, fun k hk _ => heap_alloc_old w.drew _ hk⟩⟩
      have := heap_alloc_new w.drew (.cells (((flP l).map (Value.int .i64)).toArray ++ [Value.int .i64 x, .int .i64 y].toArray ++ Builtin.zeroCells (Value.agg #[.int .i64 0, .int .i64 0]).cells (grownCap w (l.length + 1) cap e - (l.length + 1))) e)
      rw [zero_two] at this
      rw [zero_two]
      refine this.trans ?_
      have e1 : [Value.int .i64 x, .int .i64 y].toArray = blk .i64 (flP [(x, y)]) := rfl
      have e2 : ((flP l).map (Value.int .i64)).toArray = blk .i64 (flP l) := rfl
      rw [e1, e2, blkP_cat, blkP_cat]

end
theorem box_two (w : World) (t : TypeId) (x y : Int) : ∀ j u, [Value.int .i64 x, .int .i64 y][j]? = some u → (w.alloc (.cells #[.int .i64 x, .int .i64 y] t)).cell? ((⟨w.heap.size, 0, none⟩ : Addr).add j) = some u := by
  intro j u hu
  rw [Go.WideShapes.add_plain, Nat.zero_add, World.cell?_alloc_at _ _ _ _ rfl]
  simpa using hu

end Go.Proofs.YtbdhhmhlcdganaaGreatDoor
namespace Go.Proofs.YtbdhhmhlcdganaaGreatDoor
open Go.RowKit Go.Maps Go.MapKept Go.ChangeMaps
open Go.WideElems (Fit rd rg pl rd_key rd_val rg_of)
set_option linter.unusedVariables false
set_option maxRecDepth 100000

def kS (s : ByteArray) : Lit := .string s.data.toList
theorem kS_key (s : ByteArray) : WideAt.IsKeyLit (kS s) := trivial
theorem kS_inj {s t : ByteArray} (h : kS s = kS t) : s = t := by
  unfold kS at h
  injection h with h
  apply ByteArray.ext
  exact Array.toList_inj.1 h
theorem kS_ne {s t : ByteArray} (h : sameN s t = false) : kS s ≠ kS t := fun e => by
  rw [kS_inj e, sameN_refl] at h; cases h
theorem kS_of (x : List UInt8) : kS ⟨x.toArray⟩ = .string x := by simp [kS]
def ptrV (g : Nat) : Value := .pointer (some ⟨g, 0, none⟩)
def ptrD (g : Nat) : DataW Unit := .lit (.int .i64 g)
def ptrR (v : Value) : Option (DataW Unit × List MemPlace) := match v with
  | .pointer (some ⟨g, 0, none⟩) => some (ptrD g, [])
  | _ => none
theorem ptrR_mk (g : Nat) : ptrR (.pointer (some ⟨g, 0, none⟩)) = some (ptrD g, []) := rfl
theorem ptrR_inv {v : Value} {y : DataW Unit × List MemPlace} (h : ptrR v = some y) : ∃ g, v = ptrV g ∧ y = (ptrD g, []) := by
  unfold ptrR at h
  split at h
  · injection h with h
    exact ⟨_, rfl, h.symm⟩
  · cases h
theorem ptrD_inj {g g' : Nat} (h : ptrD g = ptrD g') : g = g' := by
  unfold ptrD at h
  injection h with h
  injection h with h1 h2
  omega

def look (ps : List (ByteArray × Nat)) (s : ByteArray) : Option Nat := (ps.find? (fun p => sameN p.1 s)).map (·.2)
def strike (ps : List (ByteArray × Nat)) (s : ByteArray) : List (ByteArray × Nat) := ps.filter (fun p => !sameN p.1 s)
structure MapIs (D : DataW Unit) (ps : List (ByteArray × Nat)) : Prop where
  size : Maps.size D = ps.length
  has : ∀ s, Maps.has D (kS s) = ps.any (fun p => sameN p.1 s)
  at_ : ∀ p ∈ ps, ∀ z, D.atKey (kS p.1) z = ptrD p.2
  nd : ps.Pairwise (fun a b => sameN a.1 b.1 = false)
theorem MapIs.perm {D : DataW Unit} {ps ps' : List (ByteArray × Nat)} (h : MapIs D ps) (hp : ps.Perm ps') : MapIs D ps' :=
  ⟨h.size.trans hp.length_eq, fun s => (h.has s).trans (by
    rw [Bool.eq_iff_iff, List.any_eq_true, List.any_eq_true]
    exact ⟨fun ⟨p, h1, h2⟩ => ⟨p, hp.mem_iff.1 h1, h2⟩, fun ⟨p, h1, h2⟩ => ⟨p, hp.mem_iff.2 h1, h2⟩⟩), fun p hm => h.at_ p (hp.mem_iff.2 hm), (hp.pairwise_iff (fun {a b} hab => by rw [sameN_comm]; exact hab)).1 h.nd⟩
theorem MapIs.nil : MapIs (.map []) [] := ⟨rfl, fun _ => rfl, fun p h => absurd h (by simp), List.Pairwise.nil⟩
theorem look_mem {ps : List (ByteArray × Nat)} (h : ps.Pairwise (fun a b => sameN a.1 b.1 = false)) {p : ByteArray × Nat} (hp : p ∈ ps) : look ps p.1 = some p.2 := by
  induction ps with
  | nil => cases hp
  | cons a ps ih =>
    obtain ⟨h1, h2⟩ := List.pairwise_cons.1 h
    unfold look
    rw [List.find?_cons]
    rcases List.mem_cons.1 hp with rfl | hp
    · rw [sameN_refl]; rfl
    · rw [h1 p hp]; exact ih h2 hp
theorem look_none {ps : List (ByteArray × Nat)} {s : ByteArray} (h : ps.any (fun p => sameN p.1 s) = false) : look ps s = none := by
  unfold look
  rw [List.find?_eq_none.2 (fun p hp => List.any_eq_false.1 h p hp)]
  rfl
theorem strike_size {ps : List (ByteArray × Nat)} (h : ps.Pairwise (fun a b => sameN a.1 b.1 = false)) (s : ByteArray) : (strike ps s).length + (if ps.any (fun p => sameN p.1 s) then 1 else 0) = ps.length := by
  induction ps with
  | nil => rfl
  | cons a ps ih =>
    obtain ⟨h1, h2⟩ := List.pairwise_cons.1 h
    have ih := ih h2
    unfold strike at ih ⊢
    rw [List.filter_cons, List.any_cons, List.length_cons]
    cases hs : sameN a.1 s
    · simp only [Bool.not_false, if_true, List.length_cons, Bool.false_or]
      omega
    · have e := sameN_iff.1 hs
      have hn : ps.any (fun p => sameN p.1 s) = false := by
        rw [List.any_eq_false]
        intro p hp
        rw [← e, sameN_comm, h1 p hp]
        simp
      rw [hn] at ih
      simp only [Bool.not_true, Bool.false_eq_true, if_false, Nat.add_zero, Bool.true_or, if_true] at ih ⊢
      omega
theorem strike_any (ps : List (ByteArray × Nat)) (s t : ByteArray) : (strike ps s).any (fun p => sameN p.1 t) = (ps.any (fun p => sameN p.1 t) && !sameN t s) := by
  rw [Bool.eq_iff_iff]
  simp only [strike, List.any_eq_true, List.mem_filter, Bool.and_eq_true, Bool.not_eq_true']
  constructor
  · rintro ⟨p, ⟨h1, h2⟩, h3⟩
    exact ⟨⟨p, h1, h3⟩, by rw [← sameN_iff.1 h3]; exact h2⟩
  · rintro ⟨⟨p, h1, h3⟩, h2⟩
    exact ⟨p, ⟨h1, by rw [sameN_iff.1 h3]; exact h2⟩, h3⟩
theorem MapIs.put {D : DataW Unit} {ps : List (ByteArray × Nat)} (h : MapIs D ps) (ht : Tidy D) (s : ByteArray) (g : Nat) : MapIs (D.put (kS s) (ptrD g)) ((s, g) :: strike ps s) := by
  refine ⟨?_, fun t => ?_, fun p hp z => ?_, ?_⟩
  · rw [size_put ht, h.has, h.size, List.length_cons]
    have := strike_size h.nd s
    split <;> simp_all
  · rw [List.any_cons, strike_any]
    by_cases e : t = s
    · subst e
      rw [has_put_same ht.isMap (kS_key t), sameN_refl]; simp
    · have hn : sameN t s = false := by
        cases hh : sameN t s
        · rfl
        · exact absurd (sameN_iff.1 hh) e
      rw [has_put_other (kS_ne hn), h.has, hn, sameN_comm s t, hn]; simp
  · rcases List.mem_cons.1 hp with rfl | hp
    · exact atKey_put_same ht.isMap (kS_key _) _ _
    · obtain ⟨h1, h2⟩ := List.mem_filter.1 hp
      have hn : sameN p.1 s = false := by simpa using h2
      rw [atKey_put_other (kS_ne hn)]
      exact h.at_ p h1 z
  · refine List.pairwise_cons.2 ⟨fun p hp => ?_, h.nd.filter _⟩
    obtain ⟨h1, h2⟩ := List.mem_filter.1 hp
    rw [sameN_comm]
    simpa using h2
theorem MapIs.del {D : DataW Unit} {ps : List (ByteArray × Nat)} (h : MapIs D ps) (ht : Tidy D) (s : ByteArray) : MapIs (D.del (kS s)) (strike ps s) := by
  refine ⟨?_, fun t => ?_, fun p hp z => ?_, h.nd.filter _⟩
  · have h1 := size_del (k := kS s) ht
    have h2 := strike_size h.nd s
    rw [h.has, h.size] at h1
    omega
  · rw [strike_any]
    by_cases e : t = s
    · subst e
      rw [has_del_same, sameN_refl]; simp
    · have hn : sameN t s = false := by
        cases hh : sameN t s
        · rfl
        · exact absurd (sameN_iff.1 hh) e
      rw [has_del_other (kS_ne hn), h.has, hn]; simp
  · obtain ⟨h1, h2⟩ := List.mem_filter.1 hp
    have hn : sameN p.1 s = false := by simpa using h2
    rw [atKey_del_other (kS_ne hn)]
    exact h.at_ p h1 z

theorem lawS : Keyed Tryz.prog 9 := string_keyed Tryz.underlying9
theorem zeroF (w : World) : (zeroValue 76).run Tryz.prog w = .ok (.pointer none) w := by kernel_rfl
theorem keyS (s : ByteArray) (h : s.size ≤ maxLen) : keyOf Tryz.prog 9 (.string s) = some (kS s) := WideMaps.keyOf_string_mk Tryz.underlying9 h

def PMap (w : World) (b : Nat) (ps : List (ByteArray × Nat)) : Prop := ∃ D, w.ownsMap Tryz.prog 9 ptrR b ps.length D ∧ MapIs D ps
theorem own_tight {w : World} {b n : Nat} {D : DataW Unit} (h : w.ownsMap Tryz.prog 9 ptrR b n D) : w.ownsMap Tryz.prog 9 ptrR b (Maps.size D) D := by
  obtain ⟨es, clock, hb, F, _, rfl⟩ := h
  exact ⟨es, clock, hb, F, by rw [Maps.size_eq, length_read]; exact Nat.le_refl _, rfl⟩
theorem PMap.of {w : World} {b n : Nat} {D : DataW Unit} {ps : List (ByteArray × Nat)} (h : w.ownsMap Tryz.prog 9 ptrR b n D) (hi : MapIs D ps) : PMap w b ps := by
  have := own_tight h
  rw [hi.size] at this
  exact ⟨D, this, hi⟩
theorem PMap.perm {w : World} {b : Nat} {ps ps' : List (ByteArray × Nat)} (h : PMap w b ps) (hp : ps.Perm ps') : PMap w b ps' := by
  obtain ⟨D, h1, h2⟩ := h
  exact PMap.of h1 (h2.perm hp)
theorem PMap.lt {w : World} {b : Nat} {ps : List (ByteArray × Nat)} (h : PMap w b ps) : b < w.heap.size := h.choose_spec.1.lt
theorem PMap.nd {w : World} {b : Nat} {ps : List (ByteArray × Nat)} (h : PMap w b ps) : ps.Pairwise (fun a b => sameN a.1 b.1 = false) := h.choose_spec.2.nd
theorem PMap.same {w w' : World} {b : Nat} {ps : List (ByteArray × Nat)} (h : PMap w b ps) (e : w'.heap[b]? = w.heap[b]?) : PMap w' b ps := by
  obtain ⟨D, ⟨es, clock, hb, r⟩, hi⟩ := h
  exact ⟨D, ⟨es, clock, e.trans hb, r⟩, hi⟩
theorem PMap.made (w : World) : PMap (w.alloc (.map #[] 0)) w.heap.size [] := ⟨_, World.ownsMap_made _ _ _ _, MapIs.nil⟩
theorem PMap.block {w : World} {b : Nat} {ps : List (ByteArray × Nat)} (h : PMap w b ps) : ∃ es clock, w.heap[b]? = some (.map es clock) := by
  obtain ⟨D, ⟨es, clock, hb, _⟩, _⟩ := h
  exact ⟨es, clock, hb⟩
theorem PMap.lookup {w : World} {b : Nat} {ps : List (ByteArray × Nat)} (h : PMap w b ps) (s : ByteArray) :
    (Instr.lookup 36 (.map (some b)) (.string s) false).run Tryz.prog w = .ok (.pointer ((look ps s).map fun g => ⟨g, 0, none⟩)) w := by
  obtain ⟨D, ⟨es, clock, hb, F, hsz, rfl⟩, hi⟩ := h
  by_cases hs : s.size ≤ maxLen
  · rcases Maps.fit_look false lawS Tryz.underlying36 (zeroF w) hb F (keyS s hs) with ⟨hrun, _, hat⟩ | ⟨e0, y, _, _, hrun, hRv, hat, _⟩
    · have hf := has_false_of_atKey hat
      rw [hi.has] at hf
      rw [look_none hf]
      exact hrun
    · have hf := has_true_of_atKey hat
      rw [hi.has] at hf
      obtain ⟨p, hp, hps⟩ := List.any_eq_true.1 hf
      have e := sameN_iff.1 hps
      subst e
      obtain ⟨g, hg, hy⟩ := ptrR_inv hRv
      have e2 := hi.at_ p hp .nil
      rw [hat, hy] at e2
      rw [look_mem hi.nd hp, ← ptrD_inj e2]
      rw [hg] at hrun
      exact hrun
  · have hf : ps.any (fun p => sameN p.1 s) = false := by
      rw [List.any_eq_false]
      intro p hp hps
      have e := sameN_iff.1 hps
      subst e
      have hh := hi.has p.1
      rw [List.any_eq_true.2 ⟨p, hp, sameN_refl _⟩] at hh
      obtain ⟨q, hq, hqk⟩ := List.any_eq_true.1 hh
      obtain ⟨x, hx, rfl⟩ := List.mem_map.1 (mem_sorted.1 hq)
      obtain ⟨y, hy⟩ := F.reads x hx
      have hk := rd_key hy
      rw [rg_of hy] at hqk
      have e1 := WideAt.sameKey_eq hqk
      obtain ⟨z, _, hz, hzl⟩ := Maps.keyOf_str Tryz.underlying9 hk
      rw [hz] at e1
      unfold kS at e1
      injection e1 with e1
      rw [e1, Array.length_toList] at hzl
      exact hs hzl
    rw [look_none hf]
    have hk : IsKey .string (.string s) := trivial
    have hks : ∀ x ∈ es.toList, IsKey .string x.key := fun x hx => by
      obtain ⟨y, hy⟩ := F.reads x hx
      obtain ⟨z, hz, _⟩ := Maps.keyOf_str Tryz.underlying9 (rd_key hy)
      rw [hz]; trivial
    rcases findNow_spec hk es.toList 0 hks with ⟨h1, _⟩ | ⟨j, e, _, h2, h3⟩
    · simp [Instr.lookup, run_underlying Tryz.underlying36, MapKept.run_getObj_map hb, MapKept.run_checkKey Tryz.underlying9 hk, MapKept.run_findKey Tryz.underlying9 h1, Result.andThen]
    · obtain ⟨y, hy⟩ := F.reads e (List.mem_of_getElem? h2)
      obtain ⟨z, hz, _, hzl⟩ := Maps.keyOf_str Tryz.underlying9 (rd_key hy)
      rw [h3] at hz
      injection hz with hz
      rw [hz] at hs
      exact absurd (by simpa [ByteArray.size] using hzl) hs

theorem Frm.of_turned {w w' : World} {b : Nat} (h : w.mapTurned w' b) : Frm (fun x => x = b) w w' := by
  have := h.grown
  exact ⟨this.os, this.tape, this.output, this.size, fun k hk hn => this.block k hk (fun e => hn (by injection e))⟩
theorem Frm.of_grown {w w' : World} {r : Nat} (h : w.grownBy w' (some r)) : Frm (fun x => x = r) w w' := 
  ⟨h.os, h.tape, h.output, h.size, fun k hk hn => h.block k hk (fun e => hn (by injection e))⟩
section
variable (w : World) {ops : Array Oper} {rest : List Oper} {o : Oper} {a : Act} {Q : Exit → Act → World → Prop}
end
theorem PMap.drop {w : World} {b : Nat} {ps : List (ByteArray × Nat)} (h : PMap w b ps) (s : ByteArray) (hs : s.size ≤ maxLen) :
    ∃ w', (∀ ty, (Builtin.delete_ #[36, 9] ty #[.map (some b), .string s]).run Tryz.prog w = .ok (.tuple #[]) w') ∧ PMap w' b (strike ps s) ∧ Frm (fun y => y = b) w w' ∧ w'.heap.size = w.heap.size := by
  obtain ⟨D, h1, h2⟩ := h
  obtain ⟨w1, r0, r1, r2⟩ := h1.drop lawS Tryz.underlying36 (keyS s hs) 0
  refine ⟨w1, fun ty => ?_, PMap.of r1 (h2.del (h1.tidy lawS) s), Frm.of_turned r2, ?_⟩
  · exact r0
  · obtain ⟨_, _, _, _, _, rfl⟩ := r2
    simp [setBlock]
theorem PMap.len {w : World} {b : Nat} {ps : List (ByteArray × Nat)} (h : PMap w b ps) (ty : TypeId) : (Builtin.len_ #[36] ty #[.map (some b)]).run Tryz.prog w = .ok (.int .i64 ps.length) w := by
  obtain ⟨D, h1, h2⟩ := h
  rw [← h2.size]
  exact h1.len Tryz.underlying36 ty
end Go.Proofs.YtbdhhmhlcdganaaGreatDoor
namespace Go.Proofs.YtbdhhmhlcdganaaGreatDoor
open Go.RowKit
set_option linter.unusedVariables false
set_option maxRecDepth 100000

theorem RDx.drewN {w : World} {g : Nat} {fv : Value} {ms : List Fm} {d : Dv} (h : RDx w g fv ms d) (n : Nat) : RDx (w.drewN n) g fv ms d := h.below (bel_drewN w n)
end Go.Proofs.YtbdhhmhlcdganaaGreatDoor
namespace Go.Proofs.YtbdhhmhlcdganaaGreatDoor
open Go.RowKit
set_option linter.unusedVariables false
set_option maxRecDepth 100000

def doneB (d : Dv) : Bool := !decide (d.left = 0)
def doneD (d : Dv) : Dv := if d.left = 0 then { d with off := true } else spentD d
def thereE (d : Dv) (s : ByteArray) : Int := if d.off = true then 10 else match findD d.fs s with | none => 6 | some _ => 0
def thereK (d : Dv) (s : ByteArray) : Nat := if d.off = true then 0 else match findD d.fs s with | none => 0 | some k => k
end Go.Proofs.YtbdhhmhlcdganaaGreatDoor
namespace Go.Proofs.YtbdhhmhlcdganaaGreatDoor
open Go.RowKit
set_option linter.unusedVariables false
set_option maxRecDepth 100000

def FilesTo (g : Nat) (w : World) (ms : List Fm) (d : Dv) (e : Ending) (w' : World) : Prop :=
  e = .returned (.tuple #[]) ∧ ∃ fv, RDx w' g fv ms d ∧ Frm (fun b => b = g) w w' ∧ ∀ b, fv.ownBlock = some b → w.heap.size ≤ b

end Go.Proofs.YtbdhhmhlcdganaaGreatDoor
