/-
  Texts of the proof of ReplyKnown, joined.
-/
import Derived.Test.YtobhllcnljggiaaGreatJReplyKnownD
import Derived.Test.YtobhllcnljggiaaGreatJReplyKnownA
import Derived.Test.YtobhllcnljggiaaGreatProg
import Derived.Lib.Bytes
namespace Go.Proofs.YtobhllcnljggiaaGreat
open Go.RowKit
set_option linter.unusedVariables false

/-- The first k files as bytes, each behind its head. -/
def fbytes (fs : List (List Int)) : Nat → List Int
  | 0 => []
  | k + 1 => fbytes fs k ++ [((1 + 2 * (nthF fs k).length : Nat) : Int), 6] ++ wbytes (nthF fs k)
theorem partSays_any (n : Nat) (w : World) (h : n ≤ 127) : Calls Tryz.prog 100 #[.int .i64 n] w fun e w' => e = .returned (.int .u8 ((1 + 2 * n : Nat) : Int)) ∧ w' = w := by
  have e1 : IntKind.i64.wrap (2 * (n : Int)) = 2 * (n : Int) := IntWalk.i64_in _ (by omega)
  have e2 : IntKind.i64.wrap (1 + 2 * (n : Int)) = 1 + 2 * (n : Int) := IntWalk.i64_in _ (by omega)
  have e3 : IntKind.u8.wrap (1 + 2 * (n : Int)) = 1 + 2 * (n : Int) := by rw [IntKind.wrap_u8]; omega
  rw [show ((1 + 2 * n : Nat) : Int) = 1 + 2 * (n : Int) by omega]
  go_enter Tryz.func100, Tryz.ntmps100
  go_wp2
  go_ret
  exact ⟨rfl, rfl⟩
theorem fbytes_length (fs : List (List Int)) (k : Nat) (h : ∀ i, i < k → (nthF fs i).length ≤ 127) : (fbytes fs k).length ≤ 256 * k := by
  induction k with
  | zero => simp [fbytes]
  | succ k ih =>
    rw [fbytes, List.length_append, List.length_append, wbytes_length]
    have h1 := ih (fun i hi => h i (by omega))
    have h2 := h k (by omega)
    simp only [List.length_cons, List.length_nil]
    omega

set_option maxHeartbeats 2000000 in
set_option maxRecDepth 100000 in
theorem fileBytes_any (A : Option Addr) (n c : Nat) (fs : List (List Int)) (w : World) (hr : FRow w w.heap.size A fs) (hn : fs.length = n) (hb : n ≤ 100) (hl : ∀ i, i < n → (nthF fs i).length ≤ 127) :
    Calls Tryz.prog 82 #[.slice A n c] w (Makes .u8 5 w (fbytes fs n)) := by
  have HR := Lib.hid hr
  have HN := Lib.hid hn
  have HL := Lib.hid hl
  clear hr hn hl
  go_enter Tryz.func82, Tryz.ntmps82
  go_wp2
  go_loopw [3, 5, 8] (fun v _ i wr => ∃ k : Nat, k ≤ n ∧ i = .int .i64 k ∧ Own .u8 5 wr w.heap.size v (fbytes fs k) ∧ Below w.heap.size w wr) (fun _ _ i _ => n - (intOf i).toNat)
  case atStart => exact ⟨0, by omega, rfl, Own.nil _ _ _ _, Below.refl _ _⟩
  case round =>
    obtain ⟨k, hk, rfl, hown, hbel⟩ := hrel
    by_cases hlt : k < n
    · obtain ⟨b, o, Ai, ci, rfl, hb1, hc0, r0, hle⟩ := HR.out.at_ (i := k) (by have := HN.out; omega)
      have hc1 := (hbel.cell (p := ⟨b, o + k, none⟩) hb1).trans hc0
      clear hc0
      have hlen := HL.out k hlt
      have HB : Hid (fbytes fs (k + 1) = fbytes fs k ++ [((1 + 2 * (nthF fs k).length : Nat) : Int), 6] ++ wbytes (nthF fs k)) := Lib.hid rfl
      have HF : Hid ((fbytes fs k).length ≤ 25600) := Lib.hid (by have := fbytes_length fs k (fun i hi => HL.out i (by omega)); omega)
      generalize nthF fs k = xs at *
      obtain ⟨z, hz⟩ : ∃ z, Hid (xs.length = z) := ⟨_, Lib.hid rfl⟩
      rw [hz.out] at hc1 hlen HB hle
      obtain ⟨P, hP⟩ : ∃ P, Hid (fbytes fs k = P) := ⟨_, Lib.hid rfl⟩
      rw [hP.out] at hown HB HF
      have hsz := hbel.size
      have hz2 := hz.out
      obtain ⟨p, hp⟩ : ∃ p, Hid (((1 + 2 * z : Nat) : Int) = p) := ⟨_, Lib.hid rfl⟩
      have hwp : Hid (∀ y ∈ [p, 6], (Lit.int .u8 y).wf = true) := Lib.hid (by
        intro y hy
        simp only [List.mem_cons, List.not_mem_nil, or_false] at hy
        rcases hy with rfl | rfl
        · rw [← hp.out]; exact wf_byte _ (by omega)
        · decide)
      rw [hp.out] at HB
      obtain ⟨Av, nv, cv, hv⟩ := own_form hown
      subst hv
      have R0 := Lib.hid r0
      clear r0 hz2
      go_wp2_with fail
      refine (partSays_any z _ hlen).mono ?_
      rintro e w9 ⟨rfl, hw9⟩
      rw [hw9, hp.out]
      clear hw9
      go_wp2_with (at_builtin; refine wpList_append_row _ rfl (.tmp 12) (.tmp 16) 34 rfl w.heap.size .u8 5 1 Tryz.underlying34 info_u8 (.slice Av nv cv) P rfl (hown.alloc _) _ _ 2 2 [p, 6] rfl (Row.lit_at .u8 wr 5 [p, 6] hwp.out rfl) rfl (by have := HF.out; omega) (by have := HF.out; simp only [maxLen]; omega) (by simp; omega) ?_; intro v1 w1 hown1 hg1)
      have hbel1 := Below.own1 hbel hsz hown hg1
      have hsz1 := hbel1.size
      obtain ⟨Aw, nw, cw, hv⟩ := own_form hown1
      subst hv
      clear hown hg1 hc1
      go_wp2_with fail
      refine (Bytes_any Ai z ci xs _ ((R0.out.below hbel1).more hsz1) hz.out (by omega)).mono ?_
      rintro e w2 ⟨rfl, g2, b2⟩
      have hg2 := block_lt g2
      have hrow2 := Lib.hid ((Row.of_block g2 (wbytes xs) (wbytes_wf xs) (List.prefix_refl _)).more hg2)
      have own2 := hown1.below b2 (Nat.le_refl _)
      have hbel2 := hbel1.trans (b2.mono hsz1)
      have hsz2 := hbel2.size
      have HWL : Hid ((wbytes xs).length = 2 * z) := Lib.hid (by rw [wbytes_length, hz.out])
      clear hown1 g2 b2
      go_wp2_with (at_builtin; refine wpList_append_row _ rfl (.tmp 18) (.tmp 20) 34 rfl w.heap.size .u8 5 1 Tryz.underlying34 info_u8 (.slice Aw nw cw) (P ++ [p, 6]) rfl own2 _ _ (2 * z) (2 * z) (wbytes xs) rfl hrow2.out HWL.out (by have := HF.out; simp; omega) (by have := HF.out; simp [maxLen]; omega) hsz2 ?_; intro v3 w3 hown3 hg3)
      have hbel3 := Below.own hbel2 hsz2 own2 hg3
      rw [← HB.out] at hown3
      clear own2 hg3 hbel2
      (try go_wp2)
      go_roundw
      case rel => exact ⟨k + 1, by omega, by go_num, hown3, hbel3⟩
      case measure => simp [intOf]; omega
    · obtain rfl : k = n := by omega
      go_wp2
      go_ret
      exact ⟨_, rfl, hown, hbel⟩
end Go.Proofs.YtobhllcnljggiaaGreat
namespace Go.Proofs.YtobhllcnljggiaaGreat
open Go.RowKit
set_option linter.unusedVariables false

theorem fbytes_wf (fs : List (List Int)) (k : Nat) (h : ∀ i, i < k → (nthF fs i).length ≤ 127) : ∀ x ∈ fbytes fs k, (Lit.int .u8 x).wf = true := by
  induction k with
  | zero => simp [fbytes]
  | succ k ih =>
    intro x hx
    rw [fbytes] at hx
    rcases List.mem_append.1 hx with hx | hx
    · rcases List.mem_append.1 hx with hx | hx
      · exact ih (fun i hi => h i (by omega)) x hx
      · simp only [List.mem_cons, List.not_mem_nil, or_false] at hx
        rcases hx with rfl | rfl
        · exact wf_byte _ (by have := h k (by omega); omega)
        · decide
    · exact wbytes_wf _ x hx

set_option maxHeartbeats 1000000 in
set_option maxRecDepth 100000 in
theorem rpForm_file (q : Req) (r : Rep) (Ao As Ap Bo Bs Bf : Option Addr) (lo ls lp co cs cp mo ms mf eo es ef : Nat) (w : World) (h : Asked w w.heap.size q Ao As Ap lo ls lp) (hr : Repd w w.heap.size r Bo Bs Bf mo ms mf) (hc : q.c = 20) (hm : mf ≤ 100) (hl : ∀ i, i < mf → (nthF r.fs i).length ≤ 127) (hf : (fbytes r.fs mf).length ≤ 255) :
    Calls Tryz.prog 47 #[.agg #[.int .i64 q.c, .int .i64 q.a, .int .i64 q.n, .slice Ao lo co, .slice As ls cs, .slice Ap lp cp], .agg #[.int .i64 r.x, .slice Bo mo eo, .slice Bs ms es, .slice Bf mf ef]] w (Makes .u8 5 w (20 :: (((fbytes r.fs mf).length : Nat) : Int) :: fbytes r.fs mf)) := by
  obtain ⟨c, a, n, on, set, fl⟩ := q
  simp only at *
  subst hc
  have t0 := TB.new2 w #[.int .i64 20, .int .i64 a, .int .i64 n, .slice Ao lo co, .slice As ls cs, .slice Ap lp cp] #[.int .i64 r.x, .slice Bo mo eo, .slice Bs ms es, .slice Bf mf ef] 26 29
  have HFS := Lib.hid hr.fs
  have HMF := Lib.hid hr.mf
  have HL := Lib.hid hl
  have HW := Lib.hid (fbytes_wf r.fs mf hl)
  obtain ⟨m2, hm2⟩ : ∃ m2, (fbytes r.fs mf).length = m2 := ⟨_, rfl⟩
  have hm3 : m2 ≤ 255 := by omega
  have HM2 := Lib.hid hm2
  rw [hm2]
  obtain ⟨F, hF⟩ : ∃ F, Hid (fbytes r.fs mf = F) := ⟨_, Lib.hid rfl⟩
  rw [hF.out] at HM2 HW ⊢
  clear h hr hm2 hl hf
  go_enter Tryz.func47, Tryz.ntmps47
  go_wp2_with fail
  go_region_held3 (fun w' => TB w w.heap.size (.cells #[.int .i64 20, .int .i64 a, .int .i64 n, .slice Ao lo co, .slice As ls cs, .slice Ap lp cp] 26 (0, 0)) (.cells #[.int .i64 r.x, .slice Bo mo eo, .slice Bs ms es, .slice Bf mf ef] 29 (0, 0)) w' ∧ w'.cell? ⟨w.heap.size, 0, none⟩ = some (.int .i64 20) ∧ w'.cell? ⟨w.heap.size + 1, 0, none⟩ = some (.int .i64 r.x) ∧ w'.cell? ⟨w.heap.size + 1, 1, none⟩ = some (.slice Bo mo eo) ∧ w'.cell? ⟨w.heap.size + 1, 2, none⟩ = some (.slice Bs ms es) ∧ w'.cell? ⟨w.heap.size + 1, 3, none⟩ = some (.slice Bf mf ef))
    ((first
      | exact ⟨t0.drew, t0.drew.r6.1, t0.drew.c4.1, t0.drew.c4.2.1, t0.drew.c4.2.2.1, t0.drew.c4.2.2.2.1⟩
      | exact ⟨t2, t2.r6.1, t2.c4.1, t2.c4.2.1, t2.c4.2.2.1, t2.c4.2.2.2.1⟩
      | exact ⟨t1, t1.r6.1, t1.c4.1, t1.c4.2.1, t1.c4.2.2.1, t1.c4.2.2.2.1⟩))
    (first
      | (go_at_call 82; refine (fileBytes_any Bf mf ef r.fs _ ((HFS.out.below t0.drew.bel).more t0.drew.bel.size) HMF.out hm HL.out).mono ?_; rw [hF.out]; rintro e w1 ⟨v1, rfl, own1, b1⟩; have t1 := t0.drew.below b1; obtain ⟨A1, c1, hv1, row1, _, _⟩ := own1.row HW.out; rw [HM2.out] at hv1; subst hv1)
      | (go_at_call 79; refine (rpCounted_any _ _ m2 c1 F _ row1 HM2.out hm3 (by omega)).mono ?_; rintro e w2 ⟨v2, rfl, own2, b2⟩; have t2 := t1.below b2))
  go_wp2
  go_ret
  exact ⟨_, rfl, own2.mono (by have := t1.lt; omega), t2.bel⟩

set_option maxHeartbeats 1000000 in
set_option maxRecDepth 100000 in
theorem rpForm_echo (q : Req) (r : Rep) (Ao As Ap Bo Bs Bf : Option Addr) (lo ls lp co cs cp mo ms mf eo es ef : Nat) (w : World) (h : Asked w w.heap.size q Ao As Ap lo ls lp) (hr : Repd w w.heap.size r Bo Bs Bf mo ms mf) (hk : chkQ q = 0) (h5 : 5 ≤ (putL q).length) (n1 : q.c ≠ 1) (n2 : q.c ≠ 2) (n3 : q.c ≠ 3) (n4 : q.c ≠ 4) (n20 : q.c ≠ 20) :
    Calls Tryz.prog 47 #[.agg #[.int .i64 q.c, .int .i64 q.a, .int .i64 q.n, .slice Ao lo co, .slice As ls cs, .slice Ap lp cp], .agg #[.int .i64 r.x, .slice Bo mo eo, .slice Bs ms es, .slice Bf mf ef]] w (Makes .u8 5 w ((putL q).take 5)) := by
  have t0 := TB.new2 w #[.int .i64 q.c, .int .i64 q.a, .int .i64 q.n, .slice Ao lo co, .slice As ls cs, .slice Ap lp cp] #[.int .i64 r.x, .slice Bo mo eo, .slice Bs ms es, .slice Bf mf ef] 26 29
  have HE := Lib.hid (echo_any q Ao As Ap lo ls lp co cs cp _ ((h.below t0.bel).more t0.bel.size) hk h5)
  have b1 : (q.c == 1) = false := beq_false_of_ne n1
  have b2 : (q.c == 2) = false := beq_false_of_ne n2
  have b3 : (q.c == 3) = false := beq_false_of_ne n3
  have b4 : (q.c == 4) = false := beq_false_of_ne n4
  have b20 : (q.c == 20) = false := beq_false_of_ne n20
  have hsz := t0.bel.size
  have bel := t0.bel
  clear h hr hk h5 n1 n2 n3 n4 n20 t0
  go_enter Tryz.func47, Tryz.ntmps47
  go_wp2_with fail
  refine HE.out.mono ?_
  rintro e w2 ⟨v2, rfl, own2, b2⟩
  go_wp2
  go_ret
  exact ⟨_, rfl, own2.mono hsz, bel.trans (b2.mono hsz)⟩
end Go.Proofs.YtobhllcnljggiaaGreat
namespace Go.Proofs.YtobhllcnljggiaaGreat
open Go.RowKit
set_option linter.unusedVariables false

/-- The form of an answer that is right and no exception. -/
def formR (q : Req) (r : Rep) : List Int :=
  if q.c = 1 ∨ q.c = 2 then q.c :: ((need r.on.length : Nat) : Int) :: pk r.on (need r.on.length)
  else if q.c = 3 ∨ q.c = 4 then q.c :: 2 * (r.set.length : Int) :: wbytes r.set
  else if q.c = 20 then 20 :: (((fbytes r.fs r.fs.length).length : Nat) : Int) :: fbytes r.fs r.fs.length
  else (putL q).take 5
/-- An answer as a PDU. -/
def putR (q : Req) (r : Rep) : List Int := if chkR q r ≠ 0 then [] else if r.x ≠ 0 then [q.c + 128, r.x] else formR q r

theorem fits_true {fl : List Int} {fs : List (List Int)} (h : fitsB fl fs = true) : fl.length = 3 * fs.length ∧ ∀ i, i < fs.length → ((nthF fs i).length : Int) = nth fl (3 * i + 2) := by
  rw [fitsB, Bool.and_eq_true, decide_eq_true_eq, List.all_eq_true] at h
  exact ⟨h.1, fun i hi => of_decide_eq_true (h.2 i (List.mem_range.2 hi))⟩
theorem fbytes_sum (fl : List Int) (fs : List (List Int)) (k : Nat) (h : ∀ i, i < k → ((nthF fs i).length : Int) = nth fl (3 * i + 2)) : (((fbytes fs k).length : Nat) : Int) = sumTo fl k := by
  induction k with
  | zero => rfl
  | succ k ih =>
    rw [fbytes, sumTo, ← ih (fun i hi => h i (by omega)), ← h k (by omega), List.length_append, List.length_append, wbytes_length]
    simp only [List.length_cons, List.length_nil]
    omega
theorem sumTo_part (fl : List Int) (k : Nat) (h : ∀ i, i < k → 0 ≤ nth fl (3 * i + 2)) : (0 ≤ sumTo fl k) ∧ ∀ i, i < k → 2 + 2 * nth fl (3 * i + 2) ≤ sumTo fl k := by
  induction k with
  | zero => exact ⟨Int.le_refl _, fun i hi => absurd hi (by omega)⟩
  | succ k ih =>
    obtain ⟨h1, h2⟩ := ih (fun i hi => h i (by omega))
    have h3 := h k (by omega)
    rw [sumTo]
    refine ⟨by omega, fun i hi => ?_⟩
    rcases Nat.lt_succ_iff_lt_or_eq.1 hi with h4 | h4
    · have := h2 i h4; omega
    · subst h4; omega
/-- What a right answer that is no exception holds. -/
theorem chkR_zero {q : Req} {r : Rep} (h : chkR q r = 0) (hx : r.x = 0) : chkQ q = 0 ∧ manyB q r = true := by
  unfold chkR at h
  by_cases hk : chkQ q ≠ 0
  · rw [if_pos hk] at h; exact absurd h hk
  · rw [if_neg hk, if_neg (show ¬ r.x ≠ 0 by simp [hx])] at h
    refine ⟨by simpa using hk, ?_⟩
    split at h
    · cases h
    · split at h
      · cases h
      · rename_i h2; simpa using h2
theorem rep_bits {q : Req} {r : Rep} (h : chkR q r = 0) (hx : r.x = 0) (hc : q.c = 1 ∨ q.c = 2) : r.on.length ≤ 2000 := by
  obtain ⟨h1, h2⟩ := chkR_zero h hx
  have hz := (chk_zero h1).2.2.2.1
  unfold manyB at h2
  rw [if_pos hc] at h2
  have h2 := of_decide_eq_true h2
  rcases hc with hc | hc <;> rw [hc] at hz <;> simp [many, mm] at hz <;> omega
theorem rep_words {q : Req} {r : Rep} (h : chkR q r = 0) (hx : r.x = 0) (hc : q.c = 3 ∨ q.c = 4) : r.set.length ≤ 125 := by
  obtain ⟨h1, h2⟩ := chkR_zero h hx
  have hz := (chk_zero h1).2.2.2.1
  unfold manyB at h2
  rw [if_neg (show ¬ (q.c = 1 ∨ q.c = 2) by omega), if_pos hc] at h2
  have h2 := of_decide_eq_true h2
  rcases hc with hc | hc <;> rw [hc] at hz <;> simp [many, mm] at hz <;> omega
theorem rep_files {q : Req} {r : Rep} (h : chkR q r = 0) (hx : r.x = 0) (hc : q.c = 20) : r.fs.length ≤ 35 ∧ (∀ i, i < r.fs.length → (nthF r.fs i).length ≤ 127) ∧ (fbytes r.fs r.fs.length).length ≤ 255 := by
  obtain ⟨h1, h2⟩ := chkR_zero h hx
  have hz := chk_zero h1
  unfold manyB at h2
  rw [if_neg (show ¬ (q.c = 1 ∨ q.c = 2) by omega), if_neg (show ¬ (q.c = 3 ∨ q.c = 4) by omega), if_pos hc] at h2
  obtain ⟨hl, hi⟩ := fits_true h2
  obtain ⟨hok, hs⟩ := hz.2.2.2.2.1 hc
  have hm := hz.2.2.2.1
  rw [hc] at hm
  rw [show q.fl.length / 3 = r.fs.length by omega] at hok hs hm
  have hm2 : r.fs.length ≤ 35 := by simp [many, mm] at hm; omega
  have hp := sumTo_part q.fl r.fs.length (fun i h => by rw [← hi i h]; omega)
  have hsum := fbytes_sum q.fl r.fs r.fs.length hi
  exact ⟨hm2, fun i h => by have h3 := hp.2 i h; rw [← hi i h] at h3; omega, by omega⟩
theorem putL_five {q : Req} (h : chkQ q = 0) (n1 : q.c ≠ 20) : 5 ≤ (putL q).length := by
  have hm := (chk_zero h).1
  rw [putL, if_pos h, pduQ]
  unfold pduOf tl
  rcases mm_pos hm with h | h | h | h | h | h | h | h | h
  all_goals first | (exact absurd h n1) | (rw [h]; simp [wbytes_length]; done) | (simp [h, wbytes_length]; omega) | (simp [h, wbytes_length])

theorem rpForm_any (q : Req) (r : Rep) (Ao As Ap Bo Bs Bf : Option Addr) (lo ls lp co cs cp mo ms mf eo es ef : Nat) (w : World) (h : Asked w w.heap.size q Ao As Ap lo ls lp) (hr : Repd w w.heap.size r Bo Bs Bf mo ms mf) (hk : chkR q r = 0) (hx : r.x = 0) :
    Calls Tryz.prog 47 #[.agg #[.int .i64 q.c, .int .i64 q.a, .int .i64 q.n, .slice Ao lo co, .slice As ls cs, .slice Ap lp cp], .agg #[.int .i64 r.x, .slice Bo mo eo, .slice Bs ms es, .slice Bf mf ef]] w (Makes .u8 5 w (formR q r)) := by
  have hq := (chkR_zero hk hx).1
  unfold formR
  by_cases h1 : q.c = 1 ∨ q.c = 2
  · rw [if_pos h1, hr.mo]
    exact rpForm_bits q r Ao As Ap Bo Bs Bf lo ls lp co cs cp mo ms mf eo es ef w h hr h1 (by have := rep_bits hk hx h1; have := hr.mo; omega)
  · rw [if_neg h1]
    by_cases h2 : q.c = 3 ∨ q.c = 4
    · rw [if_pos h2, hr.ms]
      exact rpForm_words q r Ao As Ap Bo Bs Bf lo ls lp co cs cp mo ms mf eo es ef w h hr h2 (by have := rep_words hk hx h2; have := hr.ms; omega)
    · rw [if_neg h2]
      by_cases h3 : q.c = 20
      · obtain ⟨f1, f2, f3⟩ := rep_files hk hx h3
        rw [hr.mf] at f1 f2 f3
        rw [if_pos h3, hr.mf]
        exact rpForm_file q r Ao As Ap Bo Bs Bf lo ls lp co cs cp mo ms mf eo es ef w h hr h3 (by omega) f2 f3
      · rw [if_neg h3]
        exact rpForm_echo q r Ao As Ap Bo Bs Bf lo ls lp co cs cp mo ms mf eo es ef w h hr hq (putL_five hq h3) (by omega) (by omega) (by omega) (by omega) h3
end Go.Proofs.YtobhllcnljggiaaGreat
namespace Go.Proofs.YtobhllcnljggiaaGreat
open Go.RowKit
set_option linter.unusedVariables false

/-- How many words the i-th part asks for, and where its head stands in the answer. -/
def lenF (fl : List Int) (i : Nat) : Nat := (nth fl (3 * i + 2)).toNat
def posF (fl : List Int) : Nat → Nat
  | 0 => 2
  | k + 1 => posF fl k + (2 + 2 * lenF fl k)
def fileAt (fl ys : List Int) (i : Nat) : List Int := wwords ((ys.drop (posF fl i + 2)).take (2 * lenF fl i))
def headAt (fl ys : List Int) (i : Nat) : Bool := decide (nth ys (posF fl i) = ((1 + 2 * lenF fl i : Nat) : Int)) && decide (nth ys (posF fl i + 1) = 6)
def filesR (fl ys : List Int) (k : Nat) : List (List Int) := (List.range k).map (fileAt fl ys)
def headsR (fl ys : List Int) : Nat → Bool
  | 0 => true
  | k + 1 => headsR fl ys k && headAt fl ys k
/-- How many bytes each answer to a right request has that is no exception. -/
def sizeR (q : Req) : Nat := if q.c = 1 ∨ q.c = 2 then 2 + need q.n.toNat else if q.c = 3 ∨ q.c = 4 then 2 + 2 * q.n.toNat else if q.c = 20 then posF q.fl (q.fl.length / 3) else 5
/-- Are bytes of the right code and size an answer, and which one? -/
def rdOkR (q : Req) (ys : List Int) : Bool :=
  if q.c = 1 ∨ q.c = 2 then decide (nth ys 1 = ((need q.n.toNat : Nat) : Int)) && !spareB (ys.drop 2) q.n.toNat
  else if q.c = 3 ∨ q.c = 4 then decide (nth ys 1 = ((2 * q.n.toNat : Nat) : Int))
  else if q.c = 20 then decide (nth ys 1 = ((ys.length - 2 : Nat) : Int)) && headsR q.fl ys (q.fl.length / 3)
  else decide (ys = (putL q).take 5)
def rdR (q : Req) (ys : List Int) : Rep :=
  if q.c = 1 ∨ q.c = 2 then ⟨0, unpk (ys.drop 2) q.n.toNat, [], []⟩
  else if q.c = 3 ∨ q.c = 4 then ⟨0, [], wwords (ys.drop 2), []⟩
  else if q.c = 20 then ⟨0, [], [], filesR q.fl ys (q.fl.length / 3)⟩
  else Rep.zero
/-- What is wrong with bytes as an answer, and what they say. -/
def getRE (q : Req) (ys : List Int) : Int :=
  if chkQ q ≠ 0 then chkQ q else if ys.length = 0 then 1
  else if nth ys 0 = q.c + 128 then (if ys.length < 2 then 1 else if 2 < ys.length then 2 else if 1 ≤ nth ys 1 ∧ nth ys 1 ≤ 127 then 0 else 3)
  else if nth ys 0 = q.c then (if ys.length < sizeR q then 1 else if sizeR q < ys.length then 2 else if rdOkR q ys = true then 0 else 4)
  else 20
def getR (q : Req) (ys : List Int) : Rep := if getRE q ys ≠ 0 then Rep.zero else if nth ys 0 = q.c + 128 then ⟨nth ys 1, [], [], []⟩ else rdR q ys

theorem right_bits {q : Req} (hk : chkQ q = 0) (hc : q.c = 1 ∨ q.c = 2) : 1 ≤ q.n ∧ q.n ≤ 2000 := by
  have hz := (chk_zero hk).2.2.2.1
  rcases hc with hc | hc <;> rw [hc] at hz <;> simp [many, mm] at hz <;> omega
theorem right_words {q : Req} (hk : chkQ q = 0) (hc : q.c = 3 ∨ q.c = 4) : 1 ≤ q.n ∧ q.n ≤ 125 := by
  have hz := (chk_zero hk).2.2.2.1
  rcases hc with hc | hc <;> rw [hc] at hz <;> simp [many, mm] at hz <;> omega
theorem posF_sum (fl : List Int) (k : Nat) (h : ∀ i, i < k → 0 ≤ nth fl (3 * i + 2)) : (posF fl k : Int) = 2 + sumTo fl k := by
  induction k with
  | zero => rfl
  | succ k ih =>
    have := ih (fun i hi => h i (by omega))
    have := h k (by omega)
    rw [posF, sumTo, lenF]
    omega
theorem posF_two (fl : List Int) (k : Nat) : 2 ≤ posF fl k := by
  induction k with
  | zero => exact Nat.le_refl _
  | succ k ih => rw [posF]; omega
theorem posF_lt (fl : List Int) {i k : Nat} (h : i < k) : posF fl i + (2 + 2 * lenF fl i) ≤ posF fl k := by
  induction k with
  | zero => omega
  | succ k ih =>
    rw [posF]
    rcases Nat.lt_succ_iff_lt_or_eq.1 h with h1 | h1
    · have := ih h1; omega
    · subst h1; omega
theorem right_files {q : Req} (hk : chkQ q = 0) (hc : q.c = 20) : (1 ≤ q.fl.length / 3 ∧ q.fl.length / 3 ≤ 35) ∧ (∀ i, i < q.fl.length / 3 → 1 ≤ nth q.fl (3 * i + 2)) ∧ posF q.fl (q.fl.length / 3) ≤ 247 := by
  have hz := chk_zero hk
  obtain ⟨hok, hs⟩ := hz.2.2.2.2.1 hc
  have hm := hz.2.2.2.1
  rw [hc] at hm
  have h1 : ∀ i, i < q.fl.length / 3 → 1 ≤ nth q.fl (3 * i + 2) := fun i hi => ((inPl_iff _ _ _).1 (allOk_le hok i hi)).2.2.1
  have h2 := posF_sum q.fl (q.fl.length / 3) (fun i hi => by have := h1 i hi; omega)
  refine ⟨by simp [many, mm] at hm; omega, h1, by omega⟩

theorem filesR_length (fl ys : List Int) (k : Nat) : (filesR fl ys k).length = k := by simp [filesR]
theorem filesR_nth (fl ys : List Int) (k i : Nat) (h : i < k) : nthF (filesR fl ys k) i = fileAt fl ys i := by
  simp [nthF, filesR, List.getD_eq_getElem?_getD, h]
theorem fileAt_length (fl ys : List Int) (i : Nat) (h : posF fl i + (2 + 2 * lenF fl i) ≤ ys.length) : (fileAt fl ys i).length = lenF fl i := by
  rw [fileAt, wwords_length, List.length_take, List.length_drop]; omega
theorem headsR_le {fl ys : List Int} {n : Nat} (h : headsR fl ys n = true) : ∀ i, i < n → headAt fl ys i = true := by
  induction n with
  | zero => intro i hi; omega
  | succ n ih =>
    rw [headsR, Bool.and_eq_true] at h
    intro i hi
    rcases Nat.lt_succ_iff_lt_or_eq.1 hi with h1 | h1
    · exact ih h.1 i h1
    · subst h1; exact h.2
theorem headsR_of {fl ys : List Int} {n : Nat} (h : ∀ i, i < n → headAt fl ys i = true) : headsR fl ys n = true := by
  induction n with
  | zero => rfl
  | succ n ih => rw [headsR, Bool.and_eq_true]; exact ⟨ih fun i hi => h i (by omega), h n (by omega)⟩
theorem headsR_no {fl ys : List Int} {n i : Nat} (hi : i < n) (h : headAt fl ys i = false) : headsR fl ys n = false := by
  cases hh : headsR fl ys n with
  | false => rfl
  | true => rw [headsR_le hh i hi] at h; cases h
theorem headAt_iff {fl ys : List Int} {i : Nat} : headAt fl ys i = true ↔ nth ys (posF fl i) = ((1 + 2 * lenF fl i : Nat) : Int) ∧ nth ys (posF fl i + 1) = 6 := by
  rw [headAt, Bool.and_eq_true, decide_eq_true_eq, decide_eq_true_eq]

theorem drop_two {ys : List Int} {p : Nat} (h : p + 2 ≤ ys.length) : ys.drop p = nth ys p :: nth ys (p + 1) :: ys.drop (p + 2) := by
  rw [List.drop_eq_getElem_cons (by omega), List.drop_eq_getElem_cons (by omega), nth_eq ys p (by omega), nth_eq ys (p + 1) (by omega)]
theorem take_cut (l : List Int) (a b : Nat) : l.take (a + b) = l.take a ++ (l.drop a).take b := by
  rw [List.take_add]
/-- The files that bytes say become these bytes. -/
theorem fbytes_filesR (fl ys : List Int) (hw : ∀ x ∈ ys, (Lit.int .u8 x).wf = true) (n k : Nat) (hk : k ≤ n) (hh : headsR fl ys k = true) (hl : posF fl k ≤ ys.length) : fbytes (filesR fl ys n) k = (ys.drop 2).take (posF fl k - 2) := by
  induction k with
  | zero => rfl
  | succ k ih =>
    rw [posF] at hl
    have h2 := posF_two fl k
    rw [headsR, Bool.and_eq_true] at hh
    obtain ⟨e1, e2⟩ := headAt_iff.1 hh.2
    have hX : wbytes (fileAt fl ys k) = (ys.drop (posF fl k + 2)).take (2 * lenF fl k) := by
      rw [fileAt, wbytes_wwords _ (fun x hx => hw x (List.mem_of_mem_drop (List.mem_of_mem_take hx))) (by rw [List.length_take, List.length_drop]; omega)]
    rw [fbytes, ih (by omega) hh.1 (by omega), filesR_nth _ _ _ _ (by omega), fileAt_length _ _ _ (by omega), hX, posF, show posF fl k + (2 + 2 * lenF fl k) - 2 = (posF fl k - 2) + (2 + 2 * lenF fl k) by omega, take_cut, List.drop_drop, show 2 + (posF fl k - 2) = posF fl k by omega, List.append_assoc, drop_two (p := posF fl k) (by omega), e1, e2,
      show 2 + 2 * lenF fl k = 2 * lenF fl k + 1 + 1 by omega, List.take_succ_cons, List.take_succ_cons]
    rfl
theorem fbytes_len (fl : List Int) (fs : List (List Int)) (k : Nat) (h : ∀ i, i < k → (nthF fs i).length = lenF fl i) : (fbytes fs k).length + 2 = posF fl k := by
  induction k with
  | zero => rfl
  | succ k ih =>
    have := ih (fun i hi => h i (by omega))
    have := h k (by omega)
    rw [fbytes, posF, List.length_append, List.length_append, wbytes_length]
    simp only [List.length_cons, List.length_nil]
    omega
theorem fbytes_split (fs : List (List Int)) (n i : Nat) (h : i < n) : ∃ rest, fbytes fs n = fbytes fs i ++ (((1 + 2 * (nthF fs i).length : Nat) : Int) :: 6 :: (wbytes (nthF fs i) ++ rest)) := by
  induction n with
  | zero => omega
  | succ n ih =>
    rcases Nat.lt_succ_iff_lt_or_eq.1 h with h1 | h1
    · obtain ⟨rest, hr⟩ := ih h1
      exact ⟨rest ++ [((1 + 2 * (nthF fs n).length : Nat) : Int), 6] ++ wbytes (nthF fs n), by rw [fbytes, hr]; simp⟩
    · subst h1
      exact ⟨[], by rw [fbytes]; simp⟩
/-- What files become says these files. -/
theorem filesR_fbytes (fl : List Int) (fs : List (List Int)) (n : Nat) (a b : Int) (hn : fs.length = n) (h : ∀ i, i < n → (nthF fs i).length = lenF fl i) (hw : ∀ xs ∈ fs, ∀ x ∈ xs, (Lit.int .u16 x).wf = true) :
    headsR fl (a :: b :: fbytes fs n) n = true ∧ filesR fl (a :: b :: fbytes fs n) n = fs := by
  have key : ∀ i, i < n → ∃ rest, (a :: b :: fbytes fs n).drop (posF fl i) = ((1 + 2 * lenF fl i : Nat) : Int) :: 6 :: (wbytes (nthF fs i) ++ rest) := by
    intro i hi
    obtain ⟨rest, hr⟩ := fbytes_split fs n i hi
    have hl := fbytes_len fl fs i (fun j hj => h j (by omega))
    refine ⟨rest, ?_⟩
    rw [← hl, hr, h i hi]
    rw [List.drop_succ_cons, List.drop_succ_cons, List.drop_left]
  have hd : ∀ i, i < n → headAt fl (a :: b :: fbytes fs n) i = true := by
    intro i hi
    obtain ⟨rest, hr⟩ := key i hi
    have e0 := nth_drop (a :: b :: fbytes fs n) (posF fl i) 0
    have e1 := nth_drop (a :: b :: fbytes fs n) (posF fl i) 1
    rw [hr] at e0 e1
    exact headAt_iff.2 ⟨e0.symm, e1.symm⟩
  refine ⟨headsR_of hd, ?_⟩
  refine List.ext_getElem (by rw [filesR_length, hn]) fun i h1 h2 => ?_
  have hi : i < n := by rw [filesR_length] at h1; exact h1
  obtain ⟨rest, hr⟩ := key i hi
  have e1 : nthF fs i = fs[i] := by simp [nthF, List.getD_eq_getElem?_getD, List.getElem?_eq_getElem h2]
  simp only [filesR, List.getElem_map, List.getElem_range]
  rw [fileAt, ← List.drop_drop, hr, List.drop_succ_cons, List.drop_succ_cons, List.drop_zero, ← h i hi, List.take_left' (by rw [wbytes_length]), e1, wwords_wbytes _ (hw _ (List.getElem_mem h2))]

/-- An answer's parts lie behind one another: what is wrong first, and what is not. -/
theorem repN_stray {q : Req} {r : Rep} (h : chkR q r = 0) (hx : r.x = 0) : (¬ (q.c = 1 ∨ q.c = 2) → r.on = []) ∧ (¬ (q.c = 3 ∨ q.c = 4) → r.set = []) ∧ (q.c ≠ 20 → r.fs = []) := by
  unfold chkR at h
  by_cases hk : chkQ q ≠ 0
  · rw [if_pos hk] at h; exact absurd h hk
  · rw [if_neg hk, if_neg (show ¬ r.x ≠ 0 by simp [hx])] at h
    by_cases hs : strayB q.c r.on.length r.set.length r.fs.length = true
    · rw [if_pos hs] at h; cases h
    · simp only [strayB, anyB, Bool.or_eq_true, decide_eq_true_eq, not_or, Nat.not_lt, Nat.le_zero] at hs
      obtain ⟨⟨h1, h2⟩, h3⟩ := hs
      refine ⟨fun g => ?_, fun g => ?_, fun g => ?_⟩
      · rw [if_neg g] at h1; exact List.eq_nil_of_length_eq_zero h1
      · rw [if_neg g] at h2; exact List.eq_nil_of_length_eq_zero h2
      · rw [if_neg g] at h3; exact List.eq_nil_of_length_eq_zero h3
theorem chkR_exc {q : Req} {r : Rep} (h : chkR q r = 0) (hx : r.x ≠ 0) : chkQ q = 0 ∧ (1 ≤ r.x ∧ r.x ≤ 127) ∧ r.on = [] ∧ r.set = [] ∧ r.fs = [] := by
  unfold chkR at h
  by_cases hk : chkQ q ≠ 0
  · rw [if_pos hk] at h; exact absurd h hk
  · rw [if_neg hk, if_pos hx] at h
    split at h
    · rename_i h1
      split at h
      · cases h
      · rename_i h2
        simp only [anyB, Bool.or_eq_true, decide_eq_true_eq, not_or, Nat.not_lt, Nat.le_zero] at h2
        exact ⟨Decidable.not_not.1 hk, h1, List.eq_nil_of_length_eq_zero h2.1.1, List.eq_nil_of_length_eq_zero h2.1.2, List.eq_nil_of_length_eq_zero h2.2⟩
    · cases h
theorem chkR_q {q : Req} {r : Rep} (h : chkR q r = 0) : chkQ q = 0 := by
  by_cases hx : r.x = 0
  · exact (chkR_zero h hx).1
  · exact (chkR_exc h hx).1
theorem rep_lens {q : Req} {r : Rep} (h : chkR q r = 0) (hx : r.x = 0) : (q.c = 1 ∨ q.c = 2 → (r.on.length : Int) = q.n) ∧ (q.c = 3 ∨ q.c = 4 → (r.set.length : Int) = q.n) ∧ (q.c = 20 → q.fl.length / 3 = r.fs.length ∧ ∀ i, i < r.fs.length → (nthF r.fs i).length = lenF q.fl i) := by
  have h2 := (chkR_zero h hx).2
  unfold manyB at h2
  refine ⟨fun hc => ?_, fun hc => ?_, fun hc => ?_⟩
  · rw [if_pos hc] at h2; exact of_decide_eq_true h2
  · rw [if_neg (by omega), if_pos hc] at h2; exact of_decide_eq_true h2
  · rw [if_neg (by omega), if_neg (by omega), if_pos hc] at h2
    obtain ⟨hl, hi⟩ := fits_true h2
    exact ⟨by omega, fun i h => by have := hi i h; rw [lenF]; omega⟩
theorem putL_head {q : Req} (hk : chkQ q = 0) : nth ((putL q).take 5) 0 = q.c := by
  rw [putL, if_pos hk]; rfl
theorem putL_take {q : Req} (hk : chkQ q = 0) (n1 : q.c ≠ 20) : ((putL q).take 5).length = 5 := by
  have := putL_five hk n1
  rw [List.length_take]; omega
/-- The form of a right answer: its size, its code. -/
theorem formR_size {q : Req} {r : Rep} (h : chkR q r = 0) (hx : r.x = 0) : (formR q r).length = sizeR q ∧ nth (formR q r) 0 = q.c ∧ 2 ≤ sizeR q ∧ sizeR q ≤ 253 := by
  have hq := chkR_q h
  obtain ⟨l1, l2, l3⟩ := rep_lens h hx
  unfold formR sizeR
  by_cases h1 : q.c = 1 ∨ q.c = 2
  · have := right_bits hq h1
    have := l1 h1
    rw [if_pos h1, if_pos h1]
    simp only [List.length_cons, pk_length]
    have e : r.on.length = q.n.toNat := by omega
    rw [e]
    refine ⟨by omega, rfl, by omega, by unfold need; omega⟩
  · rw [if_neg h1, if_neg h1]
    by_cases h2 : q.c = 3 ∨ q.c = 4
    · have := right_words hq h2
      have := l2 h2
      rw [if_pos h2, if_pos h2]
      simp only [List.length_cons, wbytes_length]
      exact ⟨by omega, rfl, by omega, by omega⟩
    · rw [if_neg h2, if_neg h2]
      by_cases h3 : q.c = 20
      · obtain ⟨f1, f2, f3⟩ := right_files hq h3
        obtain ⟨e, hl⟩ := l3 h3
        have hb := fbytes_len q.fl r.fs r.fs.length hl
        rw [if_pos h3, if_pos h3, e]
        simp only [List.length_cons]
        have := posF_two q.fl r.fs.length
        rw [e] at f3
        exact ⟨by omega, h3.symm, by omega, by omega⟩
      · rw [if_neg h3, if_neg h3]
        exact ⟨putL_take hq h3, putL_head hq, by omega, by omega⟩
theorem rd_formR {q : Req} {r : Rep} (h : chkR q r = 0) (hx : r.x = 0) (hset : ∀ x ∈ r.set, (Lit.int .u16 x).wf = true) (hfs : ∀ xs ∈ r.fs, ∀ x ∈ xs, (Lit.int .u16 x).wf = true) : rdOkR q (formR q r) = true ∧ rdR q (formR q r) = r := by
  have hq := chkR_q h
  obtain ⟨l1, l2, l3⟩ := rep_lens h hx
  obtain ⟨s1, s2, s3⟩ := repN_stray h hx
  obtain ⟨x, on, set, fs⟩ := r
  simp only at hx l1 l2 l3 s1 s2 s3 hset hfs
  subst hx
  unfold rdOkR rdR formR
  by_cases h1 : q.c = 1 ∨ q.c = 2
  · have := right_bits hq h1
    have := l1 h1
    have e : q.n.toNat = on.length := by omega
    obtain rfl := s2 (by omega)
    obtain rfl := s3 (by omega)
    simp only [if_pos h1, e]
    rw [List.drop_succ_cons, List.drop_succ_cons, List.drop_zero, unpk_pk]
    refine ⟨?_, rfl⟩
    rw [Bool.and_eq_true]
    refine ⟨decide_eq_true rfl, ?_⟩
    have hn := no_spare_pk on
    rw [← spareB_iff] at hn
    simpa using hn
  · simp only [if_neg h1]
    by_cases h2 : q.c = 3 ∨ q.c = 4
    · have := right_words hq h2
      have := l2 h2
      obtain rfl := s1 h1
      obtain rfl := s3 (by omega)
      simp only [if_pos h2]
      rw [List.drop_succ_cons, List.drop_succ_cons, List.drop_zero, wwords_wbytes _ hset]
      exact ⟨decide_eq_true (by show 2 * (set.length : Int) = _; omega), rfl⟩
    · simp only [if_neg h2]
      by_cases h3 : q.c = 20
      · obtain rfl := s1 h1
        obtain rfl := s2 h2
        obtain ⟨e, hl⟩ := l3 h3
        obtain ⟨g1, g2⟩ := filesR_fbytes q.fl fs fs.length 20 (((fbytes fs fs.length).length : Nat) : Int) rfl hl hfs
        simp only [if_pos h3, e]
        rw [g1, g2]
        refine ⟨?_, rfl⟩
        rw [Bool.and_true]
        exact decide_eq_true (by simp only [List.length_cons]; rfl)
      · obtain rfl := s1 h1
        obtain rfl := s2 h2
        obtain rfl := s3 h3
        simp only [if_neg h3]
        exact ⟨by simp, rfl⟩

/-- What was made of an answer is read as that answer. -/
theorem getR_putR {q : Req} {r : Rep} (h : chkR q r = 0) (hset : ∀ x ∈ r.set, (Lit.int .u16 x).wf = true) (hfs : ∀ xs ∈ r.fs, ∀ x ∈ xs, (Lit.int .u16 x).wf = true) : getRE q (putR q r) = 0 ∧ getR q (putR q r) = r ∧ 2 ≤ (putR q r).length ∧ (putR q r).length ≤ 253 := by
  have hq := chkR_q h
  by_cases hx : r.x = 0
  · obtain ⟨f1, f2, f3, f4⟩ := formR_size h hx
    obtain ⟨g1, g2⟩ := rd_formR h hx hset hfs
    have hP : putR q r = formR q r := by unfold putR; rw [if_neg (by rw [h]; simp), if_neg (by simp [hx])]
    rw [hP]
    have hE : getRE q (formR q r) = 0 := by
      unfold getRE
      rw [if_neg (by rw [hq]; simp), if_neg (by omega), if_neg (by omega), if_pos f2, if_neg (by omega), if_neg (by omega), if_pos g1]
    refine ⟨hE, ?_, by omega, by omega⟩
    unfold getR
    rw [if_neg (by rw [hE]; simp), if_neg (by omega), g2]
  · obtain ⟨_, e1, e2, e3, e4⟩ := chkR_exc h hx
    have hP : putR q r = [q.c + 128, r.x] := by unfold putR; rw [if_neg (by rw [h]; simp), if_pos hx]
    rw [hP]
    have hE : getRE q [q.c + 128, r.x] = 0 := by
      unfold getRE
      rw [if_neg (by rw [hq]; simp), if_neg (by simp), if_pos (show nth [q.c + 128, r.x] 0 = q.c + 128 from rfl), if_neg (by simp), if_neg (by simp), if_pos (show 1 ≤ nth [q.c + 128, r.x] 1 ∧ nth [q.c + 128, r.x] 1 ≤ 127 from e1)]
    refine ⟨hE, ?_, by simp, by simp⟩
    unfold getR
    rw [if_neg (by rw [hE]; simp), if_pos (show nth [q.c + 128, r.x] 0 = q.c + 128 from rfl)]
    obtain ⟨x, on, set, fs⟩ := r
    simp only at e2 e3 e4
    subst e2 e3 e4
    rfl
/-- The code of a right answer's bytes says how many there are. -/
theorem putR_head {q : Req} {r : Rep} (h : chkR q r = 0) : (nth (putR q r) 0 = q.c + 128 ∧ (putR q r).length = 2) ∨ (nth (putR q r) 0 = q.c ∧ (putR q r).length = sizeR q) := by
  by_cases hx : r.x = 0
  · obtain ⟨f1, f2, _⟩ := formR_size h hx
    have hP : putR q r = formR q r := by unfold putR; rw [if_neg (by rw [h]; simp), if_neg (by simp [hx])]
    rw [hP]; exact .inr ⟨f2, f1⟩
  · have hP : putR q r = [q.c + 128, r.x] := by unfold putR; rw [if_neg (by rw [h]; simp), if_pos hx]
    rw [hP]; exact .inl ⟨rfl, rfl⟩
theorem getRE_take {q : Req} {r : Rep} (h : chkR q r = 0) (k : Nat) (hk : k < (putR q r).length) : getRE q ((putR q r).take k) = 1 := by
  have hq := chkR_q h
  have hl : ((putR q r).take k).length = k := by rw [List.length_take]; omega
  unfold getRE
  rw [if_neg (by rw [hq]; simp), hl]
  by_cases k0 : k = 0
  · rw [if_pos k0]
  · rw [if_neg k0, nth_pre _ _ _ (by omega)]
    rcases putR_head h with ⟨e1, e2⟩ | ⟨e1, e2⟩
    · rw [if_pos e1, if_pos (by omega)]
    · rw [if_neg (by omega), if_pos e1, if_pos (by omega)]
theorem getRE_more {q : Req} {r : Rep} (h : chkR q r = 0) (hp : 2 ≤ (putR q r).length) (x : Int) : getRE q (putR q r ++ [x]) = 2 := by
  have hq := chkR_q h
  have hl : (putR q r ++ [x]).length = (putR q r).length + 1 := by simp
  unfold getRE
  rw [if_neg (by rw [hq]; simp), hl, if_neg (by omega), nth_left _ _ _ (by omega)]
  rcases putR_head h with ⟨e1, e2⟩ | ⟨e1, e2⟩
  · rw [if_pos e1, if_neg (by omega), if_pos (by omega)]
  · rw [if_neg (by omega), if_pos e1, if_neg (by omega), if_pos (by omega)]

theorem zeroR_lists : (Rep.zero).on = [] ∧ (Rep.zero).set = [] ∧ (Rep.zero).fs = [] ∧ (Rep.zero).x = 0 := ⟨rfl, rfl, rfl, rfl⟩
/-- What bytes of the right size say may be an answer. -/
theorem chkR_rdR {q : Req} {ys : List Int} (hq : chkQ q = 0) (h3 : q.fl.length % 3 = 0) (hl : ys.length = sizeR q) : chkR q (rdR q ys) = 0 := by
  unfold chkR rdR manyB
  rw [if_neg (by rw [hq]; simp)]
  unfold sizeR at hl
  by_cases h1 : q.c = 1 ∨ q.c = 2
  · have := right_bits hq h1
    simp only [if_pos h1, unpk_length]
    rw [if_neg (by simp), if_neg (by simp [strayB, anyB, h1]), if_neg (by simp; omega)]
  · simp only [if_neg h1] at hl ⊢
    by_cases h2 : q.c = 3 ∨ q.c = 4
    · have := right_words hq h2
      simp only [if_pos h2, wwords_length, List.length_drop] at hl ⊢
      rw [if_neg (by simp), if_neg (by simp [strayB, anyB, h2]), if_neg (by simp; omega)]
    · simp only [if_neg h2] at hl ⊢
      by_cases h20 : q.c = 20
      · obtain ⟨f1, f2, f3⟩ := right_files hq h20
        simp only [if_pos h20] at hl ⊢
        rw [if_neg (by simp), if_neg (by simp [strayB, anyB, h20]), if_neg]
        rw [fitsB_yes (by rw [filesR_length]; omega) (fun i hi => ?_)]
        · simp
        · rw [filesR_length] at hi
          have := posF_lt q.fl hi
          have := f2 i hi
          rw [filesR_nth _ _ _ _ hi, fileAt_length _ _ _ (by omega), lenF]
          omega
      · simp only [if_neg h20]
        rw [if_neg (by simp [Rep.zero]), if_neg (by simp [strayB, anyB, Rep.zero]), if_neg (by simp)]
/-- What right bytes say becomes these bytes. -/
theorem formR_rdR {q : Req} {ys : List Int} (hw : ∀ x ∈ ys, (Lit.int .u8 x).wf = true) (hq : chkQ q = 0) (hl : ys.length = sizeR q) (hc : nth ys 0 = q.c) (hok : rdOkR q ys = true) : formR q (rdR q ys) = ys := by
  unfold rdOkR at hok
  unfold formR rdR
  unfold sizeR at hl
  by_cases h1 : q.c = 1 ∨ q.c = 2
  · have := right_bits hq h1
    simp only [if_pos h1, unpk_length] at hl hok ⊢
    rw [Bool.and_eq_true, decide_eq_true_eq] at hok
    have hd := drop_two (ys := ys) (p := 0) (by omega)
    rw [List.drop_zero, hc, hok.1] at hd
    rw [pk_unpk (ys.drop 2) _ (fun x hx => hw x (List.mem_of_mem_drop hx)) (by rw [List.length_drop]; omega) (by rw [← spareB_iff]; simpa using hok.2)]
    exact hd.symm
  · simp only [if_neg h1] at hl hok ⊢
    by_cases h2 : q.c = 3 ∨ q.c = 4
    · have := right_words hq h2
      simp only [if_pos h2, wwords_length] at hl hok ⊢
      have hok := of_decide_eq_true hok
      have hd := drop_two (ys := ys) (p := 0) (by omega)
      rw [List.drop_zero, hc, hok] at hd
      rw [wbytes_wwords _ (fun x hx => hw x (List.mem_of_mem_drop hx)) (by rw [List.length_drop]; omega), List.length_drop, show 2 * (((ys.length - 2) / 2 : Nat) : Int) = ((2 * q.n.toNat : Nat) : Int) by omega]
      exact hd.symm
    · simp only [if_neg h2] at hl hok ⊢
      by_cases h20 : q.c = 20
      · obtain ⟨f1, f2, f3⟩ := right_files hq h20
        simp only [if_pos h20, filesR_length] at hl hok ⊢
        rw [Bool.and_eq_true, decide_eq_true_eq] at hok
        have h2' := posF_two q.fl (q.fl.length / 3)
        have hd := drop_two (ys := ys) (p := 0) (by omega)
        rw [List.drop_zero, hc, hok.1, h20] at hd
        rw [fbytes_filesR q.fl ys hw _ _ (Nat.le_refl _) hok.2 (by omega), ← hl, List.take_of_length_le (by rw [List.length_drop]; omega), List.length_drop]
        exact hd.symm
      · simp only [if_neg h20] at hok ⊢
        exact (of_decide_eq_true hok).symm
theorem getRE_zero {q : Req} {ys : List Int} (h : getRE q ys = 0) : chkQ q = 0 ∧ ys.length ≠ 0 ∧ ((nth ys 0 = q.c + 128 ∧ ys.length = 2 ∧ 1 ≤ nth ys 1 ∧ nth ys 1 ≤ 127) ∨ (nth ys 0 = q.c ∧ ys.length = sizeR q ∧ rdOkR q ys = true)) := by
  unfold getRE at h
  split at h
  · rename_i h1; exact absurd h h1
  · rename_i h1
    split at h
    · cases h
    · rename_i h2
      refine ⟨Decidable.not_not.1 h1, h2, ?_⟩
      split at h
      · rename_i h3
        split at h
        · cases h
        · split at h
          · cases h
          · split at h
            · rename_i h6; exact .inl ⟨h3, by omega, h6⟩
            · cases h
      · split at h
        · rename_i h4
          split at h
          · cases h
          · split at h
            · cases h
            · split at h
              · rename_i h7; exact .inr ⟨h4, by omega, h7⟩
              · cases h
        · cases h
/-- What is read of any bytes may be an answer, and becomes these bytes. -/
theorem putR_getR {q : Req} {ys : List Int} (hw : ∀ x ∈ ys, (Lit.int .u8 x).wf = true) (h3 : q.fl.length % 3 = 0) (h : getRE q ys = 0) : chkR q (getR q ys) = 0 ∧ putR q (getR q ys) = ys := by
  obtain ⟨hq, h0, hh⟩ := getRE_zero h
  unfold getR
  rw [if_neg (by rw [h]; simp)]
  rcases hh with ⟨e1, e2, e3, e4⟩ | ⟨e1, e2, e3⟩
  · rw [if_pos e1]
    have hk : chkR q ⟨nth ys 1, [], [], []⟩ = 0 := by
      unfold chkR
      rw [if_neg (by rw [hq]; simp), if_pos (show nth ys 1 ≠ 0 by omega), if_pos ⟨e3, e4⟩]
      rfl
    refine ⟨hk, ?_⟩
    unfold putR
    rw [if_neg (by rw [hk]; simp), if_pos (show nth ys 1 ≠ 0 by omega)]
    have hd := drop_two (ys := ys) (p := 0) (by omega)
    rw [List.drop_zero, e1, List.drop_eq_nil_of_le (by omega)] at hd
    exact hd.symm
  · rw [if_neg (by omega)]
    have hk := chkR_rdR hq h3 e2
    have hx : (rdR q ys).x = 0 := by
      unfold rdR
      repeat (first | rfl | split)
    refine ⟨hk, ?_⟩
    unfold putR
    rw [if_neg (by rw [hk]; simp), if_neg (by rw [hx]; simp)]
    exact formR_rdR hw hq e2 e1 e3
/-- Bytes of the right code and size are right just if what they say becomes them. -/
theorem rdOkR_iff {q : Req} {ys : List Int} (hw : ∀ x ∈ ys, (Lit.int .u8 x).wf = true) (hq : chkQ q = 0) (h3 : q.fl.length % 3 = 0) (hl : ys.length = sizeR q) (hc : nth ys 0 = q.c) : putR q (rdR q ys) = ys ↔ rdOkR q ys = true := by
  have hk := chkR_rdR hq h3 hl
  have hx : (rdR q ys).x = 0 := by
    unfold rdR
    repeat (first | rfl | split)
  have hP : putR q (rdR q ys) = formR q (rdR q ys) := by unfold putR; rw [if_neg (by rw [hk]; simp), if_neg (by rw [hx]; simp)]
  rw [hP]
  refine ⟨fun h => ?_, fun h => formR_rdR hw hq hl hc h⟩
  have hset : ∀ x ∈ (rdR q ys).set, (Lit.int .u16 x).wf = true := by
    unfold rdR
    intro x hx
    split at hx
    · cases hx
    · split at hx
      · exact wwords_wf _ (fun y hy => hw y (List.mem_of_mem_drop hy)) x hx
      · split at hx <;> cases hx
  have hfs : ∀ xs ∈ (rdR q ys).fs, ∀ x ∈ xs, (Lit.int .u16 x).wf = true := by
    unfold rdR
    intro xs hxs
    split at hxs
    · cases hxs
    · split at hxs
      · cases hxs
      · split at hxs
        · simp only [filesR, List.mem_map] at hxs
          obtain ⟨i, _, rfl⟩ := hxs
          exact wwords_wf _ (fun y hy => hw y (List.mem_of_mem_drop (List.mem_of_mem_take hy)))
        · cases hxs
  have := (rd_formR hk hx hset hfs).1
  rw [h] at this
  exact this
theorem rdR_wf {q : Req} {ys : List Int} (hw : ∀ x ∈ ys, (Lit.int .u8 x).wf = true) : (∀ x ∈ (rdR q ys).set, (Lit.int .u16 x).wf = true) ∧ ∀ xs ∈ (rdR q ys).fs, ∀ x ∈ xs, (Lit.int .u16 x).wf = true := by
  refine ⟨?_, ?_⟩
  · unfold rdR
    intro x hx
    split at hx
    · cases hx
    · split at hx
      · exact wwords_wf _ (fun y hy => hw y (List.mem_of_mem_drop hy)) x hx
      · split at hx <;> cases hx
  · unfold rdR
    intro xs hxs
    split at hxs
    · cases hxs
    · split at hxs
      · cases hxs
      · split at hxs
        · simp only [filesR, List.mem_map] at hxs
          obtain ⟨i, _, rfl⟩ := hxs
          exact wwords_wf _ (fun y hy => hw y (List.mem_of_mem_drop (List.mem_of_mem_take hy)))
        · cases hxs
end Go.Proofs.YtobhllcnljggiaaGreat
namespace Go.Proofs.YtobhllcnljggiaaGreat
open Go.RowKit
set_option linter.unusedVariables false

set_option maxHeartbeats 2000000 in
set_option maxRecDepth 100000 in
theorem rpAnswer_words (q : Req) (n : Nat) (Ao As Ap : Option Addr) (lo co ls cs lp cp : Nat) (b o m cap : Nat) (ys : List Int) (w : World) (hc : q.c = 3 ∨ q.c = 4) (hr : Row .u8 w w.heap.size (some ⟨b, o, none⟩) ys) (hy : ys.length = m) (hm : m = 2 + 2 * n) (hn : 1 ≤ n ∧ n ≤ 125) (hcap : m ≤ cap) (hcb : cap ≤ 9223372036854775807) (h1 : nth ys 1 = 2 * (n : Int)) :
    Calls Tryz.prog 33 #[.agg #[.int .i64 q.c, .int .i64 q.a, .int .i64 n, .slice Ao lo co, .slice As ls cs, .slice Ap lp cp], .slice (some ⟨b, o, none⟩) m cap] w fun e w' => ∃ g, w.heap.size ≤ g ∧ e = .returned (.tuple #[.agg #[.int .i64 0, .slice none 0 0, .slice (some ⟨g, 0, none⟩) n n, .slice none 0 0], .int .i64 0]) ∧ w'.heap[g]? = some (.cells (blk .u16 (wwords (ys.drop 2))) 32 (0, 0)) ∧ Below w.heap.size w w' := by
  have HR := Lib.hid hr
  have t0 := TB.new2 w #[.int .i64 q.c, .int .i64 q.a, .int .i64 n, .slice Ao lo co, .slice As ls cs, .slice Ap lp cp] #[.int .i64 0, .slice none 0 0, .slice none 0 0, .slice none 0 0] 26 29
  have HM := Lib.hid hm
  have HC := Lib.hid hc
  have HY := Lib.hid hy
  have H1 := Lib.hid h1
  have HS : Hid (∀ W, Calls Tryz.prog 68 #[.slice (some ⟨b, o, none⟩) m cap, .int .i64 ((2 + 2 * n : Nat) : Int)] W fun e w' => e = .returned (.int .i64 0) ∧ w' = W) := Lib.hid (fun W => (checkSize_any (some ⟨b, o, none⟩) m cap ((2 + 2 * n : Nat) : Int) W).mono fun e w' h => ⟨h.1.trans (by rw [if_neg (by omega), if_neg (by omega)]), h.2⟩)
  clear hr hm hc hy h1
  go_enter Tryz.func33, Tryz.ntmps33
  go_wp2_with fail
  refine (rpSize_words q.c q.a n Ao As Ap lo co ls cs lp cp _ HC.out (by omega)).mono ?_
  rintro e w1 ⟨rfl, b1⟩
  have t1 := t0.below b1
  clear t0 b1
  obtain ⟨d0, d1, d2, d3, d4⟩ := t1.c4
  obtain ⟨r0, r1, r2, r3, r4, r5, r6⟩ := t1.r6
  go_wp2_with fail
  refine (HS.out _).mono ?_
  rintro e w1' ⟨rfl, hw1⟩
  rw [hw1]
  clear hw1
  go_wp2_with fail
  clear d0 d1 d2 d3 d4 r0 r1 r2 r3 r4 r5 r6
  refine (rpRead_words q.c q.a n Ao As Ap lo co ls cs lp cp b o m cap ys _ HC.out ((HR.out.tb t1).more (Nat.le_of_lt (Nat.lt_of_succ_lt t1.lt))) HY.out HM.out hn hcap hcb H1.out).mono ?_
  rintro e w2 ⟨g, hg, rfl, hb, b2⟩
  have t2 := t1.below b2
  have hz1 := t1.lt
  have t3 := t2.alloc (.cells #[.int .i64 0, .slice none 0 0, .slice (some ⟨g, 0, none⟩) n n, .slice none 0 0] 29)
  have hb3 := Lib.hid ((heap_alloc_old w2 (.cells #[.int .i64 0, .slice none 0 0, .slice (some ⟨g, 0, none⟩) n n, .slice none 0 0] 29) (block_lt hb)).trans hb)
  have hx3 := heap_alloc_new w2 (.cells #[.int .i64 0, .slice none 0 0, .slice (some ⟨g, 0, none⟩) n n, .slice none 0 0] 29)
  clear t1 b2 t2 hb
  have P5 := Lib.hid (t3.put4 (.int .i64 0) (.slice none 0 0) (.slice (some ⟨g, 0, none⟩) n n) (.slice none 0 0))
  have P6 := Lib.hid ((put4_other (w := w2.alloc (.cells #[.int .i64 0, .slice none 0 0, .slice (some ⟨g, 0, none⟩) n n, .slice none 0 0] 29)) (g := w.heap.size + 1) (j := g) (by omega) (.int .i64 0) (.slice none 0 0) (.slice (some ⟨g, 0, none⟩) n n) (.slice none 0 0)).trans hb3.out)
  obtain ⟨y0, y1, y2, y3⟩ := cells4 hx3
  obtain ⟨d0, d1, d2, d3, d4⟩ := t3.c4
  clear hx3
  go_wp2
  (try simp only [Exit.inBlock, Exit.then])
  show bodyPost _ _ _ _ _ (put4 (w2.alloc (.cells #[.int .i64 0, .slice none 0 0, .slice (some ⟨g, 0, none⟩) n n, .slice none 0 0] 29)) (w.heap.size + 1) (.int .i64 0) (.slice none 0 0) (.slice (some ⟨g, 0, none⟩) n n) (.slice none 0 0))
  generalize put4 (w2.alloc (.cells #[.int .i64 0, .slice none 0 0, .slice (some ⟨g, 0, none⟩) n n, .slice none 0 0] 29)) (w.heap.size + 1) (.int .i64 0) (.slice none 0 0) (.slice (some ⟨g, 0, none⟩) n n) (.slice none 0 0) = w6 at *
  obtain ⟨x0, x1, x2, x3⟩ := cells4 P5.out.1
  refine bodyPost_ret (v := .tuple #[.agg #[.int .i64 0, .slice none 0 0, .slice (some ⟨g, 0, none⟩) n n, .slice none 0 0], .int .i64 0]) (by simp [results, Tryz.results33, go_sem, x0, x1, x2, x3]) rfl ?_
  exact ⟨g, by omega, rfl, P6.out, P5.out.2⟩

set_option maxHeartbeats 2000000 in
set_option maxRecDepth 100000 in
theorem rpGet_words (q : Req) (n : Nat) (hqn : q.n = n) (Ao As Ap : Option Addr) (lo co ls cs lp cp : Nat) (b o m cap : Nat) (ys : List Int) (w : World) (h : Asked w w.heap.size q Ao As Ap lo ls lp) (hk : chkQ q = 0) (hc : q.c = 3 ∨ q.c = 4) (hr : Row .u8 w w.heap.size (some ⟨b, o, none⟩) ys) (hy : ys.length = m) (hm : m = 2 + 2 * n) (hn : 1 ≤ n ∧ n ≤ 125) (hcap : m ≤ cap) (hcb : cap ≤ 9223372036854775807) (h1 : nth ys 1 = 2 * (n : Int)) (h0 : nth ys 0 = q.c) :
    Calls Tryz.prog 12 #[.agg #[.int .i64 q.c, .int .i64 q.a, .int .i64 n, .slice Ao lo co, .slice As ls cs, .slice Ap lp cp], .slice (some ⟨b, o, none⟩) m cap] w fun e w' => ∃ g, w.heap.size ≤ g ∧ e = .returned (.tuple #[.agg #[.int .i64 0, .slice none 0 0, .slice (some ⟨g, 0, none⟩) n n, .slice none 0 0], .int .i64 0]) ∧ w'.heap[g]? = some (.cells (blk .u16 (wwords (ys.drop 2))) 32 (0, 0)) ∧ Below w.heap.size w w' := by
  have HR := Lib.hid hr
  have t0 := TB.new2 w #[.int .i64 q.c, .int .i64 q.a, .int .i64 n, .slice Ao lo co, .slice As ls cs, .slice Ap lp cp] #[.int .i64 0, .slice none 0 0, .slice none 0 0, .slice none 0 0] 26 29
  have hsz : w.heap.size ≤ ((w.alloc (.cells #[.int .i64 q.c, .int .i64 q.a, .int .i64 n, .slice Ao lo co, .slice As ls cs, .slice Ap lp cp] 26)).alloc (.cells #[.int .i64 0, .slice none 0 0, .slice none 0 0, .slice none 0 0] 29)).heap.size := t0.bel.size
  have HC := Lib.hid (Check_Q q Ao As Ap lo ls lp co cs cp _ ((h.below t0.bel).more hsz))
  rw [hk, hqn] at HC
  have HM := Lib.hid hm
  have HCC := Lib.hid hc
  have HY := Lib.hid hy
  have H1 := Lib.hid h1
  obtain ⟨b', o', hA, hbB, hcell⟩ := hr.at_ (i := 0) (by omega)
  injection hA with hA
  injection hA with hA1 hA2
  subst hA1 hA2
  rw [h0, Nat.add_zero] at hcell
  have e0 : IntKind.i64.wrap (q.c + 128) = q.c + 128 := IntWalk.i64_in _ (by omega)
  have e1 : IntKind.i64.wrap q.c = q.c := IntWalk.i64_in _ (by omega)
  have e2 : (q.c == q.c + 128) = false := beq_false_of_ne (by omega)
  have e3 : (q.c == q.c) = true := by simp
  have tm : ((m : Int) == 0) = false := beq_false_of_ne (by omega)
  have tm2 : (0 : Int) < (m : Int) := by omega
  have tm3 : 0 < m := by omega
  clear h hr hm hc hy h1 h0 hk hqn
  go_enter Tryz.func12, Tryz.ntmps12
  go_wp2_with fail
  refine HC.out.mono ?_
  rintro e w1 ⟨rfl, b1⟩
  have t1 := t0.below b1
  clear t0 b1 HC hsz
  have hc1 : w1.cell? ⟨b, o, none⟩ = some (.int .u8 q.c) := (t1.bel.cell (p := ⟨b, o, none⟩) hbB).trans hcell
  obtain ⟨d0, d1, d2, d3, d4⟩ := t1.c4
  obtain ⟨r0, r1, r2, r3, r4, r5, r6⟩ := t1.r6
  go_wp2_with fail
  clear d0 d1 d2 d3 d4 r0 r1 r2 r3 r4 r5 r6 hc1
  refine (rpAnswer_words q n Ao As Ap lo co ls cs lp cp b o m cap ys _ HCC.out ((HR.out.tb t1).more (Nat.le_of_lt (Nat.lt_of_succ_lt t1.lt))) HY.out HM.out hn hcap hcb H1.out).mono ?_
  rintro e w3 ⟨g, hg, rfl, hb, b2⟩
  have t3 := t1.below b2
  have hz1 := t1.lt
  have hb3 := Lib.hid hb
  clear t1 b2 hb
  have P5 := Lib.hid (t3.put4 (.int .i64 0) (.slice none 0 0) (.slice (some ⟨g, 0, none⟩) n n) (.slice none 0 0))
  have P6 := Lib.hid ((put4_other (w := w3) (g := w.heap.size + 1) (j := g) (by omega) (.int .i64 0) (.slice none 0 0) (.slice (some ⟨g, 0, none⟩) n n) (.slice none 0 0)).trans hb3.out)
  obtain ⟨d0, d1, d2, d3, d4⟩ := t3.c4
  go_wp2
  (try simp only [Exit.inBlock, Exit.then])
  show bodyPost _ _ _ _ _ (put4 (w3) (w.heap.size + 1) (.int .i64 0) (.slice none 0 0) (.slice (some ⟨g, 0, none⟩) n n) (.slice none 0 0))
  generalize put4 (w3) (w.heap.size + 1) (.int .i64 0) (.slice none 0 0) (.slice (some ⟨g, 0, none⟩) n n) (.slice none 0 0) = w6 at *
  obtain ⟨x0, x1, x2, x3⟩ := cells4 P5.out.1
  refine bodyPost_ret (v := .tuple #[.agg #[.int .i64 0, .slice none 0 0, .slice (some ⟨g, 0, none⟩) n n, .slice none 0 0], .int .i64 0]) (by simp [results, Tryz.results12, go_sem, x0, x1, x2, x3]) rfl ?_
  exact ⟨g, by omega, rfl, P6.out, P5.out.2⟩
end Go.Proofs.YtobhllcnljggiaaGreat
namespace Go.Proofs.YtobhllcnljggiaaGreat
open Go.RowKit
set_option linter.unusedVariables false


/-- What 'string(b)' of a row of bytes is. -/
theorem conv_row (w : World) (B : Nat) (A : Option Addr) (n c : Nat) (xs : List Int) (h : Row .u8 w B A xs) (hn : xs.length = n) : (convert 34 9 (.slice A n c)).run Tryz.prog w = .ok (.string (strOfNums xs)) w := by
  rcases Nat.eq_zero_or_pos n with h0 | h0
  · subst h0
    have hx : xs = [] := List.eq_nil_of_length_eq_zero hn
    subst hx
    rw [run_convert_bytes_string w _ _ _ _ 0 c Tryz.underlying34 Tryz.underlying5 Tryz.underlying9]
    cases A <;> simp [Conv.bytesToString, loadCells]
    all_goals rfl
  · obtain ⟨b, o, rfl, _, hc⟩ := h.2 (by omega)
    exact run_convert_bytes_arg (P := Tryz.prog) w _ _ Tryz.underlying34 Tryz.underlying5 b o n c xs hn (fun i hi => hc i (by omega)) _ Tryz.underlying9

theorem strs_eq (xs ys : List Int) (hx : ∀ x ∈ xs, (Lit.int .u8 x).wf = true) (hy : ∀ x ∈ ys, (Lit.int .u8 x).wf = true) (h : (strOfNums xs).toList = (strOfNums ys).toList) : xs = ys := by
  have inj : ∀ a b : Int, (Lit.int .u8 a).wf = true → (Lit.int .u8 b).wf = true → UInt8.ofNat a.toNat = UInt8.ofNat b.toNat → a = b := by
    intro a b ha hb e
    have ha := wf_u8 ha
    have hb := wf_u8 hb
    have := congrArg UInt8.toNat e
    simp at this
    omega
  rw [Lib.strOfNums_toList, Lib.strOfNums_toList] at h
  unfold Lib.bytesOf at h
  revert ys
  induction xs with
  | nil => intro ys _ h; cases ys with | nil => rfl | cons _ _ => simp at h
  | cons a xs ih =>
    intro ys hy h
    cases ys with
    | nil => simp at h
    | cons b ys =>
      simp only [List.map_cons, List.cons.injEq] at h
      rw [inj a b (hx a (by simp)) (hy b (by simp)) h.1, ih (fun x hm => hx x (by simp [hm])) ys (fun x hm => hy x (by simp [hm])) h.2]

theorem equal_yes (A A' : Option Addr) (n n' c c' : Nat) (xs : List Int) (w : World) (B B' : Nat) (hr : Row .u8 w B A xs) (hr' : Row .u8 w B' A' xs) (hn : xs.length = n) (hn' : xs.length = n') :
    Calls Tryz.prog 92 #[.slice A n c, .slice A' n' c'] w fun e w' => e = .returned (.bool true) ∧ w = w' := by
  have h1 := conv_row w B A n c xs hr hn
  have h2 := conv_row w B' A' n' c' xs hr' hn'
  clear hr hr' hn hn'
  generalize strOfNums xs = s at *
  have h3 : (s.toList == s.toList) = true := by simp
  go_enter Tryz.func92, Tryz.ntmps92
  go_wp2
  go_ret
  exact ⟨rfl, rfl⟩
theorem equal_no (A A' : Option Addr) (n n' c c' : Nat) (xs ys : List Int) (w : World) (B B' : Nat) (hr : Row .u8 w B A xs) (hr' : Row .u8 w B' A' ys) (hn : xs.length = n) (hn' : ys.length = n') (hne : xs ≠ ys) :
    Calls Tryz.prog 92 #[.slice A n c, .slice A' n' c'] w fun e w' => e = .returned (.bool false) ∧ w = w' := by
  have h1 := conv_row w B A n c xs hr hn
  have h2 := conv_row w B' A' n' c' ys hr' hn'
  have h3 : ((strOfNums xs).toList == (strOfNums ys).toList) = false := by
    rw [beq_eq_false_iff_ne]
    exact fun h => hne (strs_eq xs ys hr.1 hr'.1 h)
  clear hr hr' hn hn' hne
  generalize strOfNums xs = s at *
  generalize strOfNums ys = t at *
  go_enter Tryz.func92, Tryz.ntmps92
  go_wp2
  go_ret
  exact ⟨rfl, rfl⟩

end Go.Proofs.YtobhllcnljggiaaGreat
namespace Go.Proofs.YtobhllcnljggiaaGreat
open Go.RowKit
set_option linter.unusedVariables false

/-- A list of bits, of words, of lists of words, in blocks of the call's own. -/
def BitK (w : World) (base : Nat) (A : Option Addr) (n c : Nat) (l : List Bool) : Prop := (A = none ∧ n = 0 ∧ c = 0 ∧ l = []) ∨ ∃ g, A = some ⟨g, 0, none⟩ ∧ c = n ∧ base ≤ g ∧ l.length = n ∧ L.Bk w g l
def WordK (w : World) (base : Nat) (A : Option Addr) (n c : Nat) (l : List Int) : Prop := (A = none ∧ n = 0 ∧ c = 0 ∧ l = []) ∨ ∃ g, A = some ⟨g, 0, none⟩ ∧ c = n ∧ base ≤ g ∧ l.length = n ∧ W.Bk w g l
def FileK (w : World) (base : Nat) (A : Option Addr) (n c : Nat) (fs : List (List Int)) : Prop := (A = none ∧ n = 0 ∧ c = 0 ∧ fs = []) ∨
  ∃ (g : Nat) (L : List Value), A = some ⟨g, 0, none⟩ ∧ c = n ∧ base ≤ g ∧ fs.length = n ∧ L.length = n ∧ w.heap[g]? = some (.cells L.toArray 23 (0, 0)) ∧ ∀ i, i < n → ∃ gi, L[i]? = some (.slice (some ⟨gi, 0, none⟩) (nthF fs i).length (nthF fs i).length) ∧ base ≤ gi ∧ W.Bk w gi (nthF fs i)
theorem BitK.nil (w : World) (base : Nat) : BitK w base none 0 0 [] := .inl ⟨rfl, rfl, rfl, rfl⟩
theorem WordK.nil (w : World) (base : Nat) : WordK w base none 0 0 [] := .inl ⟨rfl, rfl, rfl, rfl⟩
theorem FileK.nil (w : World) (base : Nat) : FileK w base none 0 0 [] := .inl ⟨rfl, rfl, rfl, rfl⟩
section
variable {w w' : World} {base base' : Nat} {A : Option Addr} {n c : Nat}
theorem BitK.keep {l : List Bool} (h : BitK w base A n c l) (hb : base' ≤ base) (hk : ∀ g o, base ≤ g → w.heap[g]? = some o → w'.heap[g]? = some o) : BitK w' base' A n c l := by
  rcases h with h | ⟨g, h1, h2, h3, h4, h5⟩
  · exact .inl h
  · exact .inr ⟨g, h1, h2, by omega, h4, hk g _ h3 h5⟩
theorem WordK.keep {l : List Int} (h : WordK w base A n c l) (hb : base' ≤ base) (hk : ∀ g o, base ≤ g → w.heap[g]? = some o → w'.heap[g]? = some o) : WordK w' base' A n c l := by
  rcases h with h | ⟨g, h1, h2, h3, h4, h5⟩
  · exact .inl h
  · exact .inr ⟨g, h1, h2, by omega, h4, hk g _ h3 h5⟩
theorem FileK.keep {l : List (List Int)} (h : FileK w base A n c l) (hb : base' ≤ base) (hk : ∀ g o, base ≤ g → w.heap[g]? = some o → w'.heap[g]? = some o) : FileK w' base' A n c l := by
  rcases h with h | ⟨g, L, h1, h2, h3, h4, h5, h6, h7⟩
  · exact .inl h
  · refine .inr ⟨g, L, h1, h2, by omega, h4, h5, hk g _ h3 h6, fun i hi => ?_⟩
    obtain ⟨gi, g1, g2, g3⟩ := h7 i hi
    exact ⟨gi, g1, by omega, hk gi _ g2 g3⟩
theorem BitK.row {l : List Bool} (h : BitK w base A n c l) : L.Row () w w.heap.size A l ∧ l.length = n := by
  rcases h with ⟨_, rfl, _, rfl⟩ | ⟨g, rfl, _, _, h4, h5⟩
  · exact ⟨L.Row.nil _ _ _ _, rfl⟩
  · exact ⟨h5.row l (fun _ _ => rfl) (List.prefix_refl _), h4⟩
theorem WordK.row {l : List Int} (h : WordK w base A n c l) (hw : ∀ x ∈ l, (Lit.int .u16 x).wf = true) : Row .u16 w w.heap.size A l ∧ l.length = n := by
  rcases h with ⟨_, rfl, _, rfl⟩ | ⟨g, rfl, _, _, h4, h5⟩
  · exact ⟨Row.nil _ _ _ _, rfl⟩
  · exact ⟨h5.row l hw (List.prefix_refl _), h4⟩
theorem nthF_mem {fs : List (List Int)} {i : Nat} (h : i < fs.length) : nthF fs i ∈ fs := by
  have : nthF fs i = fs[i] := by simp [nthF, List.getD_eq_getElem?_getD, List.getElem?_eq_getElem h]
  rw [this]; exact List.getElem_mem h
theorem FileK.frow {fs : List (List Int)} (h : FileK w base A n c fs) (hw : ∀ xs ∈ fs, ∀ x ∈ xs, (Lit.int .u16 x).wf = true) : FRow w w.heap.size A fs ∧ fs.length = n := by
  rcases h with ⟨_, rfl, _, rfl⟩ | ⟨g, L, rfl, _, _, h4, h5, h6, h7⟩
  · exact ⟨FRow.nil _ _ _, rfl⟩
  · refine ⟨fun _ => ⟨g, 0, rfl, block_lt h6, fun i hi => ?_⟩, h4⟩
    obtain ⟨gi, g1, g2, g3⟩ := h7 i (by omega)
    refine ⟨_, _, ?_, g3.row _ (hw _ (nthF_mem hi)) (List.prefix_refl _), Nat.le_refl _⟩
    rw [Nat.zero_add, cell_of_row w g i _ _ _ h6]
    simpa using g1
end
/-- An answer's lists, each of the call's own. -/
structure RepK (w : World) (base : Nat) (r : Rep) (Bo Bs Bf : Option Addr) (mo ms mf eo es ef : Nat) : Prop where
  on : BitK w base Bo mo eo r.on
  set : WordK w base Bs ms es r.set
  fs : FileK w base Bf mf ef r.fs
theorem RepK.keep {w w' : World} {base base' : Nat} {r : Rep} {Bo Bs Bf : Option Addr} {mo ms mf eo es ef : Nat} (h : RepK w base r Bo Bs Bf mo ms mf eo es ef) (hb : base' ≤ base) (hk : ∀ g o, base ≤ g → w.heap[g]? = some o → w'.heap[g]? = some o) : RepK w' base' r Bo Bs Bf mo ms mf eo es ef :=
  ⟨h.on.keep hb hk, h.set.keep hb hk, h.fs.keep hb hk⟩
theorem RepK.below {w w' : World} {base : Nat} {r : Rep} {Bo Bs Bf : Option Addr} {mo ms mf eo es ef : Nat} (h : RepK w base r Bo Bs Bf mo ms mf eo es ef) (hb : Below w.heap.size w w') : RepK w' base r Bo Bs Bf mo ms mf eo es ef :=
  h.keep (Nat.le_refl _) fun g o _ ho => (hb.block g (block_lt ho)).trans ho
theorem RepK.mono {w : World} {base base' : Nat} {r : Rep} {Bo Bs Bf : Option Addr} {mo ms mf eo es ef : Nat} (h : RepK w base r Bo Bs Bf mo ms mf eo es ef) (hb : base' ≤ base) : RepK w base' r Bo Bs Bf mo ms mf eo es ef :=
  h.keep hb fun g o _ ho => ho
/-- Stores into a block below leave them. -/
theorem RepK.put4 {w : World} {base : Nat} {r : Rep} {Bo Bs Bf : Option Addr} {mo ms mf eo es ef : Nat} (h : RepK w base r Bo Bs Bf mo ms mf eo es ef) {g : Nat} (hg : g < base) (v0 v1 v2 v3 : Value) : RepK (put4 w g v0 v1 v2 v3) base r Bo Bs Bf mo ms mf eo es ef :=
  h.keep (Nat.le_refl _) fun j o hj ho => (put4_other (by omega) v0 v1 v2 v3).trans ho
theorem RepK.repd {w : World} {base : Nat} {r : Rep} {Bo Bs Bf : Option Addr} {mo ms mf eo es ef : Nat} (h : RepK w base r Bo Bs Bf mo ms mf eo es ef) (hs : ∀ x ∈ r.set, (Lit.int .u16 x).wf = true) (hf : ∀ xs ∈ r.fs, ∀ x ∈ xs, (Lit.int .u16 x).wf = true) : Repd w w.heap.size r Bo Bs Bf mo ms mf :=
  ⟨h.on.row.1, (h.set.row hs).1, (h.fs.frow hf).1, h.on.row.2, (h.set.row hs).2, (h.fs.frow hf).2⟩
theorem RepK.zero (w : World) (base : Nat) (x : Int) : RepK w base ⟨x, [], [], []⟩ none none none 0 0 0 0 0 0 := ⟨BitK.nil _ _, WordK.nil _ _, FileK.nil _ _⟩
/-- A call returns an answer and one thing more. -/
def RdK (w : World) (r : Rep) (v : Value) (e : Ending) (w' : World) : Prop :=
  ∃ (Bo Bs Bf : Option Addr) (mo ms mf eo es ef : Nat), e = .returned (.tuple #[.agg #[.int .i64 r.x, .slice Bo mo eo, .slice Bs ms es, .slice Bf mf ef], v]) ∧ RepK w' w.heap.size r Bo Bs Bf mo ms mf eo es ef ∧ Below w.heap.size w w'
theorem RdK.exc {w w' : World} {x : Int} {v : Value} {e : Ending} (h : e = .returned (.tuple #[.agg #[.int .i64 x, .slice none 0 0, .slice none 0 0, .slice none 0 0], v])) (hb : Below w.heap.size w w') : RdK w ⟨x, [], [], []⟩ v e w' :=
  ⟨none, none, none, 0, 0, 0, 0, 0, 0, h, RepK.zero _ _ x, hb⟩

set_option maxHeartbeats 1000000 in
theorem rpSize_bits (c a : Int) (n : Nat) (Ao As Ap : Option Addr) (lo co ls cs lp cp : Nat) (w : World) (hc : c = 1 ∨ c = 2) (hn : n ≤ 10000) :
    Calls Tryz.prog 70 #[.agg #[.int .i64 c, .int .i64 a, .int .i64 n, .slice Ao lo co, .slice As ls cs, .slice Ap lp cp]] w fun e w' => e = .returned (.int .i64 ((2 + need n : Nat) : Int)) ∧ Below w.heap.size w w' := by
  have e1 : IntKind.i64.wrap ((n : Int) + 8) = (n : Int) + 8 := IntWalk.i64_in _ (by omega)
  have e2 : IntKind.i64.wrap ((n : Int) + 8 - 1) = (n : Int) + 7 := by rw [IntWalk.i64_in _ (by omega)]; omega
  have e3 : ((n : Int) + 7).tdiv 8 = ((need n : Nat) : Int) := by rw [Int.tdiv_eq_ediv_of_nonneg (by omega)]; unfold need; omega
  have e4 : ((n : Int) + 7) / 8 = ((need n : Nat) : Int) := by unfold need; omega
  have e5 : IntKind.i64.wrap ((need n : Nat) : Int) = ((need n : Nat) : Int) := IntWalk.i64_in _ (by unfold need; omega)
  have e6 : IntKind.i64.wrap (2 + ((need n : Nat) : Int)) = 2 + ((need n : Nat) : Int) := IntWalk.i64_in _ (by unfold need; omega)
  rw [show ((2 + need n : Nat) : Int) = 2 + ((need n : Nat) : Int) by omega]
  have bel := bel_alloc w (.cells #[.int .i64 c, .int .i64 a, .int .i64 n, .slice Ao lo co, .slice As ls cs, .slice Ap lp cp] 26)
  rcases hc with rfl | rfl
  all_goals
    go_enter Tryz.func70, Tryz.ntmps70
    go_wp2
    go_ret
    exact ⟨rfl, bel⟩
set_option maxHeartbeats 1000000 in
theorem rpSize_else (c a n : Int) (Ao As Ap : Option Addr) (lo co ls cs lp cp : Nat) (w : World) (h1 : ¬ (c = 1 ∨ c = 2)) (h2 : ¬ (c = 3 ∨ c = 4)) (h3 : c ≠ 20) :
    Calls Tryz.prog 70 #[.agg #[.int .i64 c, .int .i64 a, .int .i64 n, .slice Ao lo co, .slice As ls cs, .slice Ap lp cp]] w fun e w' => e = .returned (.int .i64 5) ∧ Below w.heap.size w w' := by
  have b1 : (c == 1) = false := beq_false_of_ne (by omega)
  have b2 : (c == 2) = false := beq_false_of_ne (by omega)
  have b3 : (c == 3) = false := beq_false_of_ne (by omega)
  have b4 : (c == 4) = false := beq_false_of_ne (by omega)
  have b5 : (c == 20) = false := beq_false_of_ne h3
  have bel := bel_alloc w (.cells #[.int .i64 c, .int .i64 a, .int .i64 n, .slice Ao lo co, .slice As ls cs, .slice Ap lp cp] 26)
  clear h1 h2 h3
  go_enter Tryz.func70, Tryz.ntmps70
  go_wp2
  go_ret
  exact ⟨rfl, bel⟩
set_option maxHeartbeats 1000000 in
theorem rpSize_file (a n : Int) (fl : List Int) (Ao As Ap : Option Addr) (lo co ls cs lp cp : Nat) (w : World) (hp : Row .i64 w w.heap.size Ap fl) (hl : fl.length = 3 * lp) (h1 : ∀ i, i < lp → 1 ≤ nth fl (3 * i + 2)) (hb : posF fl lp ≤ 247) (hlp : lp ≤ 100) :
    Calls Tryz.prog 70 #[.agg #[.int .i64 20, .int .i64 a, .int .i64 n, .slice Ao lo co, .slice As ls cs, .slice Ap lp cp]] w fun e w' => e = .returned (.int .i64 ((posF fl lp : Nat) : Int)) ∧ Below w.heap.size w w' := by
  have bel0 := bel_alloc w (.cells #[.int .i64 20, .int .i64 a, .int .i64 n, .slice Ao lo co, .slice As ls cs, .slice Ap lp cp] 26)
  have HL := Lib.hid hl
  have HP := Lib.hid hp
  have H1 := Lib.hid h1
  have HB := Lib.hid hb
  clear hl hp h1 hb
  go_enter Tryz.func70, Tryz.ntmps70
  go_wp2
  go_loopw [3, 5, 29] (fun v _ i wr => ∃ k : Nat, k ≤ lp ∧ i = .int .i64 k ∧ v = .int .i64 ((posF fl k : Nat) : Int) ∧ Below w.heap.size w wr) (fun _ _ i _ => lp - (intOf i).toNat)
  case atStart => exact ⟨0, by omega, rfl, rfl, bel0⟩
  case round =>
    clear bel0
    obtain ⟨k, hk, rfl, rfl, bel⟩ := hrel
    by_cases hlt : k < lp
    · obtain ⟨b, o, rfl, hb1, hc1, hc2, hc3⟩ := (HP.out.below bel).three (k := k) (by have := HL.out; omega)
      have hpl := posF_lt fl hlt
      have hbb := HB.out
      have hnn := H1.out k hlt
      have HS : Hid (posF fl (k + 1) = posF fl k + (2 + 2 * lenF fl k)) := Lib.hid rfl
      have e0 : nth fl (3 * k + 2) = ((lenF fl k : Nat) : Int) := by rw [lenF]; omega
      rw [e0] at hc3
      clear e0 hnn
      generalize lenF fl k = p at *
      generalize posF fl k = s at *
      generalize nth fl (3 * k) = y0 at *
      generalize nth fl (3 * k + 1) = y1 at *
      have hs : s + (2 + 2 * p) ≤ 247 := by omega
      have e1 : IntKind.i64.wrap (2 * (p : Int)) = 2 * (p : Int) := IntWalk.i64_in _ (by omega)
      have e2 : IntKind.i64.wrap (2 + 2 * (p : Int)) = 2 + 2 * (p : Int) := IntWalk.i64_in _ (by omega)
      have e3 : IntKind.i64.wrap ((s : Int) + (2 + 2 * (p : Int))) = (s : Int) + (2 + 2 * (p : Int)) := IntWalk.i64_in _ (by omega)
      have hbelB : Below w.heap.size w (wr.alloc (.cells #[.int .i64 y0, .int .i64 y1, .int .i64 p] 47)) := bel.alloc bel.size _
      clear hpl hbb
      go_wp2
      go_roundw
      case rel => exact ⟨k + 1, by omega, by go_num, by rw [HS.out]; rfl, hbelB⟩
      case measure => simp [intOf]; omega
    · obtain rfl : k = lp := by omega
      go_wp2
      go_ret
      exact ⟨rfl, bel⟩
/-- How many bytes each answer to a right request has that is no exception. -/
theorem rpSize_any (q : Req) (Ao As Ap : Option Addr) (lo ls lp co cs cp : Nat) (w : World) (h : Asked w w.heap.size q Ao As Ap lo ls lp) (hk : chkQ q = 0) :
    Calls Tryz.prog 70 #[.agg #[.int .i64 q.c, .int .i64 q.a, .int .i64 q.n, .slice Ao lo co, .slice As ls cs, .slice Ap lp cp]] w fun e w' => e = .returned (.int .i64 ((sizeR q : Nat) : Int)) ∧ Below w.heap.size w w' := by
  unfold sizeR
  by_cases h1 : q.c = 1 ∨ q.c = 2
  · have := right_bits hk h1
    rw [if_pos h1]
    have e : q.n = ((q.n.toNat : Nat) : Int) := by omega
    have hc := rpSize_bits q.c q.a q.n.toNat Ao As Ap lo co ls cs lp cp w h1 (by omega)
    rw [← e] at hc
    exact hc
  · rw [if_neg h1]
    by_cases h2 : q.c = 3 ∨ q.c = 4
    · have := right_words hk h2
      rw [if_pos h2]
      have e : q.n = ((q.n.toNat : Nat) : Int) := by omega
      have hc := rpSize_words q.c q.a q.n.toNat Ao As Ap lo co ls cs lp cp w h2 (by omega)
      rw [← e] at hc
      exact hc
    · rw [if_neg h2]
      by_cases h3 : q.c = 20
      · obtain ⟨f1, f2, f3⟩ := right_files hk h3
        have e : q.fl.length / 3 = lp := by have := h.lp; omega
        rw [if_pos h3, e]
        rw [e] at f1 f2 f3
        have hc := rpSize_file q.a q.n q.fl Ao As Ap lo co ls cs lp cp w h.fl h.lp f2 f3 (by omega)
        rw [← h3] at hc
        exact hc
      · rw [if_neg h3]
        exact rpSize_else q.c q.a q.n Ao As Ap lo co ls cs lp cp w h1 h2 h3
end Go.Proofs.YtobhllcnljggiaaGreat
namespace Go.Proofs.YtobhllcnljggiaaGreat
open Go.RowKit
set_option linter.unusedVariables false

set_option maxHeartbeats 2000000 in
set_option maxRecDepth 100000 in
/-- A count that is not that of the bytes behind it. -/
theorem rpRead_count (c a n : Int) (Ao As Ap : Option Addr) (lo co ls cs lp cp : Nat) (b o m cap : Nat) (ys : List Int) (w : World) (hw : wrB c = false) (hr : Row .u8 w w.heap.size (some ⟨b, o, none⟩) ys) (hy : ys.length = m) (hcap : m ≤ cap) (hcb : cap ≤ 9223372036854775807) (hm : 2 ≤ m) (hb : m ≤ 1000000) (h1 : nth ys 1 ≠ ((m - 2 : Nat) : Int)) :
    Calls Tryz.prog 71 #[.agg #[.int .i64 c, .int .i64 a, .int .i64 n, .slice Ao lo co, .slice As ls cs, .slice Ap lp cp], .slice (some ⟨b, o, none⟩) m cap] w (RdK w Rep.zero (.bool false)) := by
  have HM := Lib.hid hm
  have HW := Lib.hid hw
  have hwf := wf_u8 (hr.wf_at (i := 1) (by omega))
  obtain ⟨b', o', hA, hbB, hcell⟩ := hr.at_ (i := 1) (by omega)
  injection hA with hA
  injection hA with hA1 hA2
  subst hA1 hA2
  obtain ⟨x, hx⟩ : ∃ x, nth ys 1 = x := ⟨_, rfl⟩
  rw [hx] at h1 hcell hwf
  have t0 := TB.new2 w #[.int .i64 c, .int .i64 a, .int .i64 n, .slice Ao lo co, .slice As ls cs, .slice Ap lp cp] #[.int .i64 0, .slice none 0 0, .slice none 0 0, .slice none 0 0] 26 29
  have e0 : IntKind.i64.wrap x = x := IntWalk.i64_in _ (by omega)
  have em1 : IntKind.i64.wrap ((m : Int) - 2) = ((m - 2 : Nat) : Int) := by rw [IntWalk.i64_in _ (by omega)]; omega
  have tn : (x != ((m - 2 : Nat) : Int)) = true := by simpa using h1
  have tn2 : (x == ((m - 2 : Nat) : Int)) = false := beq_false_of_ne h1
  have hm2 : 1 < m := by omega
  have HC1 := Lib.hid hcell
  clear hr hy hw hcell h1 hx
  go_enter Tryz.func71, Tryz.ntmps71
  go_wp2_with fail
  refine (Writes_any _ a n Ao As Ap lo co ls cs lp cp _).mono ?_
  rintro e w1 ⟨rfl, b1⟩
  rw [HW.out]
  have t1 := t0.below b1
  clear t0 b1
  go_wp2_with fail
  refine (taker_any (some ⟨b, o, none⟩) m cap _).mono ?_
  rintro e w2' ⟨rfl, rfl⟩
  have t2 := t1.alloc (.cells #[.slice (some ⟨b, o, none⟩) m cap] 34)
  have hg2 := Lib.hid (heap_alloc_new w1 (.cells #[.slice (some ⟨b, o, none⟩) m cap] 34))
  have hz := t1.lt
  generalize w1.heap.size = g at *
  clear t1
  generalize w1.alloc (.cells #[.slice (some ⟨b, o, none⟩) m cap] 34) = w2 at *
  go_wp2_with fail
  refine (take_any b o m cap 2 g _ hg2.out hcap (by have := HM.out; omega) hcb).mono ?_
  rintro e w3' ⟨rfl, A', hA', rfl⟩
  have t3 := t2.far hz 0 (.slice A' (m - 2) (cap - 2))
  have hc3 := (t3.bel.cell (p := ⟨b, o + 1, none⟩) hbB).trans HC1.out
  clear t2 hg2 hA'
  generalize w2.setCell ⟨g, 0, none⟩ (.slice A' (m - 2) (cap - 2)) = w3 at *
  have P5 := Lib.hid (t3.put4 (.int .i64 0) (.slice none 0 0) (.slice none 0 0) (.slice none 0 0))
  obtain ⟨d0, d1, d2, d3, d4⟩ := t3.c4
  go_wp2
  (try simp only [Exit.inBlock, Exit.then])
  show bodyPost _ _ _ _ _ (put4 (w3) (w.heap.size + 1) (.int .i64 0) (.slice none 0 0) (.slice none 0 0) (.slice none 0 0))
  generalize put4 (w3) (w.heap.size + 1) (.int .i64 0) (.slice none 0 0) (.slice none 0 0) (.slice none 0 0) = w6 at *
  obtain ⟨x0, x1, x2, x3⟩ := cells4 P5.out.1
  refine bodyPost_ret (v := .tuple #[.agg #[.int .i64 0, .slice none 0 0, .slice none 0 0, .slice none 0 0], .bool false]) (by simp [results, Tryz.results71, go_sem, x0, x1, x2, x3]) rfl ?_
  exact RdK.exc rfl P5.out.2

set_option maxHeartbeats 2000000 in
set_option maxRecDepth 100000 in
theorem rpRead_bits_ok (c a : Int) (n d : Nat) (Ao As Ap : Option Addr) (lo co ls cs lp cp : Nat) (b o m cap : Nat) (ys : List Int) (w : World) (hc : c = 1 ∨ c = 2) (hr : Row .u8 w w.heap.size (some ⟨b, o, none⟩) ys) (hy : ys.length = m) (hcap : m ≤ cap) (hcb : cap ≤ 9223372036854775807) (hn : need n = d) (hm : m = 2 + d) (hd : 1 ≤ d ∧ d ≤ 255) (h1 : nth ys 1 = (d : Int)) (hs : spareB (ys.drop 2) n = false) :
    Calls Tryz.prog 71 #[.agg #[.int .i64 c, .int .i64 a, .int .i64 n, .slice Ao lo co, .slice As ls cs, .slice Ap lp cp], .slice (some ⟨b, o, none⟩) m cap] w (RdK w ⟨0, unpk (ys.drop 2) n, [], []⟩ (.bool true)) := by
  have HR := Lib.hid hr
  have HY := Lib.hid hy
  have HM := Lib.hid hm
  have HN := Lib.hid hn
  have HS := Lib.hid hs
  have HW : Hid (wrB c = false) := Lib.hid (decide_eq_false (by omega))
  obtain ⟨b', o', hA, hbB, hcell⟩ := hr.at_ (i := 1) (by omega)
  injection hA with hA
  injection hA with hA1 hA2
  subst hA1 hA2
  rw [h1] at hcell
  have t0 := TB.new2 w #[.int .i64 c, .int .i64 a, .int .i64 n, .slice Ao lo co, .slice As ls cs, .slice Ap lp cp] #[.int .i64 0, .slice none 0 0, .slice none 0 0, .slice none 0 0] 26 29
  have e0 : IntKind.i64.wrap (d : Int) = (d : Int) := IntWalk.i64_in _ (by omega)
  have em1 : IntKind.i64.wrap ((m : Int) - 2) = (d : Int) := by rw [IntWalk.i64_in _ (by omega)]; omega
  have tn : ((d : Int) != (d : Int)) = false := by simp
  have hm2 : 1 < m := by omega
  have HC1 := Lib.hid hcell
  clear hr hy hm hn hs h1 hcell
  rcases hc with rfl | rfl
  · go_enter Tryz.func71, Tryz.ntmps71
    go_wp2_with fail
    refine (Writes_any _ a n Ao As Ap lo co ls cs lp cp _).mono ?_
    rintro e w1 ⟨rfl, b1⟩
    rw [HW.out]
    have t1 := t0.below b1
    clear t0 b1
    go_wp2_with fail
    refine (taker_any (some ⟨b, o, none⟩) m cap _).mono ?_
    rintro e w2' ⟨rfl, rfl⟩
    have t2 := t1.alloc (.cells #[.slice (some ⟨b, o, none⟩) m cap] 34)
    have hg2 := Lib.hid (heap_alloc_new w1 (.cells #[.slice (some ⟨b, o, none⟩) m cap] 34))
    have hz := t1.lt
    generalize w1.heap.size = g at *
    clear t1
    generalize w1.alloc (.cells #[.slice (some ⟨b, o, none⟩) m cap] 34) = w2 at *
    go_wp2_with fail
    refine (take_any b o m cap 2 g _ hg2.out hcap (by have := HM.out; omega) hcb).mono ?_
    rintro e w3' ⟨rfl, A', hA', rfl⟩
    obtain rfl := hA' (by have := HM.out; omega)
    clear hA'
    have t3 := t2.far hz 0 (.slice (some ⟨b, o + 2, none⟩) (m - 2) (cap - 2))
    have hg3 : (w2.setCell ⟨g, 0, none⟩ (.slice (some ⟨b, o + 2, none⟩) (m - 2) (cap - 2))).heap[g]? = some (.cells #[.slice (some ⟨b, o + 2, none⟩) (m - 2) (cap - 2)] 34 (0, 0)) := box_set hg2.out 0 _
    have hc3 := (t3.bel.cell (p := ⟨b, o + 1, none⟩) hbB).trans HC1.out
    clear t2 hg2
    generalize w2.setCell ⟨g, 0, none⟩ (.slice (some ⟨b, o + 2, none⟩) (m - 2) (cap - 2)) = w3 at *
    have HG3 := Lib.hid hg3
    clear hg3
    obtain ⟨r0, r1, r2, r3, r4, r5, r6⟩ := t3.r6
    go_wp2_with fail
    clear r0 r1 r2 r3 r4 r5 r6
    go_region_held3 (fun w' => TB w w.heap.size (.cells #[.int .i64 1, .int .i64 a, .int .i64 n, .slice Ao lo co, .slice As ls cs, .slice Ap lp cp] 26 (0, 0)) (.cells #[.int .i64 0, .slice none 0 0, .slice none 0 0, .slice none 0 0] 29 (0, 0)) w' ∧ w'.cell? ⟨w.heap.size, 2, none⟩ = some (.int .i64 n))
      ((first
        | exact ⟨t3.drew, t3.drew.r6.2.2.1⟩
        | exact ⟨t5, t5.r6.2.2.1⟩
        | exact ⟨t4, t4.r6.2.2.1⟩))
      (first
        | (go_at_call 102; refine (take_at b (o + 2) (m - 2) (cap - 2) d g _ rfl w3.drew HG3.out (by omega) (by have := HM.out; omega) (by omega)).mono ?_; rintro e w4' ⟨rfl, A', _, rfl⟩; have t4 := t3.drew.far hz 0 (.slice A' (m - 2 - d) (cap - 2 - d)))
        | (go_at_call 94; refine (Unbits_ok _ d (cap - 2) n (ys.drop 2) _ (((HR.out.drop 2).tb t4).more (Nat.le_of_lt (Nat.lt_of_succ_lt t4.lt))) (by rw [List.length_drop, HY.out, HM.out]; omega) (by omega) HN.out.symm HS.out).mono ?_; rintro e w5 ⟨g5, hg5, rfl, bk5, b5⟩; have t5 := t4.below b5; have hg5' : w.heap.size + 1 < g5 := by have := hg5.out; have := t4.lt; omega))
    have P5 := Lib.hid (t5.put4 (.int .i64 0) (.slice (some ⟨g5, 0, none⟩) n n) (.slice none 0 0) (.slice none 0 0))
    have P6 := Lib.hid ((put4_other (w := w5) (g := w.heap.size + 1) (j := g5) (by omega) (.int .i64 0) (.slice (some ⟨g5, 0, none⟩) n n) (.slice none 0 0) (.slice none 0 0)).trans bk5)
    obtain ⟨d0, d1, d2, d3, d4⟩ := t5.c4
    clear bk5 HG3 t3 b5 hg5 t4
    go_wp2
    (try simp only [Exit.inBlock, Exit.then])
    show bodyPost _ _ _ _ _ (put4 (w5) (w.heap.size + 1) (.int .i64 0) (.slice (some ⟨g5, 0, none⟩) n n) (.slice none 0 0) (.slice none 0 0))
    generalize put4 (w5) (w.heap.size + 1) (.int .i64 0) (.slice (some ⟨g5, 0, none⟩) n n) (.slice none 0 0) (.slice none 0 0) = w6 at *
    obtain ⟨x0, x1, x2, x3⟩ := cells4 P5.out.1
    refine bodyPost_ret (v := .tuple #[.agg #[.int .i64 0, .slice (some ⟨g5, 0, none⟩) n n, .slice none 0 0, .slice none 0 0], .bool true]) (by simp [results, Tryz.results71, go_sem, x0, x1, x2, x3]) rfl ?_
    exact ⟨_, _, _, n, 0, 0, n, 0, 0, rfl, ⟨.inr ⟨g5, rfl, rfl, by omega, unpk_length _ _, P6.out⟩, WordK.nil _ _, FileK.nil _ _⟩, P5.out.2⟩

  · go_enter Tryz.func71, Tryz.ntmps71
    go_wp2_with fail
    refine (Writes_any _ a n Ao As Ap lo co ls cs lp cp _).mono ?_
    rintro e w1 ⟨rfl, b1⟩
    rw [HW.out]
    have t1 := t0.below b1
    clear t0 b1
    go_wp2_with fail
    refine (taker_any (some ⟨b, o, none⟩) m cap _).mono ?_
    rintro e w2' ⟨rfl, rfl⟩
    have t2 := t1.alloc (.cells #[.slice (some ⟨b, o, none⟩) m cap] 34)
    have hg2 := Lib.hid (heap_alloc_new w1 (.cells #[.slice (some ⟨b, o, none⟩) m cap] 34))
    have hz := t1.lt
    generalize w1.heap.size = g at *
    clear t1
    generalize w1.alloc (.cells #[.slice (some ⟨b, o, none⟩) m cap] 34) = w2 at *
    go_wp2_with fail
    refine (take_any b o m cap 2 g _ hg2.out hcap (by have := HM.out; omega) hcb).mono ?_
    rintro e w3' ⟨rfl, A', hA', rfl⟩
    obtain rfl := hA' (by have := HM.out; omega)
    clear hA'
    have t3 := t2.far hz 0 (.slice (some ⟨b, o + 2, none⟩) (m - 2) (cap - 2))
    have hg3 : (w2.setCell ⟨g, 0, none⟩ (.slice (some ⟨b, o + 2, none⟩) (m - 2) (cap - 2))).heap[g]? = some (.cells #[.slice (some ⟨b, o + 2, none⟩) (m - 2) (cap - 2)] 34 (0, 0)) := box_set hg2.out 0 _
    have hc3 := (t3.bel.cell (p := ⟨b, o + 1, none⟩) hbB).trans HC1.out
    clear t2 hg2
    generalize w2.setCell ⟨g, 0, none⟩ (.slice (some ⟨b, o + 2, none⟩) (m - 2) (cap - 2)) = w3 at *
    have HG3 := Lib.hid hg3
    clear hg3
    obtain ⟨r0, r1, r2, r3, r4, r5, r6⟩ := t3.r6
    go_wp2_with fail
    clear r0 r1 r2 r3 r4 r5 r6
    go_region_held3 (fun w' => TB w w.heap.size (.cells #[.int .i64 2, .int .i64 a, .int .i64 n, .slice Ao lo co, .slice As ls cs, .slice Ap lp cp] 26 (0, 0)) (.cells #[.int .i64 0, .slice none 0 0, .slice none 0 0, .slice none 0 0] 29 (0, 0)) w' ∧ w'.cell? ⟨w.heap.size, 2, none⟩ = some (.int .i64 n))
      ((first
        | exact ⟨t3.drew, t3.drew.r6.2.2.1⟩
        | exact ⟨t5, t5.r6.2.2.1⟩
        | exact ⟨t4, t4.r6.2.2.1⟩))
      (first
        | (go_at_call 102; refine (take_at b (o + 2) (m - 2) (cap - 2) d g _ rfl w3.drew HG3.out (by omega) (by have := HM.out; omega) (by omega)).mono ?_; rintro e w4' ⟨rfl, A', _, rfl⟩; have t4 := t3.drew.far hz 0 (.slice A' (m - 2 - d) (cap - 2 - d)))
        | (go_at_call 94; refine (Unbits_ok _ d (cap - 2) n (ys.drop 2) _ (((HR.out.drop 2).tb t4).more (Nat.le_of_lt (Nat.lt_of_succ_lt t4.lt))) (by rw [List.length_drop, HY.out, HM.out]; omega) (by omega) HN.out.symm HS.out).mono ?_; rintro e w5 ⟨g5, hg5, rfl, bk5, b5⟩; have t5 := t4.below b5; have hg5' : w.heap.size + 1 < g5 := by have := hg5.out; have := t4.lt; omega))
    have P5 := Lib.hid (t5.put4 (.int .i64 0) (.slice (some ⟨g5, 0, none⟩) n n) (.slice none 0 0) (.slice none 0 0))
    have P6 := Lib.hid ((put4_other (w := w5) (g := w.heap.size + 1) (j := g5) (by omega) (.int .i64 0) (.slice (some ⟨g5, 0, none⟩) n n) (.slice none 0 0) (.slice none 0 0)).trans bk5)
    obtain ⟨d0, d1, d2, d3, d4⟩ := t5.c4
    clear bk5 HG3 t3 b5 hg5 t4
    go_wp2
    (try simp only [Exit.inBlock, Exit.then])
    show bodyPost _ _ _ _ _ (put4 (w5) (w.heap.size + 1) (.int .i64 0) (.slice (some ⟨g5, 0, none⟩) n n) (.slice none 0 0) (.slice none 0 0))
    generalize put4 (w5) (w.heap.size + 1) (.int .i64 0) (.slice (some ⟨g5, 0, none⟩) n n) (.slice none 0 0) (.slice none 0 0) = w6 at *
    obtain ⟨x0, x1, x2, x3⟩ := cells4 P5.out.1
    refine bodyPost_ret (v := .tuple #[.agg #[.int .i64 0, .slice (some ⟨g5, 0, none⟩) n n, .slice none 0 0, .slice none 0 0], .bool true]) (by simp [results, Tryz.results71, go_sem, x0, x1, x2, x3]) rfl ?_
    exact ⟨_, _, _, n, 0, 0, n, 0, 0, rfl, ⟨.inr ⟨g5, rfl, rfl, by omega, unpk_length _ _, P6.out⟩, WordK.nil _ _, FileK.nil _ _⟩, P5.out.2⟩


set_option maxHeartbeats 2000000 in
set_option maxRecDepth 100000 in
theorem rpRead_bits_no (c a : Int) (n d : Nat) (Ao As Ap : Option Addr) (lo co ls cs lp cp : Nat) (b o m cap : Nat) (ys : List Int) (w : World) (hc : c = 1 ∨ c = 2) (hr : Row .u8 w w.heap.size (some ⟨b, o, none⟩) ys) (hy : ys.length = m) (hcap : m ≤ cap) (hcb : cap ≤ 9223372036854775807) (hn : need n = d) (hm : m = 2 + d) (hd : 1 ≤ d ∧ d ≤ 255) (h1 : nth ys 1 = (d : Int)) (hs : spareB (ys.drop 2) n = true) :
    Calls Tryz.prog 71 #[.agg #[.int .i64 c, .int .i64 a, .int .i64 n, .slice Ao lo co, .slice As ls cs, .slice Ap lp cp], .slice (some ⟨b, o, none⟩) m cap] w (RdK w Rep.zero (.bool false)) := by
  have HR := Lib.hid hr
  have HY := Lib.hid hy
  have HM := Lib.hid hm
  have HN := Lib.hid hn
  have HS := Lib.hid hs
  have HW : Hid (wrB c = false) := Lib.hid (decide_eq_false (by omega))
  obtain ⟨b', o', hA, hbB, hcell⟩ := hr.at_ (i := 1) (by omega)
  injection hA with hA
  injection hA with hA1 hA2
  subst hA1 hA2
  rw [h1] at hcell
  have t0 := TB.new2 w #[.int .i64 c, .int .i64 a, .int .i64 n, .slice Ao lo co, .slice As ls cs, .slice Ap lp cp] #[.int .i64 0, .slice none 0 0, .slice none 0 0, .slice none 0 0] 26 29
  have e0 : IntKind.i64.wrap (d : Int) = (d : Int) := IntWalk.i64_in _ (by omega)
  have em1 : IntKind.i64.wrap ((m : Int) - 2) = (d : Int) := by rw [IntWalk.i64_in _ (by omega)]; omega
  have tn : ((d : Int) != (d : Int)) = false := by simp
  have hm2 : 1 < m := by omega
  have HC1 := Lib.hid hcell
  clear hr hy hm hn hs h1 hcell
  rcases hc with rfl | rfl
  · go_enter Tryz.func71, Tryz.ntmps71
    go_wp2_with fail
    refine (Writes_any _ a n Ao As Ap lo co ls cs lp cp _).mono ?_
    rintro e w1 ⟨rfl, b1⟩
    rw [HW.out]
    have t1 := t0.below b1
    clear t0 b1
    go_wp2_with fail
    refine (taker_any (some ⟨b, o, none⟩) m cap _).mono ?_
    rintro e w2' ⟨rfl, rfl⟩
    have t2 := t1.alloc (.cells #[.slice (some ⟨b, o, none⟩) m cap] 34)
    have hg2 := Lib.hid (heap_alloc_new w1 (.cells #[.slice (some ⟨b, o, none⟩) m cap] 34))
    have hz := t1.lt
    generalize w1.heap.size = g at *
    clear t1
    generalize w1.alloc (.cells #[.slice (some ⟨b, o, none⟩) m cap] 34) = w2 at *
    go_wp2_with fail
    refine (take_any b o m cap 2 g _ hg2.out hcap (by have := HM.out; omega) hcb).mono ?_
    rintro e w3' ⟨rfl, A', hA', rfl⟩
    obtain rfl := hA' (by have := HM.out; omega)
    clear hA'
    have t3 := t2.far hz 0 (.slice (some ⟨b, o + 2, none⟩) (m - 2) (cap - 2))
    have hg3 : (w2.setCell ⟨g, 0, none⟩ (.slice (some ⟨b, o + 2, none⟩) (m - 2) (cap - 2))).heap[g]? = some (.cells #[.slice (some ⟨b, o + 2, none⟩) (m - 2) (cap - 2)] 34 (0, 0)) := box_set hg2.out 0 _
    have hc3 := (t3.bel.cell (p := ⟨b, o + 1, none⟩) hbB).trans HC1.out
    clear t2 hg2
    generalize w2.setCell ⟨g, 0, none⟩ (.slice (some ⟨b, o + 2, none⟩) (m - 2) (cap - 2)) = w3 at *
    have HG3 := Lib.hid hg3
    clear hg3
    obtain ⟨r0, r1, r2, r3, r4, r5, r6⟩ := t3.r6
    go_wp2_with fail
    clear r0 r1 r2 r3 r4 r5 r6
    go_region_held3 (fun w' => TB w w.heap.size (.cells #[.int .i64 1, .int .i64 a, .int .i64 n, .slice Ao lo co, .slice As ls cs, .slice Ap lp cp] 26 (0, 0)) (.cells #[.int .i64 0, .slice none 0 0, .slice none 0 0, .slice none 0 0] 29 (0, 0)) w' ∧ w'.cell? ⟨w.heap.size, 2, none⟩ = some (.int .i64 n))
      ((first
        | exact ⟨t3.drew, t3.drew.r6.2.2.1⟩
        | exact ⟨t5, t5.r6.2.2.1⟩
        | exact ⟨t4, t4.r6.2.2.1⟩))
      (first
        | (go_at_call 102; refine (take_at b (o + 2) (m - 2) (cap - 2) d g _ rfl w3.drew HG3.out (by omega) (by have := HM.out; omega) (by omega)).mono ?_; rintro e w4' ⟨rfl, A', _, rfl⟩; have t4 := t3.drew.far hz 0 (.slice A' (m - 2 - d) (cap - 2 - d)))
        | (go_at_call 94; refine (Unbits_spare _ d (cap - 2) n (ys.drop 2) _ _ (((HR.out.drop 2).tb t4).more (Nat.le_of_lt (Nat.lt_of_succ_lt t4.lt))) (by rw [List.length_drop, HY.out, HM.out]; omega) (by omega) HN.out.symm HS.out).mono ?_; rintro e w5 ⟨rfl, q5, hw5⟩; have t5 := t4.below (w' := w5) (by rw [hw5]; exact bel_drewN _ q5); clear hw5))
    have P5 := Lib.hid (t5.put4 (.int .i64 0) (.slice none 0 0) (.slice none 0 0) (.slice none 0 0))
    obtain ⟨d0, d1, d2, d3, d4⟩ := t5.c4
    clear HG3 t3 t4
    go_wp2
    (try simp only [Exit.inBlock, Exit.then])
    show bodyPost _ _ _ _ _ (put4 (w5) (w.heap.size + 1) (.int .i64 0) (.slice none 0 0) (.slice none 0 0) (.slice none 0 0))
    generalize put4 (w5) (w.heap.size + 1) (.int .i64 0) (.slice none 0 0) (.slice none 0 0) (.slice none 0 0) = w6 at *
    obtain ⟨x0, x1, x2, x3⟩ := cells4 P5.out.1
    refine bodyPost_ret (v := .tuple #[.agg #[.int .i64 0, .slice none 0 0, .slice none 0 0, .slice none 0 0], .bool false]) (by simp [results, Tryz.results71, go_sem, x0, x1, x2, x3]) rfl ?_
    exact RdK.exc rfl P5.out.2

  · go_enter Tryz.func71, Tryz.ntmps71
    go_wp2_with fail
    refine (Writes_any _ a n Ao As Ap lo co ls cs lp cp _).mono ?_
    rintro e w1 ⟨rfl, b1⟩
    rw [HW.out]
    have t1 := t0.below b1
    clear t0 b1
    go_wp2_with fail
    refine (taker_any (some ⟨b, o, none⟩) m cap _).mono ?_
    rintro e w2' ⟨rfl, rfl⟩
    have t2 := t1.alloc (.cells #[.slice (some ⟨b, o, none⟩) m cap] 34)
    have hg2 := Lib.hid (heap_alloc_new w1 (.cells #[.slice (some ⟨b, o, none⟩) m cap] 34))
    have hz := t1.lt
    generalize w1.heap.size = g at *
    clear t1
    generalize w1.alloc (.cells #[.slice (some ⟨b, o, none⟩) m cap] 34) = w2 at *
    go_wp2_with fail
    refine (take_any b o m cap 2 g _ hg2.out hcap (by have := HM.out; omega) hcb).mono ?_
    rintro e w3' ⟨rfl, A', hA', rfl⟩
    obtain rfl := hA' (by have := HM.out; omega)
    clear hA'
    have t3 := t2.far hz 0 (.slice (some ⟨b, o + 2, none⟩) (m - 2) (cap - 2))
    have hg3 : (w2.setCell ⟨g, 0, none⟩ (.slice (some ⟨b, o + 2, none⟩) (m - 2) (cap - 2))).heap[g]? = some (.cells #[.slice (some ⟨b, o + 2, none⟩) (m - 2) (cap - 2)] 34 (0, 0)) := box_set hg2.out 0 _
    have hc3 := (t3.bel.cell (p := ⟨b, o + 1, none⟩) hbB).trans HC1.out
    clear t2 hg2
    generalize w2.setCell ⟨g, 0, none⟩ (.slice (some ⟨b, o + 2, none⟩) (m - 2) (cap - 2)) = w3 at *
    have HG3 := Lib.hid hg3
    clear hg3
    obtain ⟨r0, r1, r2, r3, r4, r5, r6⟩ := t3.r6
    go_wp2_with fail
    clear r0 r1 r2 r3 r4 r5 r6
    go_region_held3 (fun w' => TB w w.heap.size (.cells #[.int .i64 2, .int .i64 a, .int .i64 n, .slice Ao lo co, .slice As ls cs, .slice Ap lp cp] 26 (0, 0)) (.cells #[.int .i64 0, .slice none 0 0, .slice none 0 0, .slice none 0 0] 29 (0, 0)) w' ∧ w'.cell? ⟨w.heap.size, 2, none⟩ = some (.int .i64 n))
      ((first
        | exact ⟨t3.drew, t3.drew.r6.2.2.1⟩
        | exact ⟨t5, t5.r6.2.2.1⟩
        | exact ⟨t4, t4.r6.2.2.1⟩))
      (first
        | (go_at_call 102; refine (take_at b (o + 2) (m - 2) (cap - 2) d g _ rfl w3.drew HG3.out (by omega) (by have := HM.out; omega) (by omega)).mono ?_; rintro e w4' ⟨rfl, A', _, rfl⟩; have t4 := t3.drew.far hz 0 (.slice A' (m - 2 - d) (cap - 2 - d)))
        | (go_at_call 94; refine (Unbits_spare _ d (cap - 2) n (ys.drop 2) _ _ (((HR.out.drop 2).tb t4).more (Nat.le_of_lt (Nat.lt_of_succ_lt t4.lt))) (by rw [List.length_drop, HY.out, HM.out]; omega) (by omega) HN.out.symm HS.out).mono ?_; rintro e w5 ⟨rfl, q5, hw5⟩; have t5 := t4.below (w' := w5) (by rw [hw5]; exact bel_drewN _ q5); clear hw5))
    have P5 := Lib.hid (t5.put4 (.int .i64 0) (.slice none 0 0) (.slice none 0 0) (.slice none 0 0))
    obtain ⟨d0, d1, d2, d3, d4⟩ := t5.c4
    clear HG3 t3 t4
    go_wp2
    (try simp only [Exit.inBlock, Exit.then])
    show bodyPost _ _ _ _ _ (put4 (w5) (w.heap.size + 1) (.int .i64 0) (.slice none 0 0) (.slice none 0 0) (.slice none 0 0))
    generalize put4 (w5) (w.heap.size + 1) (.int .i64 0) (.slice none 0 0) (.slice none 0 0) (.slice none 0 0) = w6 at *
    obtain ⟨x0, x1, x2, x3⟩ := cells4 P5.out.1
    refine bodyPost_ret (v := .tuple #[.agg #[.int .i64 0, .slice none 0 0, .slice none 0 0, .slice none 0 0], .bool false]) (by simp [results, Tryz.results71, go_sem, x0, x1, x2, x3]) rfl ?_
    exact RdK.exc rfl P5.out.2


set_option maxHeartbeats 2000000 in
set_option maxRecDepth 100000 in
/-- An echo that is right, and one that is not. -/
theorem rpRead_echo (q : Req) (Ao As Ap : Option Addr) (lo co ls cs lp cp : Nat) (b o m cap : Nat) (ys : List Int) (w : World) (h : Asked w w.heap.size q Ao As Ap lo ls lp) (hk : chkQ q = 0) (hw : wrB q.c = true) (n20 : q.c ≠ 20) (A : Option Addr) (hr : Row .u8 w w.heap.size A ys) (hy : ys.length = m) :
    Calls Tryz.prog 71 #[.agg #[.int .i64 q.c, .int .i64 q.a, .int .i64 q.n, .slice Ao lo co, .slice As ls cs, .slice Ap lp cp], .slice A m cap] w (RdK w Rep.zero (.bool (decide (ys = (putL q).take 5)))) := by
  have HW := Lib.hid hw
  have t0 := TB.new2 w #[.int .i64 q.c, .int .i64 q.a, .int .i64 q.n, .slice Ao lo co, .slice As ls cs, .slice Ap lp cp] #[.int .i64 0, .slice none 0 0, .slice none 0 0, .slice none 0 0] 26 29
  have H := Lib.hid h
  have HK := Lib.hid hk
  have H5 := Lib.hid (putL_five hk n20)
  have HR := Lib.hid hr
  have HY := Lib.hid hy
  have HPW : Hid (∀ x ∈ (putL q).take 5, (Lit.int .u8 x).wf = true) := Lib.hid (fun x hx => putL_wf q x (List.mem_of_mem_take hx))
  have HP5 := Lib.hid (putL_take hk n20)
  clear hw h hk hr hy
  go_enter Tryz.func71, Tryz.ntmps71
  go_wp2_with fail
  refine (Writes_any _ q.a q.n Ao As Ap lo co ls cs lp cp _).mono ?_
  rintro e w1 ⟨rfl, b1⟩
  rw [HW.out]
  have t1 := t0.below b1
  have HE := Lib.hid (echo_any q Ao As Ap lo ls lp co cs cp w1 ((H.out.below t1.bel).more t1.bel.size) HK.out H5.out)
  clear t0 b1
  obtain ⟨d0, d1, d2, d3, d4⟩ := t1.c4
  obtain ⟨r0, r1, r2, r3, r4, r5, r6⟩ := t1.r6
  go_wp2_with fail
  clear d0 d1 d2 d3 d4 r0 r1 r2 r3 r4 r5 r6
  refine HE.out.mono ?_
  rintro e w2 ⟨v2, rfl, own2, b2⟩
  obtain ⟨A2, c2, rfl, hrow, _⟩ := own2.row HPW.out
  have t2 := t1.below b2
  rw [HP5.out]
  have HR2 := Lib.hid ((HR.out.below t2.bel))
  have HRW := Lib.hid hrow
  obtain ⟨P, hP⟩ : ∃ P, Hid ((putL q).take 5 = P) := ⟨_, Lib.hid rfl⟩
  rw [hP.out] at HRW HP5
  have P5 := Lib.hid (t2.put4 (.int .i64 0) (.slice none 0 0) (.slice none 0 0) (.slice none 0 0))
  obtain ⟨d0, d1, d2, d3, d4⟩ := t2.c4
  rw [hP.out]
  clear t1 b2 own2 hrow HE
  by_cases he : ys = P
  · have HD : Hid (decide (ys = P) = true) := Lib.hid (decide_eq_true he)
    have HQ := Lib.hid he
    clear he
    go_wp2_with fail
    refine (equal_yes A A2 m 5 cap c2 ys w2 _ _ HR2.out (by rw [HQ.out]; exact HRW.out) HY.out (by rw [HQ.out]; exact HP5.out)).mono ?_
    rintro e w3 ⟨rfl, rfl⟩
    go_wp2
    (try simp only [Exit.inBlock, Exit.then])
    show bodyPost _ _ _ _ _ (put4 (w2) (w.heap.size + 1) (.int .i64 0) (.slice none 0 0) (.slice none 0 0) (.slice none 0 0))
    generalize put4 (w2) (w.heap.size + 1) (.int .i64 0) (.slice none 0 0) (.slice none 0 0) (.slice none 0 0) = w6 at *
    obtain ⟨x0, x1, x2, x3⟩ := cells4 P5.out.1
    refine bodyPost_ret (v := .tuple #[.agg #[.int .i64 0, .slice none 0 0, .slice none 0 0, .slice none 0 0], .bool true]) (by simp [results, Tryz.results71, go_sem, x0, x1, x2, x3]) rfl ?_
    exact RdK.exc (by rw [hP.out, HD.out]) P5.out.2
  · have HD : Hid (decide (ys = P) = false) := Lib.hid (decide_eq_false he)
    have HQ := Lib.hid he
    clear he
    go_wp2_with fail
    refine (equal_no A A2 m 5 cap c2 ys P w2 _ _ HR2.out HRW.out HY.out HP5.out HQ.out).mono ?_
    rintro e w3 ⟨rfl, rfl⟩
    go_wp2
    (try simp only [Exit.inBlock, Exit.then])
    show bodyPost _ _ _ _ _ (put4 (w2) (w.heap.size + 1) (.int .i64 0) (.slice none 0 0) (.slice none 0 0) (.slice none 0 0))
    generalize put4 (w2) (w.heap.size + 1) (.int .i64 0) (.slice none 0 0) (.slice none 0 0) (.slice none 0 0) = w6 at *
    obtain ⟨x0, x1, x2, x3⟩ := cells4 P5.out.1
    refine bodyPost_ret (v := .tuple #[.agg #[.int .i64 0, .slice none 0 0, .slice none 0 0, .slice none 0 0], .bool false]) (by simp [results, Tryz.results71, go_sem, x0, x1, x2, x3]) rfl ?_
    exact RdK.exc (by rw [hP.out, HD.out]) P5.out.2
end Go.Proofs.YtobhllcnljggiaaGreat
namespace Go.Proofs.YtobhllcnljggiaaGreat
open Go.RowKit
set_option linter.unusedVariables false

def exA : Req := ⟨3, 0, 2, [], [], []⟩
def exR : Rep := ⟨0, [], [1, 512], []⟩
theorem exA_chk : chkQ exA = 0 := by decide
theorem exR_chk : chkR exA exR = 0 := by decide

set_option maxHeartbeats 1000000 in
set_option maxRecDepth 100000 in
theorem two_any (w : World) : Calls Tryz.prog 4 #[] w fun e w' => ∃ g, w.heap.size ≤ g ∧ e = .returned (.tuple #[.agg #[.int .i64 3, .int .i64 0, .int .i64 2, .slice none 0 0, .slice none 0 0, .slice none 0 0], .agg #[.int .i64 0, .slice none 0 0, .slice (some ⟨g, 0, none⟩) 2 2, .slice none 0 0]]) ∧
    w'.heap[g]? = some (.cells (blk .u16 [1, 512]) 32 (0, 0)) ∧ Below w.heap.size w w' := by
  go_enter Tryz.func4, Tryz.ntmps4
  go_wp2
  (try simp only [Exit.inBlock, Exit.then])
  refine bodyPost_ret (v := .tuple #[.agg #[.int .i64 3, .int .i64 0, .int .i64 2, .slice none 0 0, .slice none 0 0, .slice none 0 0], .agg #[.int .i64 0, .slice none 0 0, .slice (some ⟨w.heap.size + 1 + 1, 0, none⟩) 2 2, .slice none 0 0]]) (by simp [results, Tryz.results4, go_sem]) rfl ?_
  exact ⟨w.heap.size + 1 + 1, by omega, rfl, heap_new_at _ _ (by simp), ((bel_alloc w _).alloc (by simp) _).alloc (by simp; omega) _⟩

set_option maxHeartbeats 1000000 in
/-- SameFiles, of two lists of none. -/
theorem SameFiles_nil (A A' : Option Addr) (c c' : Nat) (w : World) : Calls Tryz.prog 56 #[.slice A 0 c, .slice A' 0 c'] w fun e w' => e = .returned (.bool true) ∧ w' = w := by
  go_enter Tryz.func56, Tryz.ntmps56
  go_wp2
  go_loopw [5] (fun i wr => i = .int .i64 0 ∧ wr = w) (fun _ _ => 0)
  case atStart => exact ⟨rfl, rfl⟩
  case round =>
    obtain ⟨rfl, rfl⟩ := hrel
    go_wp2
    go_ret
    exact ⟨rfl, rfl⟩

set_option maxHeartbeats 1000000 in
set_option maxRecDepth 100000 in
/-- SameReply, of two answers that are the same and have no files. -/
theorem SameReply_flat (x : Int) (on : List Bool) (set : List Int) (Bo Bs Bf Bo' Bs' Bf' : Option Addr) (mo ms eo es ef eo' es' ef' : Nat) (w : World) (h1 : L.Row () w w.heap.size Bo on) (h2 : Row .u16 w w.heap.size Bs set) (h1' : L.Row () w w.heap.size Bo' on) (h2' : Row .u16 w w.heap.size Bs' set) (l1 : on.length = mo) (l2 : set.length = ms) (c1 : mo ≤ 1000000) (c2 : ms ≤ 1000000) :
    Calls Tryz.prog 23 #[.agg #[.int .i64 x, .slice Bo mo eo, .slice Bs ms es, .slice Bf 0 ef], .agg #[.int .i64 x, .slice Bo' mo eo', .slice Bs' ms es', .slice Bf' 0 ef']] w fun e w' => e = .returned (.bool true) ∧ Below w.heap.size w w' := by
  have t0 := TB.new2 w #[.int .i64 x, .slice Bo mo eo, .slice Bs ms es, .slice Bf 0 ef] #[.int .i64 x, .slice Bo' mo eo', .slice Bs' ms es', .slice Bf' 0 ef'] 29 29
  have bel := t0.bel
  have H1 := Lib.hid (h1.below bel)
  have H2 := Lib.hid (h2.below bel)
  have H1' := Lib.hid (h1'.below bel)
  have H2' := Lib.hid (h2'.below bel)
  have L1 := Lib.hid l1
  have L2 := Lib.hid l2
  have ex : (x == x) = true := by simp
  clear h1 h2 h1' h2' l1 l2 t0
  go_enter Tryz.func23, Tryz.ntmps23
  go_wp2_with fail
  refine (L.same_yes_bool _ _ _ _ _ on _ _ _ H1.out H1'.out L1.out (by omega)).mono ?_
  rintro e w' ⟨rfl, m1, rfl⟩
  go_wp2_with fail
  refine (W.same_yes_u16 _ _ _ _ _ set _ _ _ (H2.out.drewN m1) (H2'.out.drewN m1) L2.out (by omega)).mono ?_
  rintro e w' ⟨rfl, m2, rfl⟩
  rw [World.drewN_drewN]
  go_wp2_with fail
  refine (SameFiles_nil _ _ _ _ _).mono ?_
  rintro e w' ⟨rfl, rfl⟩
  go_wp2
  go_ret
  exact ⟨rfl, below_drewN bel _⟩

abbrev exAO : Obj := .cells #[.int .i64 3, .int .i64 0, .int .i64 2, .slice none 0 0, .slice none 0 0, .slice none 0 0] 26 (0, 0)
set_option maxHeartbeats 2000000 in
set_option maxRecDepth 100000 in
theorem works_yes (w : World) : Calls Tryz.prog 13 #[] w fun e w' => e = .returned (.bool true) ∧ Below w.heap.size w w' := by
  go_enter Tryz.func13, Tryz.ntmps13
  go_wp2_with fail
  refine (two_any _).mono ?_
  rintro e w1 ⟨g, hg, rfl, hb, b1⟩
  have t0 := TB.new2 w1 #[.int .i64 3, .int .i64 0, .int .i64 2, .slice none 0 0, .slice none 0 0, .slice none 0 0] #[.int .i64 0, .slice none 0 0, .slice (some ⟨g, 0, none⟩) 2 2, .slice none 0 0] 26 29
  have hgl := block_lt hb
  have hb0 := Lib.hid ((t0.bel.block g hgl).trans hb)
  have hsz0 : w1.heap.size ≤ ((w1.alloc (.cells #[.int .i64 3, .int .i64 0, .int .i64 2, .slice none 0 0, .slice none 0 0, .slice none 0 0] 26)).alloc (.cells #[.int .i64 0, .slice none 0 0, .slice (some ⟨g, 0, none⟩) 2 2, .slice none 0 0] 29)).heap.size := t0.bel.size
  have hwf : ∀ x ∈ [(1 : Int), 512], (Lit.int .u16 x).wf = true := by decide
  have HP := Lib.hid (rpPut_words exA exR none none none none (some ⟨g, 0, none⟩) none 0 0 0 0 0 0 0 2 0 0 2 0 _ (Asked.of_nil ((w1.alloc (.cells #[.int .i64 3, .int .i64 0, .int .i64 2, .slice none 0 0, .slice none 0 0, .slice none 0 0] 26)).alloc (.cells #[.int .i64 0, .slice none 0 0, .slice (some ⟨g, 0, none⟩) 2 2, .slice none 0 0] 29)) _ _ _ _) ⟨L.Row.nil _ _ _ _, (Row.of_block hb0.out [1, 512] hwf (List.prefix_refl _)).more (by omega), FRow.nil _ _ _, rfl, rfl, rfl⟩ (by omega) exR_chk rfl (.inl rfl) (by omega))
  go_wp2_with fail
  refine HP.out.mono ?_
  rintro e w2 ⟨v2, rfl, own2, b2⟩
  have eL : exA.c :: 2 * ((2 : Nat) : Int) :: wbytes exR.set = [3, 4, 0, 1, 2, 0] := by decide
  rw [eL] at own2
  have hwL : ∀ x ∈ [(3 : Int), 4, 0, 1, 2, 0], (Lit.int .u8 x).wf = true := by decide
  obtain ⟨A2, c2, rfl, row2, hle, hmx⟩ := own2.row hwL
  obtain ⟨b, o, rfl, hb2, _⟩ := row2.at_ (i := 0) (by simp)
  have t2 := t0.below b2
  have hz2 := t2.lt
  have hb02 := Lib.hid ((b2.block g (by omega)).trans hb0.out)
  have R2 := Lib.hid row2
  have hle' : 6 ≤ c2 := hle
  have hmx' : c2 ≤ 9223372036854775807 := by simpa [maxLen] using hmx
  have HG := Lib.hid (rpGet_words exA 2 rfl none none none 0 0 0 0 0 0 b o 6 c2 [3, 4, 0, 1, 2, 0] w2 (Asked.of_nil _ _ _ _ _) exA_chk (.inl rfl) R2.out rfl rfl ⟨by omega, by omega⟩ hle' hmx' rfl rfl)
  have eW : wwords (List.drop 2 [(3 : Int), 4, 0, 1, 2, 0]) = [1, 512] := by decide
  rw [eW] at HG
  clear own2 row2 hle hmx b2 t0 HP hsz0 hb0
  obtain ⟨d0, d1, d2, d3, d4⟩ := t2.c4
  obtain ⟨r0, r1, r2, r3, r4, r5, r6⟩ := t2.r6
  go_wp2_with fail
  clear d0 d1 d2 d3 d4 r0 r1 r2 r3 r4 r5 r6
  refine HG.out.mono ?_
  rintro e w3 ⟨g3, hg3, rfl, hb3, b3⟩
  have t3 := t2.below b3
  have hg3l := block_lt hb3
  have hbg3 := Lib.hid ((b3.block g (by omega)).trans hb02.out)
  have R3 := Lib.hid ((R2.out.below b3).more b3.size)
  -- the box of what was read, and the list to hold it against
  have b4 : Below w3.heap.size w3 ((w3.alloc (.cells #[.int .i64 0, .slice none 0 0, .slice (some ⟨g3, 0, none⟩) 2 2, .slice none 0 0] 29)).alloc (.cells (blk .u8 [3, 4, 0, 1, 2, 0]) 5)) := (bel_alloc w3 _).alloc (by simp) _
  have t4 := t3.below b4
  have hlit := Lib.hid (heap_alloc_new (w3.alloc (.cells #[.int .i64 0, .slice none 0 0, .slice (some ⟨g3, 0, none⟩) 2 2, .slice none 0 0] 29)) (.cells (blk .u8 [3, 4, 0, 1, 2, 0]) 5))
  have hz3 : (w3.alloc (.cells #[.int .i64 0, .slice none 0 0, .slice (some ⟨g3, 0, none⟩) 2 2, .slice none 0 0] 29)).heap.size = w3.heap.size + 1 := by simp
  rw [hz3] at hlit
  have R4 := Lib.hid (R3.out.below b4)
  have hb34 := Lib.hid ((b4.block g3 hg3l).trans hb3)
  have hbg4 := Lib.hid ((b4.block g (by have := t3.lt; have := b3.size; omega)).trans hbg3.out)
  have hbx4 := Lib.hid ((heap_alloc_old (w3.alloc (.cells #[.int .i64 0, .slice none 0 0, .slice (some ⟨g3, 0, none⟩) 2 2, .slice none 0 0] 29)) (.cells (blk .u8 [3, 4, 0, 1, 2, 0]) 5) (r := w3.heap.size) (by simp)).trans (heap_alloc_new w3 (.cells #[.int .i64 0, .slice none 0 0, .slice (some ⟨g3, 0, none⟩) 2 2, .slice none 0 0] 29)))
  have bel3 : Below w.heap.size w w3 := (b1.trans (t3.bel.mono b1.size))
  clear t2 HG hb02 b3 R2
  go_wp2_with fail
  refine (same_yes_u8 (some ⟨b, o, none⟩) _ 6 _ _ [3, 4, 0, 1, 2, 0] _ _ _ R4.out (Row.of_block hlit.out [3, 4, 0, 1, 2, 0] hwL (List.prefix_refl _)) rfl (by omega)).mono ?_
  rintro e w5 ⟨rfl, m, rfl⟩
  have b5 := bel_drewN ((w3.alloc (.cells #[.int .i64 0, .slice none 0 0, .slice (some ⟨g3, 0, none⟩) 2 2, .slice none 0 0] 29)).alloc (.cells (blk .u8 [3, 4, 0, 1, 2, 0]) 5)) m
  have hsz4 : w3.heap.size ≤ ((w3.alloc (.cells #[.int .i64 0, .slice none 0 0, .slice (some ⟨g3, 0, none⟩) 2 2, .slice none 0 0] 29)).alloc (.cells (blk .u8 [3, 4, 0, 1, 2, 0]) 5)).heap.size := b4.size
  have t5 := t4.below b5
  have RA := Lib.hid ((Row.of_block hb34.out [1, 512] hwf (List.prefix_refl _)).more (block_lt hb34.out))
  have RB := Lib.hid ((Row.of_block hbg4.out [1, 512] hwf (List.prefix_refl _)).more (block_lt hbg4.out))
  have hbx5 := (b5.block w3.heap.size (block_lt hbx4.out)).trans hbx4.out
  obtain ⟨y0, y1, y2, y3⟩ := cells4 hbx5
  obtain ⟨d0, d1, d2, d3, d4⟩ := t5.c4
  have bel5 := bel3.trans (((b4.mono (Nat.le_refl _)).trans (b5.mono hsz4)).mono bel3.size)
  clear hbx5 t5 t4 b4
  go_wp2_with fail
  clear y0 y1 y2 y3 d0 d1 d2 d3 d4
  refine (SameReply_flat 0 [] [1, 512] none (some ⟨g3, 0, none⟩) none none (some ⟨g, 0, none⟩) none 0 2 0 2 0 0 2 0 _ (L.Row.nil _ _ _ _) (RA.out.drewN m) (L.Row.nil _ _ _ _) (RB.out.drewN m) rfl rfl (by omega) (by omega)).mono ?_
  rintro e w6 ⟨rfl, b6⟩
  go_wp2
  go_ret
  exact ⟨rfl, bel5.trans (b6.mono bel5.size)⟩
end Go.Proofs.YtobhllcnljggiaaGreat
namespace Go.Proofs.YtobhllcnljggiaaGreat
open Go.RowKit
set_option linter.unusedVariables false

set_option maxHeartbeats 1000000 in
set_option maxRecDepth 100000 in
/-- SameReply, of two answers that are the same. -/
theorem SameReply_yes (x : Int) (on : List Bool) (set : List Int) (fs : List (List Int)) (Bo Bs Bf Bo' Bs' Bf' : Option Addr) (mo ms mf eo es ef eo' es' ef' : Nat) (w : World) (h1 : L.Row () w w.heap.size Bo on) (h2 : Row .u16 w w.heap.size Bs set) (h1' : L.Row () w w.heap.size Bo' on) (h2' : Row .u16 w w.heap.size Bs' set) (h3 : FRow w w.heap.size Bf fs) (h3' : FRow w w.heap.size Bf' fs) (l1 : on.length = mo) (l2 : set.length = ms) (l3 : fs.length = mf) (c1 : mo ≤ 70368744177664) (c2 : ms ≤ 70368744177664) (c3 : mf ≤ 1000000) (c4 : ∀ i, i < mf → (nthF fs i).length ≤ 70368744177664) :
    Calls Tryz.prog 23 #[.agg #[.int .i64 x, .slice Bo mo eo, .slice Bs ms es, .slice Bf mf ef], .agg #[.int .i64 x, .slice Bo' mo eo', .slice Bs' ms es', .slice Bf' mf ef']] w fun e w' => e = .returned (.bool true) ∧ Below w.heap.size w w' := by
  have t0 := TB.new2 w #[.int .i64 x, .slice Bo mo eo, .slice Bs ms es, .slice Bf mf ef] #[.int .i64 x, .slice Bo' mo eo', .slice Bs' ms es', .slice Bf' mf ef'] 29 29
  have bel := t0.bel
  have H1 := Lib.hid (h1.below bel)
  have H2 := Lib.hid (h2.below bel)
  have H3 := Lib.hid (h3.below bel)
  have H3' := Lib.hid (h3'.below bel)
  have L3 := Lib.hid l3
  have C4 := Lib.hid c4
  have H1' := Lib.hid (h1'.below bel)
  have H2' := Lib.hid (h2'.below bel)
  have L1 := Lib.hid l1
  have L2 := Lib.hid l2
  have ex : (x == x) = true := by simp
  clear h1 h2 h1' h2' h3 h3' l1 l2 l3 c4 t0
  go_enter Tryz.func23, Tryz.ntmps23
  go_wp2_with fail
  refine (L.same_yes_bool _ _ _ _ _ on _ _ _ H1.out H1'.out L1.out (by omega)).mono ?_
  rintro e w' ⟨rfl, m1, rfl⟩
  go_wp2_with fail
  refine (W.same_yes_u16 _ _ _ _ _ set _ _ _ (H2.out.drewN m1) (H2'.out.drewN m1) L2.out (by omega)).mono ?_
  rintro e w' ⟨rfl, m2, rfl⟩
  rw [World.drewN_drewN]
  go_wp2_with fail
  refine (SameFiles_yes _ _ mf _ _ fs _ _ _ (H3.out.drewN (m1 + m2)) (H3'.out.drewN (m1 + m2)) L3.out c3 C4.out).mono ?_
  rintro e w' ⟨rfl, m3, rfl⟩
  rw [World.drewN_drewN]
  go_wp2
  go_ret
  exact ⟨rfl, below_drewN bel _⟩

end Go.Proofs.YtobhllcnljggiaaGreat
