/-
  The statement ReplyBack of outstationlaw04 holds: for every input that can be read, the call returns true, and each argument reads as it did. No condition of its own.
-/
import Derived.Test.YtobhllcnljggiaaJReplyBackF
import Derived.Test.YtobhllcnljggiaaJReplyBackG
import Derived.Test.YtobhllcnljggiaaJReplyBackH
import Derived.Test.YtobhllcnljggiaaProg
import Derived.Test.YtobhllcnljggiaaJReplyBackA
import Derived.IntWalk
import Derived.Test.YtobhllcnljggiaaJReplyBackE
import Derived.Test.YtobhllcnljggiaaRows
import Derived.Test.YtobhllcnljggiaaJReplyBackD
namespace Go.Proofs.Ytobhllcnljggiaa
open Go.RowKit
set_option linter.unusedVariables false

/-- The boxes of a request and of an answer that came in; the lent request, the copied answer, and their boxes. -/
structure PutSt (w0 : World) (q : Req) (r : Rep) (Ao As Ap Bo Bs Bf Co Cs Cf : Option Addr) (lo ls lp co cs cp mo ms mf eo es ef ko ks kf go gs gp gx gy : Nat) (w : World) : Prop where
  tb : TB w0 w0.heap.size (.cells #[.int .i64 q.c, .int .i64 q.a, .int .i64 q.n, .slice Ao lo co, .slice As ls cs, .slice Ap lp cp] 26 (0, 0)) (.cells #[.int .i64 r.x, .slice Bo mo eo, .slice Bs ms es, .slice Bf mf ef] 29 (0, 0)) w
  k1 : L.Bk w go (q.on ++ L.marks5)
  k2 : W.Bk w gs (q.set ++ W.marks5)
  k3 : w.heap[gp]? = some (.cells (blk .i64 (q.fl ++ marksP)) 77 (0, 0))
  bx : w.heap[gx]? = some (.cells #[.int .i64 q.c, .int .i64 q.a, .int .i64 q.n, .slice (some ⟨go, 0, none⟩) lo (lo + 5), .slice (some ⟨gs, 0, none⟩) ls (ls + 5), .slice (some ⟨gp, 0, none⟩) lp (lp + 5)] 26 (0, 0))
  bxy : w.heap[gy]? = some (.cells #[.int .i64 r.x, .slice Co mo ko, .slice Cs ms ks, .slice Cf mf kf] 29 (0, 0))
  lent : Asked w w.heap.size q (some ⟨go, 0, none⟩) (some ⟨gs, 0, none⟩) (some ⟨gp, 0, none⟩) lo ls lp
  copy : Repd w w.heap.size r Co Cs Cf mo ms mf
theorem Asked.upB {w w' : World} {q : Req} {Ao As Ap : Option Addr} {lo ls lp : Nat} (h : Asked w w.heap.size q Ao As Ap lo ls lp) (hb : Below w.heap.size w w') : Asked w' w'.heap.size q Ao As Ap lo ls lp := (h.below hb).more hb.size
section
variable {w0 w w' : World} {q : Req} {r : Rep} {Ao As Ap Bo Bs Bf Co Cs Cf : Option Addr} {lo ls lp co cs cp mo ms mf eo es ef ko ks kf go gs gp gx gy : Nat}
theorem PutSt.below (h : PutSt w0 q r Ao As Ap Bo Bs Bf Co Cs Cf lo ls lp co cs cp mo ms mf eo es ef ko ks kf go gs gp gx gy w) (hb : Below w.heap.size w w') : PutSt w0 q r Ao As Ap Bo Bs Bf Co Cs Cf lo ls lp co cs cp mo ms mf eo es ef ko ks kf go gs gp gx gy w' where
  tb := h.tb.below hb
  k1 := h.k1.below hb
  k2 := h.k2.below hb
  k3 := (hb.block gp (block_lt h.k3)).trans h.k3
  bx := (hb.block gx (block_lt h.bx)).trans h.bx
  bxy := (hb.block gy (block_lt h.bxy)).trans h.bxy
  lent := h.lent.upB hb
  copy := h.copy.up hb
theorem PutSt.drewN (h : PutSt w0 q r Ao As Ap Bo Bs Bf Co Cs Cf lo ls lp co cs cp mo ms mf eo es ef ko ks kf go gs gp gx gy w) (n : Nat) : PutSt w0 q r Ao As Ap Bo Bs Bf Co Cs Cf lo ls lp co cs cp mo ms mf eo es ef ko ks kf go gs gp gx gy (w.drewN n) := h.below (bel_drewN w n)
theorem PutSt.cellsX (h : PutSt w0 q r Ao As Ap Bo Bs Bf Co Cs Cf lo ls lp co cs cp mo ms mf eo es ef ko ks kf go gs gp gx gy w) : w.cell? ⟨gx, 0, none⟩ = some (.int .i64 q.c) ∧ w.cell? ⟨gx, 1, none⟩ = some (.int .i64 q.a) ∧ w.cell? ⟨gx, 2, none⟩ = some (.int .i64 q.n) ∧ w.cell? ⟨gx, 3, none⟩ = some (.slice (some ⟨go, 0, none⟩) lo (lo + 5)) ∧ w.cell? ⟨gx, 4, none⟩ = some (.slice (some ⟨gs, 0, none⟩) ls (ls + 5)) ∧ w.cell? ⟨gx, 5, none⟩ = some (.slice (some ⟨gp, 0, none⟩) lp (lp + 5)) :=
  ⟨cell_of_row w gx 0 _ _ _ h.bx, cell_of_row w gx 1 _ _ _ h.bx, cell_of_row w gx 2 _ _ _ h.bx, cell_of_row w gx 3 _ _ _ h.bx, cell_of_row w gx 4 _ _ _ h.bx, cell_of_row w gx 5 _ _ _ h.bx⟩
theorem PutSt.cellsY (h : PutSt w0 q r Ao As Ap Bo Bs Bf Co Cs Cf lo ls lp co cs cp mo ms mf eo es ef ko ks kf go gs gp gx gy w) : w.cell? ⟨gy, 0, none⟩ = some (.int .i64 r.x) ∧ w.cell? ⟨gy, 1, none⟩ = some (.slice Co mo ko) ∧ w.cell? ⟨gy, 2, none⟩ = some (.slice Cs ms ks) ∧ w.cell? ⟨gy, 3, none⟩ = some (.slice Cf mf kf) :=
  ⟨cell_of_row w gy 0 _ _ _ h.bxy, cell_of_row w gy 1 _ _ _ h.bxy, cell_of_row w gy 2 _ _ _ h.bxy, cell_of_row w gy 3 _ _ _ h.bxy⟩
end

/-- A list of the call's own, as an entry. -/
theorem KOwn.entR {w : World} {base B : Nat} {v : Value} {xs : List Int} (h : KOwn .u8 5 w base v xs) (hw : ∀ x ∈ xs, (Lit.int .u8 x).wf = true) (hm : xs.length ≤ 140737488355328) (hB : B ≤ base) :
    ∃ E : EntK, E.val = v ∧ E.Ok w B ∧ ∀ g, E.a = some g → base ≤ g ∧ v.ownBlock = some g := by
  rcases h with ⟨rfl, rfl⟩ | ⟨g, n, cap, r, rfl, h2, h3, h4, h5, h6, h7, h8⟩
  · exact ⟨⟨none, [], 0, 0, [], []⟩, rfl, ⟨⟨Nat.le_refl _, ⟨by show 0 ≤ _; omega, by show 0 ≤ _; omega⟩, rfl⟩, by simp, .inl ⟨rfl, rfl, rfl⟩⟩, fun g h => by cases h⟩
  · simp only [maxLen] at h6
    refine ⟨⟨some g, [], n, cap, xs ++ r, []⟩, rfl, ⟨⟨h5, ⟨h6, by show n ≤ _; omega⟩, by show (xs ++ r).length = cap; rw [List.length_append]; exact h7⟩, wf_append hw h8, .inr ⟨g, rfl, by omega, by rw [List.append_nil, List.nil_append]; exact h4⟩⟩, fun g' e => ?_⟩
    have e : some g = some g' := e
    injection e with e
    subst e
    exact ⟨h2, rfl⟩
/-- Two lists of the call's own share no memory. -/
theorem apart2K (w : World) (B b1 b2 : Nat) (v1 v2 : Value) (l1 l2 : List Int) (t : TypeId) (h1 : KOwn .u8 5 w b1 v1 l1) (h2 : KOwn .u8 5 w b2 v2 l2) (f1 : ∀ x ∈ l1, (Lit.int .u8 x).wf = true) (f2 : ∀ x ∈ l2, (Lit.int .u8 x).wf = true) (q1 : l1.length ≤ 140737488355328) (q2 : l2.length ≤ 140737488355328)
    (hB1 : B ≤ b1) (hB2 : B ≤ b2) (hlt : ∀ g, v1.ownBlock = some g → g < b2) (hB : B ≤ w.heap.size) :
    Calls Try.prog 16 #[.slice (some ⟨w.heap.size, 0, none⟩) 2 2] (w.alloc (.cells #[v1, v2] t)) fun e w' => e = .returned (.bool true) ∧ Below B w w' := by
  obtain ⟨E1, e1, o1, a1⟩ := h1.entR (B := B) f1 q1 hB1
  obtain ⟨E2, e2, o2, a2⟩ := h2.entR (B := B) f2 q2 hB2
  have hfar : [E1, E2].Pairwise EntK.Far := by
    refine List.pairwise_cons.2 ⟨fun e he => ?_, List.pairwise_singleton _ _⟩
    simp only [List.mem_singleton] at he
    subst he
    intro g h3 h4
    have := hlt g (a1 g h3).2
    have := (a2 g h4).1
    omega
  have hok : ∀ e ∈ [E1, E2], e.Ok w B := by
    intro e he
    simp only [List.mem_cons, List.not_mem_nil, or_false] at he
    rcases he with rfl | rfl
    · exact o1
    · exact o2
  have h := apartK_list_u8 w B _ t hok hfar hB (by simp)
  simp only [List.map_cons, List.map_nil, e1, e2] at h
  exact h

theorem putR_len (q : Req) (r : Rep) : (putR q r).length ≤ 1000 := by
  unfold putR
  split
  · simp
  · rename_i hk
    have hk : chkR q r = 0 := by simpa using hk
    split
    · simp
    · rename_i hx
      have hx : r.x = 0 := by simpa using hx
      unfold formR
      split
      · rename_i hc
        have := rep_bits hk hx hc
        simp only [List.length_cons, pk_length]
        unfold need
        omega
      · split
        · rename_i hc
          have := rep_words hk hx hc
          simp only [List.length_cons, wbytes_length]
          omega
        · split
          · rename_i hc
            have := (rep_files hk hx hc).2.2
            simp only [List.length_cons]
            omega
          · simp only [List.length_take]
            omega
theorem wf_cons2 {a b : Int} {l : List Int} (ha : 0 ≤ a ∧ a < 256) (hb : 0 ≤ b ∧ b < 256) (hl : ∀ x ∈ l, (Lit.int .u8 x).wf = true) : ∀ x ∈ a :: b :: l, (Lit.int .u8 x).wf = true := by
  intro x hx
  rcases List.mem_cons.1 hx with rfl | hx
  · have := wf_byte x.toNat (by omega); rwa [show ((x.toNat : Nat) : Int) = x by omega] at this
  · rcases List.mem_cons.1 hx with rfl | hx
    · have := wf_byte x.toNat (by omega); rwa [show ((x.toNat : Nat) : Int) = x by omega] at this
    · exact hl x hx
theorem putR_wf (q : Req) (r : Rep) : ∀ x ∈ putR q r, (Lit.int .u8 x).wf = true := by
  unfold putR
  split
  · intro x hx; cases hx
  · rename_i hk
    have hk : chkR q r = 0 := by simpa using hk
    have hq : chkQ q = 0 := by
      have h2 := hk
      unfold chkR at h2
      by_cases h : chkQ q ≠ 0
      · rw [if_pos h] at h2; exact h2
      · simpa using h
    have hcr := mm_le _ (chk_code hq)
    split
    · rename_i hx
      have hxr : 1 ≤ r.x ∧ r.x ≤ 127 := by
        have h2 := hk
        unfold chkR at h2
        rw [if_neg (show ¬ chkQ q ≠ 0 by rw [hq]; simp), if_pos hx] at h2
        split at h2
        · assumption
        · cases h2
      exact wf_cons2 (by omega) (by omega) (by simp)
    · rename_i hx
      have hx : r.x = 0 := by simpa using hx
      unfold formR
      split
      · rename_i hc
        have := rep_bits hk hx hc
        exact wf_cons2 (by omega) (by unfold need; omega) (pk_wf _ _)
      · split
        · rename_i hc
          have := rep_words hk hx hc
          exact wf_cons2 (by omega) (by omega) (wbytes_wf _)
        · split
          · rename_i hc
            have h3 := rep_files hk hx hc
            exact wf_cons2 (by omega) (by omega) (fbytes_wf r.fs _ h3.2.1)
          · intro x hx
            exact putL_wf q x (List.mem_of_mem_take hx)
end Go.Proofs.Ytobhllcnljggiaa
namespace Go.Proofs.Ytobhllcnljggiaa
open Go.RowKit
set_option linter.unusedVariables false

def pick (k : Int) (n : Nat) : Nat := (if k.tmod n < 0 then k.tmod n + n else k.tmod n).toNat
theorem pick_lt (k : Int) (n : Nat) (h : 1 ≤ n) : pick k n < n := by
  have h1 := Int.tmod_lt_of_pos k (show (0 : Int) < n by omega)
  have h2 : -(n : Int) < k.tmod n := by
    have := Int.lt_tmod_of_pos k (show (0 : Int) < n by omega)
    omega
  unfold pick
  split <;> omega
theorem pick_eq (k : Int) (n : Nat) (h : 1 ≤ n) : ((pick k n : Nat) : Int) = if k.tmod n < 0 then k.tmod n + n else k.tmod n := by
  have h2 : -(n : Int) < k.tmod n := by
    have := Int.lt_tmod_of_pos k (show (0 : Int) < n by omega)
    omega
  unfold pick
  split <;> omega
theorem Pick_any (k : Int) (n : Nat) (w : World) (h1 : 1 ≤ n) (hn : n ≤ 140737488355328) :
    Calls Try.prog 24 #[.int .i64 k, .int .i64 n] w fun e w' => e = .returned (.int .i64 (pick k n : Nat)) ∧ w = w' := by
  have hp := pick_eq k n h1
  have hlt := Int.tmod_lt_of_pos k (show (0 : Int) < n by omega)
  have hgt : -(n : Int) < k.tmod n := by
    have := Int.lt_tmod_of_pos k (show (0 : Int) < n by omega)
    omega
  obtain ⟨p, hpp⟩ : ∃ p : Int, Hid (((pick k n : Nat) : Int) = p) := ⟨_, Lib.hid rfl⟩
  rw [hpp.out] at hp ⊢
  have HP := Lib.hid hp
  have t1 : ¬ ((n : Int) < 1) := by omega
  clear hp hpp
  by_cases hneg : k.tmod n < 0
  · have hq : Hid (p = k.tmod n + n) := Lib.hid (by rw [HP.out, if_pos hneg])
    go_enter Try.func24, Try.ntmps24
    go_wp2
    go_ret
    exact ⟨by rw [hq.out]; rfl, rfl⟩
  · have hq : Hid (p = k.tmod n) := Lib.hid (by rw [HP.out, if_neg hneg])
    go_enter Try.func24, Try.ntmps24
    go_wp2
    go_ret
    exact ⟨by rw [hq.out]; rfl, rfl⟩
end Go.Proofs.Ytobhllcnljggiaa
namespace Go.Proofs.Ytobhllcnljggiaa
open Go.RowKit
set_option linter.unusedVariables false

set_option maxHeartbeats 4000000 in
set_option maxRecDepth 100000 in
theorem walk_ReplyBack (q : Req) (Ao As Ap : Option Addr) (lo ls lp co cs cp : Nat) (r : Rep) (Bo Bs Bf : Option Addr) (mo ms mf eo es ef : Nat) (k y : Int) (w : World) (h : Asked w w.heap.size q Ao As Ap lo ls lp) (hi : (Lit.int .i64 q.c).wf = true ∧ (Lit.int .i64 q.a).wf = true ∧ (Lit.int .i64 q.n).wf = true) (hr : Repd w w.heap.size r Bo Bs Bf mo ms mf) (hx : (Lit.int .i64 r.x).wf = true) (sh : ∀ i, i < mf → (nthF r.fs i).length ≤ 70368744175616)
    (wk : (Lit.int .i64 k).wf = true) (wy : (Lit.int .u8 y).wf = true) :
    Calls Try.prog 5 #[.agg #[.int .i64 q.c, .int .i64 q.a, .int .i64 q.n, .slice Ao lo co, .slice As ls cs, .slice Ap lp cp], .agg #[.int .i64 r.x, .slice Bo mo eo, .slice Bs ms es, .slice Bf mf ef], .int .i64 k, .int .u8 y] w fun e w' => e = .returned (.bool true) ∧ Below w.heap.size w w' := by
  have t0 := TB.new2 w #[.int .i64 q.c, .int .i64 q.a, .int .i64 q.n, .slice Ao lo co, .slice As ls cs, .slice Ap lp cp] #[.int .i64 r.x, .slice Bo mo eo, .slice Bs ms es, .slice Bf mf ef] 26 29
  have H0 := Lib.hid h
  have HR0 := Lib.hid hr
  have SH := Lib.hid sh
  have WY := Lib.hid wy
  have HL := Lib.hid (long_any q r Ao As Ap Bo Bs Bf lo ls lp co cs cp mo ms mf eo es ef _ ((hr.below t0.bel).more t0.bel.size))
  clear h hi hr hx sh wk wy
  obtain ⟨v, hv⟩ : ∃ v, Hid ((longA lo ls lp || longR mo ms mf r.fs) = v) := ⟨_, Lib.hid rfl⟩
  rw [hv.out] at HL
  obtain ⟨d0, d1, d2, d3, _⟩ := t0.c4
  obtain ⟨r0, r1, r2, r3, r4, r5, _⟩ := t0.r6
  cases v with
  | true =>
    go_enter Try.func5, Try.ntmps5
    go_wp2_with fail
    refine HL.out.mono ?_
    rintro e w1 ⟨rfl, b1⟩
    have bel1 := (t0.below b1).bel
    go_wp2_with fail
    refine (works_yes _).mono ?_
    rintro e w2 ⟨rfl, b2⟩
    go_wp2
    go_ret
    exact ⟨rfl, bel1.trans (b2.mono bel1.size)⟩
  | false =>
    have hv2 := hv.out
    rw [Bool.or_eq_false_iff] at hv2
    have ha := of_decide_eq_false hv2.1
    have hb := of_decide_eq_false hv2.2
    have hlo : lo ≤ 70000 := by omega
    have hls : ls ≤ 70000 := by omega
    have hlp : lp ≤ 70000 := by omega
    have hmo : mo ≤ 70000 := by omega
    have hms : ms ≤ 70000 := by omega
    have hmf : mf ≤ 1000 := by omega
    clear hv2 ha hb hv
    go_enter Try.func5, Try.ntmps5
    go_wp2_with fail
    refine HL.out.mono ?_
    rintro e w1 ⟨rfl, b1⟩
    have t1 := t0.below b1
    have hz1 := t1.lt
    clear t0 b1 HL d0 d1 d2 d3 r0 r1 r2 r3 r4 r5
    obtain ⟨d0, d1, d2, d3, _⟩ := t1.c4
    obtain ⟨r0, r1, r2, r3, r4, r5, _⟩ := t1.r6
    have HP := Lib.hid (rpPutK_any q r Ao As Ap Bo Bs Bf lo ls lp co cs cp mo ms mf eo es ef w1 ((H0.out.below t1.bel).more t1.bel.size) ((HR0.out.below t1.bel).more t1.bel.size) (by omega))
    obtain ⟨E, hE⟩ : ∃ E, Hid (chkR q r = E) := ⟨_, Lib.hid rfl⟩
    rw [hE.out] at HP
    go_wp2_with fail
    clear d0 d1 d2 d3 r0 r1 r2 r3 r4 r5
    refine HP.out.mono ?_
    rintro e w2 ⟨v2, rfl, k2, b2⟩
    have t2 := t1.below b2
    have hs2 := b2.size
    clear t1 b2 HP
    by_cases hE0 : E = 0
    rotate_left
    · have hz : putR q r = [] := by unfold putR; rw [if_pos (by rw [hE.out]; exact hE0)]
      rw [hz] at k2
      obtain ⟨A2, n2, c2, rfl, _, l2⟩ := k2.own.view3 (fun x hx => by cases hx)
      obtain rfl : n2 = 0 := l2.symm
      have u1 : (E != 0) = true := by simpa using hE0
      have u2 : (E == 0) = false := beq_false_of_ne hE0
      have u3 : (E == E) = true := by simp
      obtain ⟨d0, d1, d2, d3, _⟩ := t2.c4
      obtain ⟨r0, r1, r2, r3, r4, r5, _⟩ := t2.r6
      have HC := Lib.hid (rpCheck_any q r Ao As Ap Bo Bs Bf lo ls lp co cs cp mo ms mf eo es ef w2 ((H0.out.below t2.bel).more t2.bel.size) ((HR0.out.below t2.bel).more t2.bel.size) (by omega))
      rw [hE.out] at HC
      clear hE0 hz k2
      go_wp2_with fail
      clear d0 d1 d2 d3 r0 r1 r2 r3 r4 r5
      refine HC.out.mono ?_
      rintro e w3 ⟨rfl, b3⟩
      have bel3 := (t2.below b3).bel
      go_wp2_with fail
      refine (works_yes _).mono ?_
      rintro e w4 ⟨rfl, b4⟩
      go_wp2
      go_ret
      exact ⟨rfl, bel3.trans (b4.mono bel3.size)⟩
    subst hE0
    have hback := getR_putR hE.out HR0.out.set.1 HR0.out.fs.wf
    have HT := Lib.hid (fun k hk => getRE_take hE.out k hk)
    have HMO := Lib.hid (fun x => getRE_more hE.out hback.2.2.1 x)
    have HGE := Lib.hid hback.1
    have HGR := Lib.hid hback.2.1
    have hl2 := hback.2.2.1
    have hl253 := hback.2.2.2
    have HWF := Lib.hid (putR_wf q r)
    clear hback
    obtain ⟨L, hL⟩ : ∃ L, Hid (putR q r = L) := ⟨_, Lib.hid rfl⟩
    rw [hL.out] at k2 HT HMO HGE HGR hl2 hl253 HWF
    obtain ⟨A2, m, c2, rfl, row2, lm⟩ := k2.own.view3 HWF.out
    have hcc : m ≤ c2 ∧ c2 ≤ 9223372036854775807 := by
      obtain ⟨A9, c9, e9, _, h1, h2⟩ := k2.row HWF.out
      injection e9 with e1 e2 e3
      simp only [maxLen] at h2
      omega
    have R2 := Lib.hid row2
    have LM := Lib.hid lm
    have K2 := Lib.hid k2
    rw [lm] at hl2 hl253
    clear row2 lm k2
    obtain ⟨d0, d1, d2, d3, _⟩ := t2.c4
    obtain ⟨r0, r1, r2, r3, r4, r5, _⟩ := t2.r6
    have HG := Lib.hid (rpGet_any q Ao As Ap lo ls lp co cs cp A2 m c2 L w2 ((H0.out.below t2.bel).more t2.bel.size) R2.out LM.out hcc.1 hcc.2)
    rw [HGE.out, HGR.out] at HG
    go_wp2_with fail
    clear d0 d1 d2 d3 r0 r1 r2 r3 r4 r5
    refine HG.out.mono ?_
    rintro e w3 ⟨Co, Cs, Cf, no, ns, nf, ko, ks, kf, rfl, rk, b3⟩
    have bA := bel_alloc w3 (.cells #[.int .i64 r.x, .slice Co no ko, .slice Cs ns ks, .slice Cf nf kf] 29)
    have t3 := (t2.below b3).below bA
    have hs3 := Nat.le_trans b3.size bA.size
    have RD := Lib.hid ((rk.repd HR0.out.set.1 HR0.out.fs.wf).up bA)
    have K3 := Lib.hid ((K2.out.below b3 (Nat.le_refl _)).below bA (Nat.le_refl _))
    have hbox := Lib.hid (heap_alloc_new w3 (.cells #[.int .i64 r.x, .slice Co no ko, .slice Cs ns ks, .slice Cf nf kf] 29))
    obtain rfl : mo = no := HR0.out.mo.symm.trans RD.out.mo
    obtain rfl : ms = ns := HR0.out.ms.symm.trans RD.out.ms
    obtain rfl : mf = nf := HR0.out.mf.symm.trans RD.out.mf
    clear HG rk b3 bA K2 t2 R2
    obtain ⟨w4, hw4⟩ : ∃ w4, w3.alloc (.cells #[.int .i64 r.x, .slice Co mo ko, .slice Cs ms ks, .slice Cf mf kf] 29) = w4 := ⟨_, rfl⟩
    obtain ⟨g3, hg3⟩ : ∃ g, w3.heap.size = g := ⟨_, rfl⟩
    rw [hw4] at t3 RD hbox K3 hs3
    rw [hg3] at hbox
    obtain ⟨y0, y1, y2, y3⟩ := cells4 hbox.out
    obtain ⟨d0, d1, d2, d3, _⟩ := t3.c4
    have hrr := Lib.hid ((HR0.out.below t3.bel).more t3.bel.size)
    have i2 : ¬ ((m : Int) < 2) := by omega
    have i3 : ¬ (253 < (m : Int)) := by omega
    go_wp2_with fail
    clear d0 d1 d2 d3 y0 y1 y2 y3
    refine (SameReply_yes r.x r.on r.set r.fs Co Cs Cf Bo Bs Bf mo ms mf ko ks kf eo es ef w4 RD.out.on RD.out.set hrr.out.on hrr.out.set RD.out.fs hrr.out.fs RD.out.mo RD.out.ms RD.out.mf (by omega) (by omega) (by omega) (fun i hi => by have := SH.out i hi; omega)).mono ?_
    rintro e w5 ⟨rfl, b5⟩
    have t5 := t3.below b5
    have hs5 := b5.size
    have K5 := Lib.hid (K3.out.below b5 (Nat.le_refl _))
    clear t3 RD K3 hbox b5 hrr hw4 hg3
    obtain ⟨A9, n9, c9, e9, row5, _⟩ := K5.out.own.view3 HWF.out
    injection e9 with e1 e2 e3
    subst e1 e2 e3
    have R5 := Lib.hid row5
    clear row5
    have hpk := pick_lt k m (by omega)
    have HPC := Lib.hid (fun W => Pick_any k m W (by omega) (by omega))
    obtain ⟨j, hj⟩ : ∃ j, Hid (pick k m = j) := ⟨_, Lib.hid rfl⟩
    rw [hj.out] at hpk HPC
    have hjm : j ≤ m := by omega
    have hjc : (j : Int) ≤ (c2 : Int) := by omega
    have hj0 : (0 : Int) ≤ (j : Int) := by omega
    have HTJ : Hid (getRE q (L.take j) = 1) := Lib.hid (HT.out j (by rw [LM.out]; exact hpk))
    have HTR : Hid (getR q (L.take j) = Rep.zero) := Lib.hid (getR_zero (by rw [HTJ.out]; simp))
    have HTL : Hid ((L.take j).length = j) := Lib.hid (by rw [List.length_take, LM.out]; omega)
    obtain ⟨x5, x6, x7, x8, x9, x10, _⟩ := t5.r6
    go_wp2_with fail
    clear x5 x6 x7 x8 x9 x10
    go_region_held3 (fun w' => TB w w.heap.size (.cells #[.int .i64 q.c, .int .i64 q.a, .int .i64 q.n, .slice Ao lo co, .slice As ls cs, .slice Ap lp cp] 26 (0, 0)) (.cells #[.int .i64 r.x, .slice Bo mo eo, .slice Bs ms es, .slice Bf mf ef] 29 (0, 0)) w' ∧ w'.cell? ⟨w.heap.size, 0, none⟩ = some (.int .i64 q.c) ∧ w'.cell? ⟨w.heap.size, 1, none⟩ = some (.int .i64 q.a) ∧ w'.cell? ⟨w.heap.size, 2, none⟩ = some (.int .i64 q.n) ∧ w'.cell? ⟨w.heap.size, 3, none⟩ = some (.slice Ao lo co) ∧ w'.cell? ⟨w.heap.size, 4, none⟩ = some (.slice As ls cs) ∧ w'.cell? ⟨w.heap.size, 5, none⟩ = some (.slice Ap lp cp))
      ((first
        | exact ⟨t5.drew, t5.drew.r6.1, t5.drew.r6.2.1, t5.drew.r6.2.2.1, t5.drew.r6.2.2.2.1, t5.drew.r6.2.2.2.2.1, t5.drew.r6.2.2.2.2.2.1⟩
        | exact ⟨t6, t6.r6.1, t6.r6.2.1, t6.r6.2.2.1, t6.r6.2.2.2.1, t6.r6.2.2.2.2.1, t6.r6.2.2.2.2.2.1⟩))
      (first
        | (go_at_call 24; refine (HPC.out _).mono ?_; rintro e w' ⟨rfl, rfl⟩)
        | (go_at_call 19; refine (rpGet_any q Ao As Ap lo ls lp co cs cp A2 j c2 (L.take j) w5.drew ((H0.out.below t5.drew.bel).more t5.drew.bel.size) ((R5.out.front j).below (below_drew (Below.refl _ _))) HTL.out (by omega) hcc.2).mono ?_; rw [HTJ.out, HTR.out]; rintro e w6 ⟨Do, Ds, Df, po, ps, pf, ho, hs, hf, rfl, rk, b6⟩; have hs6 : w5.heap.size ≤ w6.heap.size := b6.size; have t6 := t5.drew.below b6; have K6 := Lib.hid ((K5.out.drewN 1).below b6 (Nat.le_refl _)); clear rk b6))
    have zz := t6.lt
    go_wp2_with fail
    have HMY : Hid (getRE q (L ++ [y]) = 2) := Lib.hid (HMO.out y)
    have HMZ : Hid (getR q (L ++ [y]) = Rep.zero) := Lib.hid (getR_zero (by rw [HMY.out]; simp))
    have HLEN : Hid ((L ++ [y]).length = m + 1) := Lib.hid (by rw [List.length_append, LM.out]; rfl)
    have HW7 : Hid (∀ x ∈ L ++ [y], (Lit.int .u8 x).wf = true) := Lib.hid (wf_append HWF.out (by simpa using WY.out))
    have hLm : L.length = m := LM.out
    have HLm := Lib.hid hLm
    clear hLm
    go_region_held3 (fun w' => TB w w.heap.size (.cells #[.int .i64 q.c, .int .i64 q.a, .int .i64 q.n, .slice Ao lo co, .slice As ls cs, .slice Ap lp cp] 26 (0, 0)) (.cells #[.int .i64 r.x, .slice Bo mo eo, .slice Bs ms es, .slice Bf mf ef] 29 (0, 0)) w' ∧ w'.cell? ⟨w.heap.size, 0, none⟩ = some (.int .i64 q.c) ∧ w'.cell? ⟨w.heap.size, 1, none⟩ = some (.int .i64 q.a) ∧ w'.cell? ⟨w.heap.size, 2, none⟩ = some (.int .i64 q.n) ∧ w'.cell? ⟨w.heap.size, 3, none⟩ = some (.slice Ao lo co) ∧ w'.cell? ⟨w.heap.size, 4, none⟩ = some (.slice As ls cs) ∧ w'.cell? ⟨w.heap.size, 5, none⟩ = some (.slice Ap lp cp))
      ((first
        | exact ⟨t6.drew, t6.drew.r6.1, t6.drew.r6.2.1, t6.drew.r6.2.2.1, t6.drew.r6.2.2.2.1, t6.drew.r6.2.2.2.2.1, t6.drew.r6.2.2.2.2.2.1⟩
        | exact ⟨(t6.alloc (.cells #[.int .u8 y] 5)).drew, (t6.alloc (.cells #[.int .u8 y] 5)).drew.r6.1, (t6.alloc (.cells #[.int .u8 y] 5)).drew.r6.2.1, (t6.alloc (.cells #[.int .u8 y] 5)).drew.r6.2.2.1, (t6.alloc (.cells #[.int .u8 y] 5)).drew.r6.2.2.2.1, (t6.alloc (.cells #[.int .u8 y] 5)).drew.r6.2.2.2.2.1, (t6.alloc (.cells #[.int .u8 y] 5)).drew.r6.2.2.2.2.2.1⟩
        | exact ⟨t7, t7.r6.1, t7.r6.2.1, t7.r6.2.2.1, t7.r6.2.2.2.1, t7.r6.2.2.2.2.1, t7.r6.2.2.2.2.2.1⟩
        | exact ⟨t8, t8.r6.1, t8.r6.2.1, t8.r6.2.2.1, t8.r6.2.2.2.1, t8.r6.2.2.2.2.1, t8.r6.2.2.2.2.2.1⟩))
      (first
        | (refine step_append_row ((w6.alloc (.cells #[.int .u8 y] 5)).drew) rfl _ _ 34 rfl w1.heap.size .u8 5 1 Try.underlying34 info_u8 (.slice A2 m c2) L rfl (K6.out.own.alloc _) (w6.heap.size + 1) (some ⟨w6.heap.size, 0, none⟩) 1 1 [y] rfl (Row.one .u8 w6 5 y WY.out) rfl (by rw [HLm.out]; omega) (by rw [HLm.out]; simp only [maxLen]; omega) (by simp; omega) ?_
           intro v7 w7 own7 g7
           have t7 := (t6.alloc (.cells #[.int .u8 y] 5)).drew.grown g7 (fun g hg => by have := (K6.out.own.block g hg).1; omega))
        | (go_at_call 19; obtain ⟨A7, c7, rfl, row7, hle7, hmx7⟩ := own7.row HW7.out; rw [HLEN.out] at hle7 ⊢; have hmx8 : c7 ≤ 9223372036854775807 := (by simp only [maxLen] at hmx7; omega); refine (rpGet_any q Ao As Ap lo ls lp co cs cp A7 (m + 1) c7 (L ++ [y]) w7 ((H0.out.below t7.bel).more t7.bel.size) row7 HLEN.out hle7 hmx8).mono ?_; rw [HMY.out, HMZ.out]; rintro e w8 ⟨Eo, Es, Ef, uo, us, uf, zo, zs, zf, rfl, rk8, b8⟩; have t8 := t7.below b8; clear rk8 b8))
    go_wp2_with fail
    refine (works_yes _).mono ?_
    rintro e w9 ⟨rfl, b9⟩
    go_wp2
    go_ret
    exact ⟨rfl, t8.bel.trans (b9.mono t8.bel.size)⟩
end Go.Proofs.Ytobhllcnljggiaa
namespace Go.Proofs.Ytobhllcnljggiaa.replyBack
open Go.ChangeShapes Go.WideShapes Go.ChangeAt Go.RowKit
open Go.ChangeMaps (open_string shut_string)
set_option linter.unusedVariables false

theorem own : ownKnob Try.prog.godebug = none := by kernel_rfl
theorem laidOut : laidOutB Try.prog = true := by kernel_rfl

set_option maxRecDepth 100000 in
theorem lifted (os : Os) (started : os.Started) (H : Type) (enc : TypeId × Value → H) :
    ReturnsInHanded {} Try.checked os 5 .any (Rows.replyBackSpec.pre6 enc Try.prog Try.f5 Rows.replyBackRow.domain false) (Rows.replyBackSpec.post enc Try.prog Try.f5 false true false false) := by
  refine returnsInHanded_of_change_sized (C := Try.checked) own started (by kernel_rfl) Try.func5
    (ChangeSpec.witness6 (enc := enc) (C := Try.checked) false ⟨#[], #[.agg #[.int .i64 0, .int .i64 0, .int .i64 0, .slice none 0 0, .slice none 0 0, .slice none 0 0], .agg #[.int .i64 0, .slice none 0 0, .slice none 0 0, .slice none 0 0], .int .i64 0, .int .u8 0], []⟩ 8 (by kernel_rfl) (by kernel_rfl) (by kernel_rfl) (by kernel_rfl)) ?_
  intro W base args ds gs before hval0 hW hcnd hsz0 _
  have hsz : (DataW.weightsEach Try.prog (Try.f5.params.toList ++ Rows.replyBackSpec.plain.varTypes Try.prog) (ds ++ gs)).all (· ≤ reachBytes) = true := hsz0
  clear hsz0
  have hval : ∀ (j : Nat) t v, Try.f5.params[j]? = some t → args[j]? = some v → Value.okWide Try.prog W .any base t v := hval0
  have hW' := hW
  obtain ⟨p, q, hA0, hV, rfl, hfz, hnd⟩ := hW
  have hA : DataW.TrodAll enc Try.prog W 0 (fun _ => true) true Try.f5.params.toList args.toList ds p := hA0
  rw [Try.params5] at hA hval hsz
  obtain ⟨v0, vs0, d0, ds0, p0, q0, hargs, rfl, rfl, h0, r0⟩ := trodAll_cons hA
  obtain ⟨v1, vs1, d1, ds1, p1, q1, rfl, rfl, rfl, h1, r1⟩ := trodAll_cons r0
  obtain ⟨v2, vs2, d2, ds2, p2, q2, rfl, rfl, rfl, h2, r2⟩ := trodAll_cons r1
  obtain ⟨v3, vs3, d3, ds3, p3, q3, rfl, rfl, rfl, h3, r3⟩ := trodAll_cons r2
  obtain ⟨rfl, rfl, rfl⟩ := trodAll_nil r3
  obtain rfl : args = #[v0, v1, v2, v3] := by cases args; simp_all
  obtain ⟨rfl, rfl⟩ := trodVars_none hV
  have k0 := h0
  have lt0 : ∀ x ∈ p0, x.block < W.heap.size := by obtain ⟨m, hm⟩ := k0; exact DataW.trod_lt m _ _ _ hm
  obtain ⟨q_0, Ao0, As0, Ap0, lo0, ls0, lp0, co0, cs0, cp0, rfl, w0, wf0⟩ := ask_in Try.underlying26 (by kernel_rfl) (by kernel_rfl) Try.underlying3 Try.underlying3 Try.underlying3 Try.underlying22 Try.underlying4 (by kernel_rfl) Try.underlying23 Try.underlying75 (by kernel_rfl) Try.underlying24 Try.underlying77 (by kernel_rfl) (by kernel_rfl) Try.underlying3 Try.underlying3 Try.underlying3 (hval 0 26 v0 rfl rfl) h0 lt0
  have k1 := h1
  have lt1 : ∀ x ∈ p1, x.block < W.heap.size := by obtain ⟨m, hm⟩ := k1; exact DataW.trod_lt m _ _ _ hm
  obtain ⟨r_1, Bo1, Bs1, Bf1, mo1, ms1, mf1, eo1, es1, ef1, rfl, w1, wf1, sh1⟩ := rep_in2 Try.underlying29 (by kernel_rfl) (by kernel_rfl) Try.underlying3 Try.underlying22 Try.underlying4 (by kernel_rfl) Try.underlying23 Try.underlying75 (by kernel_rfl) Try.underlying27 Try.underlying23 Try.underlying75 (by kernel_rfl) (by kernel_rfl) (hval 1 29 v1 rfl rfl) h1 lt1 (by kernel_rfl) hsz 1 rfl rfl
  obtain ⟨a2, rfl, rfl, rfl, w2⟩ := open_int Try.underlying3 (hval 2 3 v2 rfl rfl) h2
  obtain ⟨a3, rfl, rfl, rfl, w3⟩ := open_int Try.underlying5 (hval 3 5 v3 rfl rfl) h3
  clear hA0 hval0
  refine (walk_ReplyBack q_0 Ao0 As0 Ap0 lo0 ls0 lp0 co0 cs0 cp0 r_1 Bo1 Bs1 Bf1 mo1 ms1 mf1 eo1 es1 ef1 a2 a3 W w0 wf0 w1 wf1 sh1 w2 w3).mono fun e W' ⟨he, bel⟩ => ?_
  subst he
  exact ⟨_, rfl, _, _, _, [], _, [], hW', trodAll_mk1 (shut_bool Try.underlying4 _), (trodAll_cons_mk (Below.trod laidOut (by kernel_rfl) (of_decide_eq_true (by kernel_rfl)) k0 bel lt0) (trodAll_cons_mk (Below.trod laidOut (by kernel_rfl) (of_decide_eq_true (by kernel_rfl)) k1 bel lt1) (trodAll_cons_mk (shut_int Try.underlying3 w2) (trodAll_cons_mk (shut_int Try.underlying5 w3) trodAll_mk0)))), rfl, bel.frame _, fun h => by cases h⟩

theorem over : Rows.replyBackRow.holds Try.pinned (OpenSpec.ofChange Rows.replyBackSpec) :=
  OpenClaim.holds_of_wide 5 Try.f5 rfl rfl rfl rfl rfl rfl rfl ⟨rfl, rfl, rfl, rfl, rfl⟩ rfl rfl rfl rfl rfl (by kernel_rfl) Try.func5 (by kernel_rfl)
    (of_decide_eq_true (by kernel_rfl)) (by unfold Func.isWrapper; first | (rw [if_pos (by decide +kernel)]; kernel_rfl) | (rw [if_neg (by decide +kernel)]; exact ⟨rfl, rfl⟩))
    (fun os started H enc _ => lifted os started H enc)

theorem proved : Rows.ReplyBackSaid := over
#print axioms proved
end Go.Proofs.Ytobhllcnljggiaa.replyBack
