/-
  Contract of the document's Put.
-/
import Derived.Test.YtojjcmkadmofdaaAskRef2
namespace Go.Proofs.Ytojjcmkadmofdaa
open Go.RowKit
set_option linter.unusedVariables false
theorem wbytes_cons (a : Int) (l : List Int) : wbytes (a :: l) = wbytes [a] ++ wbytes l := by simp [wbytes]
theorem Bx.old {w0 w : World} {g : Nat} {o : Obj} (h : Bx w0 g o w) {b i : Nat} {v : Value} (hb : b < g) (hc : w0.cell? ⟨b, i, none⟩ = some v) : w.cell? ⟨b, i, none⟩ = some v := (h.2.cell (p := ⟨b, i, none⟩) hb).trans hc

set_option maxHeartbeats 1000000 in
set_option maxRecDepth 100000 in
theorem refPut_plain (c a n : Int) (on : List Bool) (set fl : List Int) (Ao As Ap : Option Addr) (lo ls lp co cs cp : Nat) (w : World) (h : Asked w w.heap.size ⟨c, a, n, on, set, fl⟩ Ao As Ap lo ls lp) (hk : chkQ ⟨c, a, n, on, set, fl⟩ = 0) (hc : c = 1 ∨ c = 2 ∨ c = 3 ∨ c = 4) :
    Calls Try.prog 15 #[.agg #[.int .i64 c, .int .i64 a, .int .i64 n, .slice Ao lo co, .slice As ls cs, .slice Ap lp cp]] w (Makes2 w (pduQ ⟨c, a, n, on, set, fl⟩)) := by
  obtain ⟨hmm, hst, ha, hmany, hparts, hend⟩ := chk_zero hk
  simp only at hmm hst ha hmany hparts hend
  skip
  have H0 := Lib.hid h
  have hx0 := Bx.new w (.cells #[.int .i64 c, .int .i64 a, .int .i64 n, .slice Ao lo co, .slice As ls cs, .slice Ap lp cp] 26)
  have HC := Lib.hid (refCheck_any ⟨c, a, n, on, set, fl⟩ Ao As Ap lo ls lp co cs cp _ (h.upAlloc (.cells #[.int .i64 c, .int .i64 a, .int .i64 n, .slice Ao lo co, .slice As ls cs, .slice Ap lp cp] 26)))
  rw [chkQ_of h, hk] at HC
  have hn : 1 ≤ n ∧ n ≤ 2000 := by rcases hc with rfl | rfl | rfl | rfl <;> simp only [many, mm] at hmany <;> omega
  have HL : Hid (pduQ ⟨c, a, n, on, set, fl⟩ = ([c] ++ wbytes [a]) ++ wbytes [n]) := Lib.hid (by
    show c :: tl c a n on set fl on.length set.length (fl.length / 3) = _
    unfold tl
    rw [if_neg (by omega), if_neg (by omega), if_neg (by omega), if_neg (by omega), if_neg (by omega), wbytes_cons a [n]]; rfl)
  have e1 : IntKind.u8.wrap c = c := by rw [IntKind.wrap_u8]; omega
  have t5 : (c == 5) = false := beq_false_of_ne (by omega)
  have t6 : (c == 6) = false := beq_false_of_ne (by omega)
  have t15 : (c == 15) = false := beq_false_of_ne (by omega)
  have t16 : (c == 16) = false := beq_false_of_ne (by omega)
  have t20 : (c == 20) = false := beq_false_of_ne (by omega)
  rw [HL.out]
  clear hc
  clear h hk hst hmany hparts hend hmm
  go_enter Try.func15, Try.ntmps15
  go_wp2_with fail
  refine HC.out.mono ?_
  rintro e w1 ⟨rfl, b1⟩
  have h9 := hx0.below b1
  have hz1 := h9.lt
  clear b1 hx0 HC
  obtain ⟨d0, d1, d2, d3, d4, d5⟩ := h9.six
  go_wp2_with fail
  clear d0 d1 d2 d3 d4 d5
  refine (refTwo_any _ [c] a (w.heap.size + 1) _ (by exact Own.laid (l := [c]) (heap_alloc_new w1 _) hz1 rfl (by simp [maxLen])) ha (by simp) (by simp; omega)).mono ?_
  rintro e w2 ⟨v2, rfl, own2, g2, _⟩
  have h10 := (h9.alloc (.cells #[.int .u8 c] 5)).grown g2 (by simp [Value.ownBlock]; omega)
  have hz2 := h10.lt
  clear g2 h9
  obtain ⟨d0, d1, d2, d3, d4, d5⟩ := h10.six
  go_wp2_with fail
  clear d0 d1 d2 d3 d4 d5
  refine (refTwo_any v2 ([c] ++ wbytes [a]) n (w.heap.size + 1) _ own2 (by omega) (by rw [List.length_append, wbytes_length]; simp) (by omega)).mono ?_
  rintro e w3 ⟨v3, rfl, own3, g3, _⟩
  have h11 := h10.grown g3 (fun k e => by have := (own2.block k e).1; omega)
  go_wp2
  go_ret2
  exact ⟨_, rfl, own3.mono (by omega), h11.2⟩

set_option maxHeartbeats 1000000 in
set_option maxRecDepth 100000 in
theorem refPut_coil (c a n : Int) (on : List Bool) (set fl : List Int) (Ao As Ap : Option Addr) (lo ls lp co cs cp : Nat) (w : World) (h : Asked w w.heap.size ⟨c, a, n, on, set, fl⟩ Ao As Ap lo ls lp) (hk : chkQ ⟨c, a, n, on, set, fl⟩ = 0) (hc : c = 5) :
    Calls Try.prog 15 #[.agg #[.int .i64 c, .int .i64 a, .int .i64 n, .slice Ao lo co, .slice As ls cs, .slice Ap lp cp]] w (Makes2 w (pduQ ⟨c, a, n, on, set, fl⟩)) := by
  obtain ⟨hmm, hst, ha, hmany, hparts, hend⟩ := chk_zero hk
  simp only at hmm hst ha hmany hparts hend
  subst hc
  have H0 := Lib.hid h
  have hx0 := Bx.new w (.cells #[.int .i64 5, .int .i64 a, .int .i64 n, .slice Ao lo co, .slice As ls cs, .slice Ap lp cp] 26)
  have HC := Lib.hid (refCheck_any ⟨5, a, n, on, set, fl⟩ Ao As Ap lo ls lp co cs cp _ (h.upAlloc (.cells #[.int .i64 5, .int .i64 a, .int .i64 n, .slice Ao lo co, .slice As ls cs, .slice Ap lp cp] 26)))
  rw [chkQ_of h, hk] at HC
  have hl : lo = 1 := by have h1 := H0.out.lo; have h2 : 1 ≤ (on.length : Int) ∧ (on.length : Int) ≤ 1 := hmany; simp only at h1; omega
  have HL : Hid (pduQ ⟨5, a, n, on, set, fl⟩ = ([5] ++ wbytes [a]) ++ wbytes [if L.nth on 0 = true then 65280 else 0]) := Lib.hid (by
    have e : pduQ ⟨5, a, n, on, set, fl⟩ = 5 :: wbytes [a, if L.nth on 0 = true then 65280 else 0] := rfl
    rw [e, wbytes_cons a]; rfl)
  have hlt : (0 : Int) < (lo : Int) := by omega
  have hl0 : 0 < lo := by omega
  have hlo : lo ≤ 1 := by omega
  obtain ⟨b, o, hAd, hb1, hcell⟩ := h.on.at_ (i := 0) (by have := H0.out.lo; simp only at this ⊢; omega)
  rw [Nat.add_zero] at hcell
  have HAd := Lib.hid hAd
  have HCell := Lib.hid hcell
  obtain ⟨vv, hvv⟩ : ∃ vv : Int, Hid ((if L.nth on 0 = true then 65280 else 0) = vv) := ⟨_, Lib.hid rfl⟩
  rw [HL.out, hvv.out]
  simp only at HCell
  clear HL
  generalize L.nth on 0 = bit at *
  clear hcell hAd hl
  clear h hk hst hmany hparts hend hmm
  go_enter Try.func15, Try.ntmps15
  go_wp2_with fail
  refine HC.out.mono ?_
  rintro e w1 ⟨rfl, b1⟩
  have h9 := hx0.below b1
  have hz1 := h9.lt
  clear b1 hx0 HC
  obtain ⟨d0, d1, d2, d3, d4, d5⟩ := h9.six
  go_wp2_with fail
  clear d0 d1 d2 d3 d4 d5
  refine (refTwo_any _ [5] a (w.heap.size + 1) _ (by exact Own.laid (l := [5]) (heap_alloc_new w1 _) hz1 rfl (by simp [maxLen])) ha (by simp) (by simp; omega)).mono ?_
  rintro e w2 ⟨v2, rfl, own2, g2, _⟩
  have h10 := (h9.alloc (.cells #[.int .u8 5] 5)).grown g2 (by simp [Value.ownBlock]; omega)
  have hz2 := h10.lt
  clear g2 h9
  obtain ⟨d0, d1, d2, d3, d4, d5⟩ := h10.six
  have hcw : w2.cell? ⟨b, o, none⟩ = some (.bool bit) := h10.old hb1 HCell.out
  obtain rfl := HAd.out
  cases bit
  · obtain rfl : vv = 0 := hvv.out.symm
    go_wp2_with fail
    clear d0 d1 d2 d3 d4 d5
    refine (refTwo_any v2 ([5] ++ wbytes [a]) 0 (w.heap.size + 1) _ own2 (by omega) (by rw [List.length_append, wbytes_length]; simp) (by omega)).mono ?_
    rintro e w3 ⟨v3, rfl, own3, g3, _⟩
    have h11 := h10.grown g3 (fun k e => by have := (own2.block k e).1; omega)
    go_wp2
    go_ret2
    exact ⟨_, rfl, own3.mono (by omega), h11.2⟩
  · obtain rfl : vv = 65280 := hvv.out.symm
    go_wp2_with fail
    clear d0 d1 d2 d3 d4 d5
    refine (refTwo_any v2 ([5] ++ wbytes [a]) 65280 (w.heap.size + 1) _ own2 (by omega) (by rw [List.length_append, wbytes_length]; simp) (by omega)).mono ?_
    rintro e w3 ⟨v3, rfl, own3, g3, _⟩
    have h11 := h10.grown g3 (fun k e => by have := (own2.block k e).1; omega)
    go_wp2
    go_ret2
    exact ⟨_, rfl, own3.mono (by omega), h11.2⟩

set_option maxHeartbeats 1000000 in
set_option maxRecDepth 100000 in
theorem refPut_reg (c a n : Int) (on : List Bool) (set fl : List Int) (Ao As Ap : Option Addr) (lo ls lp co cs cp : Nat) (w : World) (h : Asked w w.heap.size ⟨c, a, n, on, set, fl⟩ Ao As Ap lo ls lp) (hk : chkQ ⟨c, a, n, on, set, fl⟩ = 0) (hc : c = 6) :
    Calls Try.prog 15 #[.agg #[.int .i64 c, .int .i64 a, .int .i64 n, .slice Ao lo co, .slice As ls cs, .slice Ap lp cp]] w (Makes2 w (pduQ ⟨c, a, n, on, set, fl⟩)) := by
  obtain ⟨hmm, hst, ha, hmany, hparts, hend⟩ := chk_zero hk
  simp only at hmm hst ha hmany hparts hend
  subst hc
  have H0 := Lib.hid h
  have hx0 := Bx.new w (.cells #[.int .i64 6, .int .i64 a, .int .i64 n, .slice Ao lo co, .slice As ls cs, .slice Ap lp cp] 26)
  have HC := Lib.hid (refCheck_any ⟨6, a, n, on, set, fl⟩ Ao As Ap lo ls lp co cs cp _ (h.upAlloc (.cells #[.int .i64 6, .int .i64 a, .int .i64 n, .slice Ao lo co, .slice As ls cs, .slice Ap lp cp] 26)))
  rw [chkQ_of h, hk] at HC
  have hl : ls = 1 := by have h1 := H0.out.ls; have h2 : 1 ≤ (set.length : Int) ∧ (set.length : Int) ≤ 1 := hmany; simp only at h1; omega
  have HL : Hid (pduQ ⟨6, a, n, on, set, fl⟩ = ([6] ++ wbytes [a]) ++ wbytes [nth set 0]) := Lib.hid (by
    have e : pduQ ⟨6, a, n, on, set, fl⟩ = 6 :: wbytes [a, nth set 0] := rfl
    rw [e, wbytes_cons a]; rfl)
  have hlt : (0 : Int) < (ls : Int) := by omega
  have hl0 : 0 < ls := by omega
  have hlo : ls ≤ 1 := by omega
  obtain ⟨b, o, hAd, hb1, hcell⟩ := h.set.at_ (i := 0) (by have := H0.out.ls; simp only at this ⊢; omega)
  have hvb := wf_u16 (h.set.wf_at (i := 0) (by have := H0.out.ls; simp only at this ⊢; omega))
  rw [Nat.add_zero] at hcell
  have HAd := Lib.hid hAd
  have HCell := Lib.hid hcell
  rw [HL.out]
  simp only at HCell hvb
  generalize nth set 0 = v at *
  have e0 : IntKind.i64.wrap v = v := IntWalk.i64_in _ (by omega)
  clear hcell hAd hl
  clear h hk hst hmany hparts hend hmm
  go_enter Try.func15, Try.ntmps15
  go_wp2_with fail
  refine HC.out.mono ?_
  rintro e w1 ⟨rfl, b1⟩
  have h9 := hx0.below b1
  have hz1 := h9.lt
  clear b1 hx0 HC
  obtain ⟨d0, d1, d2, d3, d4, d5⟩ := h9.six
  go_wp2_with fail
  clear d0 d1 d2 d3 d4 d5
  refine (refTwo_any _ [6] a (w.heap.size + 1) _ (by exact Own.laid (l := [6]) (heap_alloc_new w1 _) hz1 rfl (by simp [maxLen])) ha (by simp) (by simp; omega)).mono ?_
  rintro e w2 ⟨v2, rfl, own2, g2, _⟩
  have h10 := (h9.alloc (.cells #[.int .u8 6] 5)).grown g2 (by simp [Value.ownBlock]; omega)
  have hz2 := h10.lt
  clear g2 h9
  obtain ⟨d0, d1, d2, d3, d4, d5⟩ := h10.six
  have hcw : w2.cell? ⟨b, o, none⟩ = some (.int .u16 v) := h10.old hb1 HCell.out
  obtain rfl := HAd.out
  go_wp2_with fail
  clear d0 d1 d2 d3 d4 d5
  refine (refTwo_any v2 ([6] ++ wbytes [a]) v (w.heap.size + 1) _ own2 hvb (by rw [List.length_append, wbytes_length]; simp) (by omega)).mono ?_
  rintro e w3 ⟨v3, rfl, own3, g3, _⟩
  have h11 := h10.grown g3 (fun k e => by have := (own2.block k e).1; omega)
  go_wp2
  go_ret2
  exact ⟨_, rfl, own3.mono (by omega), h11.2⟩
end Go.Proofs.Ytojjcmkadmofdaa
