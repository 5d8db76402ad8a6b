/-
  Contract of the document's Put: parts; and of any request.
-/
import Derived.Test.YtojjcmkadmofdaaAskRef4
namespace Go.Proofs.Ytojjcmkadmofdaa
open Go.RowKit
set_option linter.unusedVariables false
/-- Where a part lies, in whatever world a box above it is kept. -/
theorem Bx.parts {w0 w : World} {g : Nat} {t : TypeId} {v0 v1 v2 v3 v4 v5 p0 p1 p2 : Value} {b i : Nat} (h : Bx w0 g (.cells #[v0, v1, v2, v3, v4, v5] t (0, 0)) w) (hb : b < g) (h0 : w0.cell? ⟨b, i, none⟩ = some p0) (h1 : w0.cell? ⟨b, i + 1, none⟩ = some p1) (h2 : w0.cell? ⟨b, i + 2, none⟩ = some p2) :
    w.cell? ⟨b, i, none⟩ = some p0 ∧ w.cell? ⟨b, i + 1, none⟩ = some p1 ∧ w.cell? ⟨b, i + 2, none⟩ = some p2 ∧ w.cell? ⟨g, 0, none⟩ = some v0 ∧ w.cell? ⟨g, 1, none⟩ = some v1 ∧ w.cell? ⟨g, 2, none⟩ = some v2 ∧ w.cell? ⟨g, 3, none⟩ = some v3 ∧ w.cell? ⟨g, 4, none⟩ = some v4 ∧ w.cell? ⟨g, 5, none⟩ = some v5 :=
  ⟨h.old hb h0, h.old hb h1, h.old hb h2, h.six⟩

set_option maxHeartbeats 1000000 in
set_option maxRecDepth 100000 in
theorem refPut_file (c a n : Int) (on : List Bool) (set fl : List Int) (Ao As Ap : Option Addr) (lo ls lp co cs cp : Nat) (w : World) (h : Asked w w.heap.size ⟨c, a, n, on, set, fl⟩ Ao As Ap lo ls lp) (hk : chkQ ⟨c, a, n, on, set, fl⟩ = 0) (hc : c = 20) :
    Calls Try.prog 15 #[.agg #[.int .i64 c, .int .i64 a, .int .i64 n, .slice Ao lo co, .slice As ls cs, .slice Ap lp cp]] w (Makes2 w (pduQ ⟨c, a, n, on, set, fl⟩)) := by
  obtain ⟨hmm, hst, ha, hmany, hparts, hend⟩ := chk_zero hk
  simp only at hmm hst ha hmany hparts hend
  subst hc
  have H0 := Lib.hid h
  have hx0 := Bx.new w (.cells #[.int .i64 20, .int .i64 a, .int .i64 n, .slice Ao lo co, .slice As ls cs, .slice Ap lp cp] 26)
  have HC := Lib.hid (refCheck_any ⟨20, a, n, on, set, fl⟩ Ao As Ap lo ls lp co cs cp _ (h.upAlloc (.cells #[.int .i64 20, .int .i64 a, .int .i64 n, .slice Ao lo co, .slice As ls cs, .slice Ap lp cp] 26)))
  rw [chkQ_of h, hk] at HC
  have hl : lp ≤ 35 := by have h1 := H0.out.lp; have h2 : 1 ≤ ((fl.length / 3 : Nat) : Int) ∧ ((fl.length / 3 : Nat) : Int) ≤ 35 := hmany; simp only at h1; omega
  have hok : Hid (allOk fl lp = true) := Lib.hid (by
    have h1 := (hparts rfl).1
    have h2 := H0.out.lp
    simp only at h2
    rwa [show fl.length / 3 = lp by omega] at h1)
  have HL : Hid (pduQ ⟨20, a, n, on, set, fl⟩ = ([20] ++ [7 * (lp : Int)]) ++ pbytes fl lp) := Lib.hid (by
    have h1 := H0.out.lp
    simp only at h1
    have e : ∀ m, fl.length / 3 = m → pduQ ⟨20, a, n, on, set, fl⟩ = 20 :: ((7 * m : Nat) : Int) :: pbytes fl m := fun m hm => by subst hm; rfl
    rw [e lp (by omega), show ((7 * lp : Nat) : Int) = 7 * (lp : Int) by omega]; rfl)
  have e1 : IntKind.u8.wrap (7 * (lp : Int)) = 7 * (lp : Int) := by rw [IntKind.wrap_u8]; omega
  have e2 : IntKind.i64.wrap (7 * (lp : Int)) = 7 * (lp : Int) := IntWalk.i64_in _ (by omega)
  have hwf2 : Hid ((Lit.int .u8 (7 * (lp : Int))).wf = true) := Lib.hid (by have := wf_byte (7 * lp) (by omega); rwa [show ((7 * lp : Nat) : Int) = 7 * (lp : Int) by omega] at this)
  have HS := Lib.hid H0.out.fl
  have HSN := Lib.hid H0.out.lp
  simp only at HS HSN
  rw [HL.out]
  clear h hk hst hmany hparts hend hmm
  go_enter Try.func15, Try.ntmps15
  go_wp2_with fail
  refine HC.out.mono ?_
  rintro e w1 ⟨rfl, b1⟩
  have h9 := hx0.below b1
  have hz1 := h9.lt
  clear b1 hx0 HC
  obtain ⟨d0, d1, d2, d3, d4, d5⟩ := h9.six
  go_wp2_with (at_builtin; refine wpList_append_row _ rfl (.tmp 22) (.tmp 28) 32 rfl (w.heap.size + 1) .u8 5 1 Try.underlying32 info_u8 (.slice (some ⟨w1.heap.size, 0, none⟩) 1 1) [20] rfl ((Own.laid (k := .u8) (l := [20]) (heap_alloc_new w1 _) hz1 rfl (by simp [maxLen])).alloc _) _ _ 1 1 [7 * (lp : Int)] rfl (Row.one_at .u8 _ 5 (7 * (lp : Int)) hwf2.out (by simp)) rfl (by simp) (by simp [maxLen]) (by simp; omega) ?_; intro v2 w2 own2 g2)
  have h10 := ((h9.alloc (.cells #[.int .u8 20] 5)).alloc (.cells #[.int .u8 (7 * (lp : Int))] 5)).grown g2 (by simp [Value.ownBlock]; omega)
  clear d0 d1 d2 d3 d4 d5 h9 g2
  go_loopw [5, 6] (fun v i wr => ∃ k : Nat, k ≤ lp ∧ i = .int .i64 k ∧ Own .u8 5 wr (w.heap.size + 1) v ([20] ++ [7 * (lp : Int)] ++ pbytes fl k) ∧ Bx w w.heap.size (.cells #[.int .i64 20, .int .i64 a, .int .i64 n, .slice Ao lo co, .slice As ls cs, .slice Ap lp cp] 26) wr) (fun _ i _ => lp - (intOf i).toNat)
  case atStart => exact ⟨0, by omega, rfl, by simpa [pbytes] using own2, h10⟩
  case round =>
    clear own2 h10
    obtain ⟨k, hk, rfl, hown, hbx⟩ := hrel
    have hzr := hbx.lt
    by_cases hlt : k < lp
    · obtain ⟨b, o, hAd, hb1, hc1, hc2, hc3⟩ := HS.out.three (k := k) (by have := HSN.out; omega)
      subst hAd
      have hin := (inPl_iff _ _ _).1 (allOk_le hok.out k hlt)
      have HP : Hid (pbytes fl (k + 1) = pbytes fl k ++ (6 :: wbytes [nth fl (3 * k), nth fl (3 * k + 1), nth fl (3 * k + 2)])) := Lib.hid rfl
      have HLn : Hid ((pbytes fl k).length = 7 * k) := Lib.hid (pbytes_length fl k)
      generalize nth fl (3 * k) = x at *
      generalize nth fl (3 * k + 1) = y at *
      generalize nth fl (3 * k + 2) = z at *
      obtain ⟨P, hP⟩ : ∃ P, Hid (pbytes fl k = P) := ⟨_, Lib.hid rfl⟩
      rw [hP.out] at hown HP HLn
      have HX : Hid (pbytes fl (k + 1) = ((P ++ [6]) ++ wbytes [x] ++ wbytes [y]) ++ wbytes [z]) := Lib.hid (by rw [HP.out, wbytes_cons x, wbytes_cons y]; simp)
      have C1 := Lib.hid hc1
      have C2 := Lib.hid hc2
      have C3 := Lib.hid hc3
      have M1 : Hid (([20] ++ [7 * (lp : Int)] ++ P).length ≤ 300) := Lib.hid (by simp [HLn.out]; omega)
      have M2 : Hid (([20] ++ [7 * (lp : Int)] ++ P ++ [6]).length ≤ 301) := Lib.hid (by rw [List.length_append]; have := M1.out; simp at this ⊢; omega)
      have M3 : Hid (([20] ++ [7 * (lp : Int)] ++ P ++ [6] ++ wbytes [x]).length ≤ 303) := Lib.hid (by rw [List.length_append, wbytes_length]; have := M2.out; simp at this ⊢; omega)
      have M4 : Hid (([20] ++ [7 * (lp : Int)] ++ P ++ [6] ++ wbytes [x] ++ wbytes [y]).length ≤ 305) := Lib.hid (by rw [List.length_append, wbytes_length]; have := M3.out; simp at this ⊢; omega)
      have ob := Lib.hid hown.block
      clear hc1 hc2 hc3 HP
      obtain ⟨d0, d1, d2, d3, d4, d5⟩ := hbx.six
      go_wp2_with fail
      clear d0 d1 d2 d3 d4 d5
      go_region_held3 (fun w' => Bx w w.heap.size (.cells #[.int .i64 20, .int .i64 a, .int .i64 n, .slice Ao lo co, .slice As ls cs, .slice (some ⟨b, o, none⟩) lp cp] 26) w' ∧ w'.cell? ⟨b, o + k * 3, none⟩ = some (.int .i64 x) ∧ w'.cell? ⟨b, o + k * 3 + 1, none⟩ = some (.int .i64 y) ∧ w'.cell? ⟨b, o + k * 3 + 2, none⟩ = some (.int .i64 z) ∧ w'.cell? ⟨w.heap.size, 0, none⟩ = some (.int .i64 20) ∧ w'.cell? ⟨w.heap.size, 1, none⟩ = some (.int .i64 a) ∧ w'.cell? ⟨w.heap.size, 2, none⟩ = some (.int .i64 n) ∧ w'.cell? ⟨w.heap.size, 3, none⟩ = some (.slice Ao lo co) ∧ w'.cell? ⟨w.heap.size, 4, none⟩ = some (.slice As ls cs) ∧ w'.cell? ⟨w.heap.size, 5, none⟩ = some (.slice (some ⟨b, o, none⟩) lp cp))
        ((first
          | exact ⟨h15, h15.parts hb1 C1.out C2.out C3.out⟩
          | exact ⟨h14, h14.parts hb1 C1.out C2.out C3.out⟩
          | exact ⟨h13, h13.parts hb1 C1.out C2.out C3.out⟩
          | exact ⟨h12, h12.parts hb1 C1.out C2.out C3.out⟩
          | exact ⟨hbx.drew, hbx.drew.parts hb1 C1.out C2.out C3.out⟩
          | exact ⟨hbx, hbx.parts hb1 C1.out C2.out C3.out⟩
          | exact ⟨(hbx.alloc _).drew, (hbx.alloc _).drew.parts hb1 C1.out C2.out C3.out⟩))
        (first
          | (go_at_call_of 40 (Value.int .i64 x); refine (refTwo_any v4 ([20] ++ [7 * (lp : Int)] ++ P ++ [6]) x (w.heap.size + 1) _ own4 (by omega) (by have := M2.out; omega) (by omega)).mono ?_
             rintro e w5 ⟨v5, rfl, own5, g5, _⟩
             have h13 := h12.grown g5 (fun k e => by have := (own4.block k e).1; omega)
             have hz5 := h13.lt)
          | (go_at_call_of 40 (Value.int .i64 y); refine (refTwo_any v5 ([20] ++ [7 * (lp : Int)] ++ P ++ [6] ++ wbytes [x]) y (w.heap.size + 1) _ own5 (by omega) (by have := M3.out; omega) (by omega)).mono ?_
             rintro e w6 ⟨v6, rfl, own6, g6, _⟩
             have h14 := h13.grown g6 (fun k e => by have := (own5.block k e).1; omega)
             have hz6 := h14.lt)
          | (go_at_call_of 40 (Value.int .i64 z); refine (refTwo_any v6 ([20] ++ [7 * (lp : Int)] ++ P ++ [6] ++ wbytes [x] ++ wbytes [y]) z (w.heap.size + 1) _ own6 (by omega) (by have := M4.out; omega) (by omega)).mono ?_
             rintro e w7 ⟨v7, rfl, own7, g7, _⟩
             have h15 := h14.grown g7 (fun k e => by have := (own6.block k e).1; omega))
          | (refine step_append_row (World.drew (wr.alloc (.cells (blk .u8 [6]) 5))) rfl _ _ 32 rfl (w.heap.size + 1) .u8 5 1 Try.underlying32 info_u8 _ ([20] ++ [7 * (lp : Int)] ++ P) rfl (hown.alloc _) (wr.heap.size + 1) (some ⟨wr.heap.size, 0, none⟩) 1 1 [6] rfl (Row.one .u8 wr 5 6 (by decide)) rfl (by have := M1.out; omega) (by have := M1.out; simp only [maxLen]; omega) (by show _ ≤ (wr.alloc _).heap.size; simp; omega) ?_
             intro v4 w4 own4 g4
             have h12 := (hbx.alloc (.cells #[.int .u8 6] 5)).drew.grown g4 (fun k e => by have := (ob.out k e).1; omega)
             have hz4 := h12.lt))
      have own8 : Own .u8 5 w7 (w.heap.size + 1) v7 ([20] ++ [7 * (lp : Int)] ++ pbytes fl (k + 1)) := by
        have e : [20] ++ [7 * (lp : Int)] ++ pbytes fl (k + 1) = [20] ++ [7 * (lp : Int)] ++ P ++ [6] ++ wbytes [x] ++ wbytes [y] ++ wbytes [z] := by rw [HX.out]; simp only [List.append_assoc]
        rw [e]; exact own7
      go_wp2
      go_roundw
      case rel => exact ⟨k + 1, by omega, by go_num, own8, h15⟩
      case measure => simp [intOf]; omega
    · obtain rfl : k = lp := by omega
      obtain ⟨d0, d1, d2, d3, d4, d5⟩ := hbx.six
      go_wp2
      go_ret2
      exact ⟨_, rfl, hown.mono (by omega), hbx.2⟩

theorem refPut_no (q : Req) (Ao As Ap : Option Addr) (lo ls lp co cs cp : Nat) (w : World) (h : Asked w w.heap.size q Ao As Ap lo ls lp) (hk : chkQ q ≠ 0) :
    Calls Try.prog 15 #[.agg #[.int .i64 q.c, .int .i64 q.a, .int .i64 q.n, .slice Ao lo co, .slice As ls cs, .slice Ap lp cp]] w (GivesOwn w [] (chkQ q)) := by
  have HC := Lib.hid (refCheck_any q Ao As Ap lo ls lp co cs cp _ (h.upAlloc (.cells #[.int .i64 q.c, .int .i64 q.a, .int .i64 q.n, .slice Ao lo co, .slice As ls cs, .slice Ap lp cp] 26)))
  rw [chkQ_of h] at HC
  generalize chkQ q = r at *
  have b1 : (r != 0) = true := by simpa using hk
  have b2 : (r == 0) = false := beq_false_of_ne hk
  clear h hk
  go_enter Try.func15, Try.ntmps15
  go_wp2_with fail
  refine HC.out.mono ?_
  rintro e w1 ⟨rfl, bel⟩
  go_wp2
  go_ret2
  exact ⟨_, rfl, Own.nil _ _ _ _, (bel_alloc w _).trans (bel.mono (by simp))⟩
set_option maxRecDepth 100000 in
/-- The document's Put, of any request. -/
theorem refPut_any (q : Req) (Ao As Ap : Option Addr) (lo ls lp co cs cp : Nat) (w : World) (h : Asked w w.heap.size q Ao As Ap lo ls lp) :
    Calls Try.prog 15 #[.agg #[.int .i64 q.c, .int .i64 q.a, .int .i64 q.n, .slice Ao lo co, .slice As ls cs, .slice Ap lp cp]] w (GivesOwn w (putL q) (chkQ q)) := by
  by_cases hk : chkQ q = 0
  · rw [hk, putL, if_pos hk]
    obtain ⟨c, a, n, on, set, fl⟩ := q
    have key : Calls Try.prog 15 #[.agg #[.int .i64 c, .int .i64 a, .int .i64 n, .slice Ao lo co, .slice As ls cs, .slice Ap lp cp]] w (Makes2 w (pduQ ⟨c, a, n, on, set, fl⟩)) := by
      rcases (show c = 1 ∨ c = 2 ∨ c = 3 ∨ c = 4 ∨ c = 5 ∨ c = 6 ∨ c = 15 ∨ c = 16 ∨ c = 20 from mm_pos (chk_zero hk).1) with hc | hc | hc | hc | hc | hc | hc | hc | hc
      · exact refPut_plain c a n on set fl Ao As Ap lo ls lp co cs cp w h hk (.inl hc)
      · exact refPut_plain c a n on set fl Ao As Ap lo ls lp co cs cp w h hk (.inr (.inl hc))
      · exact refPut_plain c a n on set fl Ao As Ap lo ls lp co cs cp w h hk (.inr (.inr (.inl hc)))
      · exact refPut_plain c a n on set fl Ao As Ap lo ls lp co cs cp w h hk (.inr (.inr (.inr hc)))
      · exact refPut_coil c a n on set fl Ao As Ap lo ls lp co cs cp w h hk hc
      · exact refPut_reg c a n on set fl Ao As Ap lo ls lp co cs cp w h hk hc
      · exact refPut_bits c a n on set fl Ao As Ap lo ls lp co cs cp w h hk hc
      · exact refPut_words c a n on set fl Ao As Ap lo ls lp co cs cp w h hk hc
      · exact refPut_file c a n on set fl Ao As Ap lo ls lp co cs cp w h hk hc
    exact key.mono fun e w' ⟨v, he, ho, hb⟩ => ⟨v, he, ho, hb⟩
  · rw [putL, if_neg hk]
    exact refPut_no q Ao As Ap lo ls lp co cs cp w h hk
/-- Does a request write? -/
def wrB (c : Int) : Bool := decide (c = 5 ∨ c = 6 ∨ c = 15 ∨ c = 16)
theorem Writes_any (c a n : Int) (Ao As Ap : Option Addr) (lo co ls cs lp cp : Nat) (w : World) :
    Calls Try.prog 16 #[.agg #[.int .i64 c, .int .i64 a, .int .i64 n, .slice Ao lo co, .slice As ls cs, .slice Ap lp cp]] w fun e w' => e = .returned (.bool (wrB c)) ∧ Below w.heap.size w w' := by
  rcases (show c = 5 ∨ c = 6 ∨ c = 15 ∨ c = 16 ∨ (c ≠ 5 ∧ c ≠ 6 ∧ c ≠ 15 ∧ c ≠ 16) by omega) with rfl | rfl | rfl | rfl | ⟨h1, h2, h3, h4⟩
  iterate 4
    · go_enter Try.func16, Try.ntmps16
      go_wp2
      go_ret
      exact ⟨rfl, bel_alloc _ _⟩
  have e : Hid (wrB c = false) := Lib.hid (by simp [wrB, *])
  have b1 := beq_false_of_ne h1
  have b2 := beq_false_of_ne h2
  have b3 := beq_false_of_ne h3
  have b4 := beq_false_of_ne h4
  rw [e.out]
  go_enter Try.func16, Try.ntmps16
  go_wp2
  go_ret
  exact ⟨rfl, bel_alloc _ _⟩
theorem refWrites_any (c a n : Int) (Ao As Ap : Option Addr) (lo co ls cs lp cp : Nat) (w : World) :
    Calls Try.prog 17 #[.agg #[.int .i64 c, .int .i64 a, .int .i64 n, .slice Ao lo co, .slice As ls cs, .slice Ap lp cp]] w fun e w' => e = .returned (.bool (wrB c)) ∧ Below w.heap.size w w' := by
  rcases (show c = 5 ∨ c = 6 ∨ c = 15 ∨ c = 16 ∨ (c ≠ 5 ∧ c ≠ 6 ∧ c ≠ 15 ∧ c ≠ 16) by omega) with rfl | rfl | rfl | rfl | ⟨h1, h2, h3, h4⟩
  iterate 4
    · go_enter Try.func17, Try.ntmps17
      go_wp2
      go_ret
      exact ⟨rfl, bel_alloc _ _⟩
  have e : Hid (wrB c = false) := Lib.hid (by simp [wrB, *])
  have b1 := beq_false_of_ne h1
  have b2 := beq_false_of_ne h2
  have b3 := beq_false_of_ne h3
  have b4 := beq_false_of_ne h4
  rw [e.out]
  go_enter Try.func17, Try.ntmps17
  go_wp2
  go_ret
  exact ⟨rfl, bel_alloc _ _⟩
end Go.Proofs.Ytojjcmkadmofdaa
