/-
  Texts of the proof of ReplyKnown, joined.
-/
import Derived.Test.YtobhllcnljggiaaGreatJReplyKnownC
namespace Go.Proofs.YtobhllcnljggiaaGreat
open Go.RowKit
set_option linter.unusedVariables false

set_option maxHeartbeats 1000000 in
set_option maxRecDepth 100000 in
theorem refPut_bits (c a n : Int) (on : List Bool) (set fl : List Int) (Ao As Ap : Option Addr) (lo ls lp co cs cp : Nat) (w : World) (h : Asked w w.heap.size ⟨c, a, n, on, set, fl⟩ Ao As Ap lo ls lp) (hk : chkQ ⟨c, a, n, on, set, fl⟩ = 0) (hc : c = 15) :
    Calls Tryz.prog 50 #[.agg #[.int .i64 c, .int .i64 a, .int .i64 n, .slice Ao lo co, .slice As ls cs, .slice Ap lp cp]] w (Makes2 w (pduQ ⟨c, a, n, on, set, fl⟩)) := by
  obtain ⟨hmm, hst, ha, hmany, hparts, hend⟩ := chk_zero hk
  simp only at hmm hst ha hmany hparts hend
  subst hc
  have H0 := Lib.hid h
  have hx0 := Bx.new w (.cells #[.int .i64 15, .int .i64 a, .int .i64 n, .slice Ao lo co, .slice As ls cs, .slice Ap lp cp] 26)
  have HC := Lib.hid (refCheck_any ⟨15, a, n, on, set, fl⟩ Ao As Ap lo ls lp co cs cp _ (h.upAlloc (.cells #[.int .i64 15, .int .i64 a, .int .i64 n, .slice Ao lo co, .slice As ls cs, .slice Ap lp cp] 26)))
  rw [chkQ_of h, hk] at HC
  have hl : lo ≤ 1968 := by have h1 := H0.out.lo; have h2 : 1 ≤ (on.length : Int) ∧ (on.length : Int) ≤ 1968 := hmany; simp only at h1; omega
  have hd2 : need lo ≤ 246 := by unfold need; omega
  obtain ⟨d, hd⟩ : ∃ d, Hid (need lo = d) := ⟨_, Lib.hid rfl⟩
  have HL : Hid (pduQ ⟨15, a, n, on, set, fl⟩ = (([15] ++ wbytes [a]) ++ wbytes [(lo : Int)] ++ [(d : Int)]) ++ pk on d) := Lib.hid (by
    have e : pduQ ⟨15, a, n, on, set, fl⟩ = 15 :: (wbytes [a, (on.length : Int)] ++ ((need on.length : Nat) : Int) :: pk on (need on.length)) := rfl
    have h1 := H0.out.lo
    simp only at h1
    rw [e, h1, hd.out, wbytes_cons a]; simp)
  have HD : Hid (pk on (need lo) = pk on d) := Lib.hid (by rw [hd.out])
  rw [hd.out] at hd2
  have hwf := Lib.hid (pk_wf on d)
  have hpl := Lib.hid (pk_length on d)
  have e1 : IntKind.u8.wrap (d : Int) = (d : Int) := by rw [IntKind.wrap_u8]; omega
  rw [HL.out]
  clear h hk hst hmany hparts hend hmm
  go_enter Tryz.func50, Tryz.ntmps50
  go_wp2_with fail
  refine HC.out.mono ?_
  rintro e w1 ⟨rfl, b1⟩
  have h9 := hx0.below b1
  have hz1 := h9.lt
  clear b1 hx0 HC
  obtain ⟨d0, d1, d2, d3, d4, d5⟩ := h9.six
  go_wp2_with fail
  clear d0 d1 d2 d3 d4 d5
  refine (refTwo_any _ [15] a (w.heap.size + 1) _ (by exact Own.laid (l := [15]) (heap_alloc_new w1 _) hz1 rfl (by simp [maxLen])) ha (by simp) (by simp; omega)).mono ?_
  rintro e w2 ⟨v2, rfl, own2, g2, _⟩
  have h10 := (h9.alloc (.cells #[.int .u8 15] 5)).grown g2 (by simp [Value.ownBlock]; omega)
  have hz2 := h10.lt
  clear g2 h9
  obtain ⟨d0, d1, d2, d3, d4, d5⟩ := h10.six
  go_wp2_with fail
  clear d0 d1 d2 d3 d4 d5
  have hP := Packed_any Ao lo co on w2 ((H0.out.on.below h10.2).more (Nat.le_of_lt hz2)) H0.out.lo (by omega)
  rw [HD.out, hd.out] at hP
  refine hP.mono ?_
  rintro e w3 ⟨rfl, g3, b3⟩
  have own3 := own2.below b3 (Nat.le_refl _)
  have ob2 := Lib.hid own2.block
  have h11 := h10.below b3
  have hz3 := b3.size
  have hlt3 := block_lt g3
  have G3 := Lib.hid g3
  clear hP own2 h10 b3 g3
  obtain ⟨d0, d1, d2, d3, d4, d5⟩ := h11.six
  go_wp2_with fail
  clear d0 d1 d2 d3 d4 d5
  refine (refTwo_any v2 ([15] ++ wbytes [a]) (lo : Int) (w.heap.size + 1) _ own3 (by omega) (by rw [List.length_append, wbytes_length]; simp) (by omega)).mono ?_
  rintro e w4 ⟨v4, rfl, own4, g4, at4⟩
  have h12 := h11.grown g4 (fun k e => by have := (own3.block k e).1; omega)
  have G4 := Lib.hid ((g4.block w2.heap.size hlt3 (fun e => by have := (ob2.out _ e.symm).2; omega)).trans G3.out)
  have hv4 := Lib.hid (fun (g : Nat) (hg : v4.ownBlock = some g) => show g ≠ w2.heap.size from by
    rcases at4 g hg with h | h
    · have := (ob2.out _ h).2; omega
    · omega)
  have hz4 := h12.lt
  have hlt4 : w2.heap.size < w4.heap.size := block_lt G4.out
  have L4 : Hid (([15] ++ wbytes [a] ++ wbytes [(lo : Int)]).length = 5) := Lib.hid (by simp [wbytes_length])
  clear own3 h11 G3 g4 at4 hlt3 ob2 hz3
  go_wp2_with (first
    | (at_builtin; refine wpList_append_row2 _ rfl (.tmp 99) (.tmp 103) 34 rfl (w.heap.size + 1) .u8 5 1 Tryz.underlying34 info_u8 v4 ([15] ++ wbytes [a] ++ wbytes [(lo : Int)]) rfl (own4.alloc _) _ _ 1 1 [(d : Int)] rfl (Row.one_at .u8 _ 5 (d : Int) (wf_byte d (by omega)) rfl) rfl (by rw [L4.out]; omega) (by rw [L4.out]; simp [maxLen]) (by simp; omega) ?_
       intro v5 w5 own5 g5 at5
       have h13 := (h12.alloc (.cells #[.int .u8 (d : Int)] 5)).grown g5 (fun k e => by have := (own4.block k e).1; omega)
       have G5 := Lib.hid ((g5.block w2.heap.size (by simp; omega) (fun e => hv4.out _ e.symm rfl)).trans ((heap_alloc_old w4 _ hlt4).trans G4.out))
       have hz5 := h13.lt)
    | (at_builtin; refine wpList_append_row2 _ rfl (.tmp 104) (.tmp 105) 34 rfl (w.heap.size + 1) .u8 5 1 Tryz.underlying34 info_u8 v5 ([15] ++ wbytes [a] ++ wbytes [(lo : Int)] ++ [(d : Int)]) rfl own5 _ _ d d (pk on d) rfl (Row.of_block G5.out (pk on d) hwf.out (List.prefix_refl _)) hpl.out (by rw [List.length_append, L4.out]; simp; omega) (by rw [List.length_append, L4.out]; simp [maxLen]; omega) (by omega) ?_
       intro v6 w6 own6 g6 at6
       have h14 := h13.grown g6 (fun k e => by have := (own5.block k e).1; omega)))
  go_ret2
  exact ⟨_, rfl, own6.mono (by omega), h14.2⟩

set_option maxHeartbeats 1000000 in
set_option maxRecDepth 100000 in
theorem refPut_words (c a n : Int) (on : List Bool) (set fl : List Int) (Ao As Ap : Option Addr) (lo ls lp co cs cp : Nat) (w : World) (h : Asked w w.heap.size ⟨c, a, n, on, set, fl⟩ Ao As Ap lo ls lp) (hk : chkQ ⟨c, a, n, on, set, fl⟩ = 0) (hc : c = 16) :
    Calls Tryz.prog 50 #[.agg #[.int .i64 c, .int .i64 a, .int .i64 n, .slice Ao lo co, .slice As ls cs, .slice Ap lp cp]] w (Makes2 w (pduQ ⟨c, a, n, on, set, fl⟩)) := by
  obtain ⟨hmm, hst, ha, hmany, hparts, hend⟩ := chk_zero hk
  simp only at hmm hst ha hmany hparts hend
  subst hc
  have H0 := Lib.hid h
  have hx0 := Bx.new w (.cells #[.int .i64 16, .int .i64 a, .int .i64 n, .slice Ao lo co, .slice As ls cs, .slice Ap lp cp] 26)
  have HC := Lib.hid (refCheck_any ⟨16, a, n, on, set, fl⟩ Ao As Ap lo ls lp co cs cp _ (h.upAlloc (.cells #[.int .i64 16, .int .i64 a, .int .i64 n, .slice Ao lo co, .slice As ls cs, .slice Ap lp cp] 26)))
  rw [chkQ_of h, hk] at HC
  have hl : ls ≤ 123 := by have h1 := H0.out.ls; have h2 : 1 ≤ (set.length : Int) ∧ (set.length : Int) ≤ 123 := hmany; simp only at h1; omega
  have HL : Hid (pduQ ⟨16, a, n, on, set, fl⟩ = (([16] ++ wbytes [a]) ++ wbytes [(ls : Int)] ++ [2 * (ls : Int)]) ++ wbytes set) := Lib.hid (by
    have e : pduQ ⟨16, a, n, on, set, fl⟩ = 16 :: (wbytes [a, (set.length : Int)] ++ ((2 * set.length : Nat) : Int) :: wbytes set) := rfl
    have h1 := H0.out.ls
    simp only at h1
    rw [e, h1, wbytes_cons a]; simp)
  have e1 : IntKind.u8.wrap (2 * (ls : Int)) = 2 * (ls : Int) := by rw [IntKind.wrap_u8]; omega
  have e2 : IntKind.i64.wrap (2 * (ls : Int)) = 2 * (ls : Int) := IntWalk.i64_in _ (by omega)
  have hwf2 : Hid ((Lit.int .u8 (2 * (ls : Int))).wf = true) := Lib.hid (by have := wf_byte (2 * ls) (by omega); rwa [show ((2 * ls : Nat) : Int) = 2 * (ls : Int) by omega] at this)
  rw [HL.out]
  clear h hk hst hmany hparts hend hmm
  go_enter Tryz.func50, Tryz.ntmps50
  go_wp2_with fail
  refine HC.out.mono ?_
  rintro e w1 ⟨rfl, b1⟩
  have h9 := hx0.below b1
  have hz1 := h9.lt
  clear b1 hx0 HC
  obtain ⟨d0, d1, d2, d3, d4, d5⟩ := h9.six
  go_wp2_with fail
  clear d0 d1 d2 d3 d4 d5
  refine (refTwo_any _ [16] a (w.heap.size + 1) _ (by exact Own.laid (l := [16]) (heap_alloc_new w1 _) hz1 rfl (by simp [maxLen])) ha (by simp) (by simp; omega)).mono ?_
  rintro e w2 ⟨v2, rfl, own2, g2, _⟩
  have h10 := (h9.alloc (.cells #[.int .u8 16] 5)).grown g2 (by simp [Value.ownBlock]; omega)
  have hz2 := h10.lt
  clear g2 h9
  obtain ⟨d0, d1, d2, d3, d4, d5⟩ := h10.six
  have L2 : Hid (([16] ++ wbytes [a]).length = 3) := Lib.hid (by simp [wbytes_length])
  have L3 : Hid (([16] ++ wbytes [a] ++ wbytes [(ls : Int)]).length = 5) := Lib.hid (by simp [wbytes_length])
  have ob2 := Lib.hid own2.block
  clear d0 d1 d2 d3 d4 d5
  obtain ⟨d0, _, _, _, _, _⟩ := h10.six
  go_wp2_with fail
  clear d0
  go_region_held3 (fun w' => Bx w w.heap.size (.cells #[.int .i64 16, .int .i64 a, .int .i64 n, .slice Ao lo co, .slice As ls cs, .slice Ap lp cp] 26) w' ∧ w'.cell? ⟨w.heap.size, 0, none⟩ = some (.int .i64 16) ∧ w'.cell? ⟨w.heap.size, 1, none⟩ = some (.int .i64 a) ∧ w'.cell? ⟨w.heap.size, 2, none⟩ = some (.int .i64 n) ∧ w'.cell? ⟨w.heap.size, 3, none⟩ = some (.slice Ao lo co) ∧ w'.cell? ⟨w.heap.size, 4, none⟩ = some (.slice As ls cs) ∧ w'.cell? ⟨w.heap.size, 5, none⟩ = some (.slice Ap lp cp))
    ((first
      | exact ⟨h12, h12.six⟩
      | exact ⟨h11, h11.six⟩
      | exact ⟨h11.alloc _, (h11.alloc _).six⟩
      | exact ⟨h10.drew, h10.drew.six⟩
      | exact ⟨h10, h10.six⟩
      | exact ⟨(h10.alloc _).drew, (h10.alloc _).drew.six⟩))
    (first
      | (go_at_call 85
         refine (refTwo_any v2 ([16] ++ wbytes [a]) (ls : Int) (w.heap.size + 1) _ (by first | exact own2.alloc _ | exact own2) (by omega) (by rw [L2.out]; omega) (by simp <;> omega)).mono ?_
         rintro e w3 ⟨v3, rfl, own3, g3, at3⟩
         have h11 : Bx w w.heap.size (.cells #[.int .i64 16, .int .i64 a, .int .i64 n, .slice Ao lo co, .slice As ls cs, .slice Ap lp cp] 26) w3 := by first | exact (h10.alloc _).drew.grown g3 (fun k e => by have := (ob2.out k e).1; omega) | exact h10.drew.grown g3 (fun k e => by have := (ob2.out k e).1; omega)
         have hz3 := h11.lt)
      | (refine step_append_row w3 rfl _ _ 34 rfl (w.heap.size + 1) .u8 5 1 Tryz.underlying34 info_u8 v3 ([16] ++ wbytes [a] ++ wbytes [(ls : Int)]) rfl own3 (w2.heap.size + 1) (some ⟨w2.heap.size, 0, none⟩) 1 1 [2 * (ls : Int)] rfl (Row.of_block (l := [2 * (ls : Int)]) ((g3.block w2.heap.size (by simp) (fun e => by have := (ob2.out _ e.symm).2; omega)).trans (heap_alloc_new w2 _)) [2 * (ls : Int)] (by intro x hx; simp only [List.mem_singleton] at hx; subst hx; exact hwf2.out) (List.prefix_refl _)) rfl (by rw [L3.out]; omega) (by rw [L3.out]; simp [maxLen]) (by omega) ?_
         intro v4 w4 own4 g4
         have h12 := h11.grown g4 (fun k e => by have := (own3.block k e).1; omega))
      | (refine step_append_row (w3.alloc (.cells #[.int .u8 (2 * (ls : Int))] 5)) rfl _ _ 34 rfl (w.heap.size + 1) .u8 5 1 Tryz.underlying34 info_u8 v3 ([16] ++ wbytes [a] ++ wbytes [(ls : Int)]) rfl (own3.alloc _) (w3.heap.size + 1) (some ⟨w3.heap.size, 0, none⟩) 1 1 [2 * (ls : Int)] rfl (Row.one .u8 w3 5 (2 * (ls : Int)) hwf2.out) rfl (by rw [L3.out]; omega) (by rw [L3.out]; simp [maxLen]) (by simp; omega) ?_
         intro v4 w4 own4 g4
         have h12 := (h11.alloc (.cells #[.int .u8 (2 * (ls : Int))] 5)).grown g4 (fun k e => by have := (own3.block k e).1; omega)))
  all_goals
    have hz4 := h12.lt
    have H12 := Lib.hid h12
    have O4 := Lib.hid own4
    have HS := Lib.hid H0.out.set
    have HSN := Lib.hid H0.out.ls
    clear h12 own4 g4 h11 own3 g3 at3 h10 own2 ob2 hz3
    obtain ⟨d0, _, _, _, _, _⟩ := H12.out.six
    go_wp2_with fail
    clear d0
    go_loopw [5, 9] (fun v i wr => ∃ k : Nat, k ≤ ls ∧ i = .int .i64 k ∧ Own .u8 5 wr (w.heap.size + 1) v ([16] ++ wbytes [a] ++ wbytes [(ls : Int)] ++ [2 * (ls : Int)] ++ wbytes (set.take k)) ∧ Bx w w.heap.size (.cells #[.int .i64 16, .int .i64 a, .int .i64 n, .slice Ao lo co, .slice As ls cs, .slice Ap lp cp] 26) wr) (fun _ i _ => ls - (intOf i).toNat)
    case atStart => exact ⟨0, by omega, rfl, by simpa [wbytes] using O4.out, H12.out⟩
    case round =>
      obtain ⟨k, hk, rfl, hown, hbx⟩ := hrel
      obtain ⟨d0, d1, d2, d3, d4, d5⟩ := hbx.six
      have hzr := hbx.lt
      by_cases hlt : k < ls
      · obtain ⟨b, o, hAd, hb1, hcell⟩ := HS.out.at_ (i := k) (by have := HSN.out; omega)
        have hvb := wf_u16 (HS.out.wf_at (i := k) (by have := HSN.out; omega))
        subst hAd
        have hc1 := hbx.old hb1 hcell
        have HT := Lib.hid (take_step set k (by have := HSN.out; omega))
        have HLn : Hid (([16] ++ wbytes [a] ++ wbytes [(ls : Int)] ++ [2 * (ls : Int)] ++ wbytes (set.take k)).length ≤ 1000) := Lib.hid (by simp [wbytes_length]; omega)
        have HWS := Lib.hid (wbytes_snoc (set.take k) (nth set k))
        have HW1 : Hid (wbytes [nth set k] = be 2 (nth set k).toNat) := Lib.hid (by simp [wbytes])
        generalize nth set k = v at *
        have e0 : IntKind.i64.wrap v = v := IntWalk.i64_in _ (by omega)
        clear hcell
        go_wp2_with fail
        clear d0 d1 d2 d3 d4 d5
        refine (refTwo_any _ _ v (w.heap.size + 1) _ hown hvb HLn.out (by omega)).mono ?_
        rintro e w5 ⟨v5, rfl, own5, g5, _⟩
        have h13 := hbx.grown g5 (fun k e => by have := (hown.block k e).1; omega)
        have own6 : Own .u8 5 w5 (w.heap.size + 1) v5 ([16] ++ wbytes [a] ++ wbytes [(ls : Int)] ++ [2 * (ls : Int)] ++ wbytes (set.take (k + 1))) := by
          rw [HT.out, HWS.out, ← HW1.out, ← List.append_assoc]; exact own5
        clear g5 hown hbx own5
        go_wp2
        go_roundw
        case rel => exact ⟨k + 1, by omega, by go_num, own6, h13⟩
        case measure => simp [intOf]; omega
      · obtain rfl : k = ls := by omega
        have hx : Hid (set.take k = set) := Lib.hid (List.take_of_length_le (by have := HSN.out; omega))
        rw [hx.out] at hown
        go_wp2
        go_ret2
        exact ⟨_, rfl, hown.mono (by omega), hbx.2⟩
end Go.Proofs.YtobhllcnljggiaaGreat
namespace Go.Proofs.YtobhllcnljggiaaGreat
open Go.RowKit
set_option linter.unusedVariables false
/-- Where a part lies, in whatever world a box above it is kept. -/
theorem Bx.parts {w0 w : World} {g : Nat} {t : TypeId} {v0 v1 v2 v3 v4 v5 p0 p1 p2 : Value} {b i : Nat} (h : Bx w0 g (.cells #[v0, v1, v2, v3, v4, v5] t (0, 0)) w) (hb : b < g) (h0 : w0.cell? ⟨b, i, none⟩ = some p0) (h1 : w0.cell? ⟨b, i + 1, none⟩ = some p1) (h2 : w0.cell? ⟨b, i + 2, none⟩ = some p2) :
    w.cell? ⟨b, i, none⟩ = some p0 ∧ w.cell? ⟨b, i + 1, none⟩ = some p1 ∧ w.cell? ⟨b, i + 2, none⟩ = some p2 ∧ w.cell? ⟨g, 0, none⟩ = some v0 ∧ w.cell? ⟨g, 1, none⟩ = some v1 ∧ w.cell? ⟨g, 2, none⟩ = some v2 ∧ w.cell? ⟨g, 3, none⟩ = some v3 ∧ w.cell? ⟨g, 4, none⟩ = some v4 ∧ w.cell? ⟨g, 5, none⟩ = some v5 :=
  ⟨h.old hb h0, h.old hb h1, h.old hb h2, h.six⟩

set_option maxHeartbeats 1000000 in
set_option maxRecDepth 100000 in
theorem refPut_file (c a n : Int) (on : List Bool) (set fl : List Int) (Ao As Ap : Option Addr) (lo ls lp co cs cp : Nat) (w : World) (h : Asked w w.heap.size ⟨c, a, n, on, set, fl⟩ Ao As Ap lo ls lp) (hk : chkQ ⟨c, a, n, on, set, fl⟩ = 0) (hc : c = 20) :
    Calls Tryz.prog 50 #[.agg #[.int .i64 c, .int .i64 a, .int .i64 n, .slice Ao lo co, .slice As ls cs, .slice Ap lp cp]] w (Makes2 w (pduQ ⟨c, a, n, on, set, fl⟩)) := by
  obtain ⟨hmm, hst, ha, hmany, hparts, hend⟩ := chk_zero hk
  simp only at hmm hst ha hmany hparts hend
  subst hc
  have H0 := Lib.hid h
  have hx0 := Bx.new w (.cells #[.int .i64 20, .int .i64 a, .int .i64 n, .slice Ao lo co, .slice As ls cs, .slice Ap lp cp] 26)
  have HC := Lib.hid (refCheck_any ⟨20, a, n, on, set, fl⟩ Ao As Ap lo ls lp co cs cp _ (h.upAlloc (.cells #[.int .i64 20, .int .i64 a, .int .i64 n, .slice Ao lo co, .slice As ls cs, .slice Ap lp cp] 26)))
  rw [chkQ_of h, hk] at HC
  have hl : lp ≤ 35 := by have h1 := H0.out.lp; have h2 : 1 ≤ ((fl.length / 3 : Nat) : Int) ∧ ((fl.length / 3 : Nat) : Int) ≤ 35 := hmany; simp only at h1; omega
  have hok : Hid (allOk fl lp = true) := Lib.hid (by
    have h1 := (hparts rfl).1
    have h2 := H0.out.lp
    simp only at h2
    rwa [show fl.length / 3 = lp by omega] at h1)
  have HL : Hid (pduQ ⟨20, a, n, on, set, fl⟩ = ([20] ++ [7 * (lp : Int)]) ++ pbytes fl lp) := Lib.hid (by
    have h1 := H0.out.lp
    simp only at h1
    have e : ∀ m, fl.length / 3 = m → pduQ ⟨20, a, n, on, set, fl⟩ = 20 :: ((7 * m : Nat) : Int) :: pbytes fl m := fun m hm => by subst hm; rfl
    rw [e lp (by omega), show ((7 * lp : Nat) : Int) = 7 * (lp : Int) by omega]; rfl)
  have e1 : IntKind.u8.wrap (7 * (lp : Int)) = 7 * (lp : Int) := by rw [IntKind.wrap_u8]; omega
  have e2 : IntKind.i64.wrap (7 * (lp : Int)) = 7 * (lp : Int) := IntWalk.i64_in _ (by omega)
  have hwf2 : Hid ((Lit.int .u8 (7 * (lp : Int))).wf = true) := Lib.hid (by have := wf_byte (7 * lp) (by omega); rwa [show ((7 * lp : Nat) : Int) = 7 * (lp : Int) by omega] at this)
  have HS := Lib.hid H0.out.fl
  have HSN := Lib.hid H0.out.lp
  simp only at HS HSN
  rw [HL.out]
  clear h hk hst hmany hparts hend hmm
  go_enter Tryz.func50, Tryz.ntmps50
  go_wp2_with fail
  refine HC.out.mono ?_
  rintro e w1 ⟨rfl, b1⟩
  have h9 := hx0.below b1
  have hz1 := h9.lt
  clear b1 hx0 HC
  obtain ⟨d0, d1, d2, d3, d4, d5⟩ := h9.six
  go_wp2_with (at_builtin; refine wpList_append_row _ rfl (.tmp 22) (.tmp 28) 34 rfl (w.heap.size + 1) .u8 5 1 Tryz.underlying34 info_u8 (.slice (some ⟨w1.heap.size, 0, none⟩) 1 1) [20] rfl ((Own.laid (k := .u8) (l := [20]) (heap_alloc_new w1 _) hz1 rfl (by simp [maxLen])).alloc _) _ _ 1 1 [7 * (lp : Int)] rfl (Row.one_at .u8 _ 5 (7 * (lp : Int)) hwf2.out (by simp)) rfl (by simp) (by simp [maxLen]) (by simp; omega) ?_; intro v2 w2 own2 g2)
  have h10 := ((h9.alloc (.cells #[.int .u8 20] 5)).alloc (.cells #[.int .u8 (7 * (lp : Int))] 5)).grown g2 (by simp [Value.ownBlock]; omega)
  clear d0 d1 d2 d3 d4 d5 h9 g2
  go_loopw [5, 6] (fun v i wr => ∃ k : Nat, k ≤ lp ∧ i = .int .i64 k ∧ Own .u8 5 wr (w.heap.size + 1) v ([20] ++ [7 * (lp : Int)] ++ pbytes fl k) ∧ Bx w w.heap.size (.cells #[.int .i64 20, .int .i64 a, .int .i64 n, .slice Ao lo co, .slice As ls cs, .slice Ap lp cp] 26) wr) (fun _ i _ => lp - (intOf i).toNat)
  case atStart => exact ⟨0, by omega, rfl, by simpa [pbytes] using own2, h10⟩
  case round =>
    clear own2 h10
    obtain ⟨k, hk, rfl, hown, hbx⟩ := hrel
    have hzr := hbx.lt
    by_cases hlt : k < lp
    · obtain ⟨b, o, hAd, hb1, hc1, hc2, hc3⟩ := HS.out.three (k := k) (by have := HSN.out; omega)
      subst hAd
      have hin := (inPl_iff _ _ _).1 (allOk_le hok.out k hlt)
      have HP : Hid (pbytes fl (k + 1) = pbytes fl k ++ (6 :: wbytes [nth fl (3 * k), nth fl (3 * k + 1), nth fl (3 * k + 2)])) := Lib.hid rfl
      have HLn : Hid ((pbytes fl k).length = 7 * k) := Lib.hid (pbytes_length fl k)
      generalize nth fl (3 * k) = x at *
      generalize nth fl (3 * k + 1) = y at *
      generalize nth fl (3 * k + 2) = z at *
      obtain ⟨P, hP⟩ : ∃ P, Hid (pbytes fl k = P) := ⟨_, Lib.hid rfl⟩
      rw [hP.out] at hown HP HLn
      have HX : Hid (pbytes fl (k + 1) = ((P ++ [6]) ++ wbytes [x] ++ wbytes [y]) ++ wbytes [z]) := Lib.hid (by rw [HP.out, wbytes_cons x, wbytes_cons y]; simp)
      have C1 := Lib.hid hc1
      have C2 := Lib.hid hc2
      have C3 := Lib.hid hc3
      have M1 : Hid (([20] ++ [7 * (lp : Int)] ++ P).length ≤ 300) := Lib.hid (by simp [HLn.out]; omega)
      have M2 : Hid (([20] ++ [7 * (lp : Int)] ++ P ++ [6]).length ≤ 301) := Lib.hid (by rw [List.length_append]; have := M1.out; simp at this ⊢; omega)
      have M3 : Hid (([20] ++ [7 * (lp : Int)] ++ P ++ [6] ++ wbytes [x]).length ≤ 303) := Lib.hid (by rw [List.length_append, wbytes_length]; have := M2.out; simp at this ⊢; omega)
      have M4 : Hid (([20] ++ [7 * (lp : Int)] ++ P ++ [6] ++ wbytes [x] ++ wbytes [y]).length ≤ 305) := Lib.hid (by rw [List.length_append, wbytes_length]; have := M3.out; simp at this ⊢; omega)
      have ob := Lib.hid hown.block
      clear hc1 hc2 hc3 HP
      obtain ⟨d0, d1, d2, d3, d4, d5⟩ := hbx.six
      go_wp2_with fail
      clear d0 d1 d2 d3 d4 d5
      go_region_held3 (fun w' => Bx w w.heap.size (.cells #[.int .i64 20, .int .i64 a, .int .i64 n, .slice Ao lo co, .slice As ls cs, .slice (some ⟨b, o, none⟩) lp cp] 26) w' ∧ w'.cell? ⟨b, o + k * 3, none⟩ = some (.int .i64 x) ∧ w'.cell? ⟨b, o + k * 3 + 1, none⟩ = some (.int .i64 y) ∧ w'.cell? ⟨b, o + k * 3 + 2, none⟩ = some (.int .i64 z) ∧ w'.cell? ⟨w.heap.size, 0, none⟩ = some (.int .i64 20) ∧ w'.cell? ⟨w.heap.size, 1, none⟩ = some (.int .i64 a) ∧ w'.cell? ⟨w.heap.size, 2, none⟩ = some (.int .i64 n) ∧ w'.cell? ⟨w.heap.size, 3, none⟩ = some (.slice Ao lo co) ∧ w'.cell? ⟨w.heap.size, 4, none⟩ = some (.slice As ls cs) ∧ w'.cell? ⟨w.heap.size, 5, none⟩ = some (.slice (some ⟨b, o, none⟩) lp cp))
        ((first
          | exact ⟨h15, h15.parts hb1 C1.out C2.out C3.out⟩
          | exact ⟨h14, h14.parts hb1 C1.out C2.out C3.out⟩
          | exact ⟨h13, h13.parts hb1 C1.out C2.out C3.out⟩
          | exact ⟨h12, h12.parts hb1 C1.out C2.out C3.out⟩
          | exact ⟨hbx.drew, hbx.drew.parts hb1 C1.out C2.out C3.out⟩
          | exact ⟨hbx, hbx.parts hb1 C1.out C2.out C3.out⟩
          | exact ⟨(hbx.alloc _).drew, (hbx.alloc _).drew.parts hb1 C1.out C2.out C3.out⟩))
        (first
          | (go_at_call_of 85 (Value.int .i64 x); refine (refTwo_any v4 ([20] ++ [7 * (lp : Int)] ++ P ++ [6]) x (w.heap.size + 1) _ own4 (by omega) (by have := M2.out; omega) (by omega)).mono ?_
             rintro e w5 ⟨v5, rfl, own5, g5, _⟩
             have h13 := h12.grown g5 (fun k e => by have := (own4.block k e).1; omega)
             have hz5 := h13.lt)
          | (go_at_call_of 85 (Value.int .i64 y); refine (refTwo_any v5 ([20] ++ [7 * (lp : Int)] ++ P ++ [6] ++ wbytes [x]) y (w.heap.size + 1) _ own5 (by omega) (by have := M3.out; omega) (by omega)).mono ?_
             rintro e w6 ⟨v6, rfl, own6, g6, _⟩
             have h14 := h13.grown g6 (fun k e => by have := (own5.block k e).1; omega)
             have hz6 := h14.lt)
          | (go_at_call_of 85 (Value.int .i64 z); refine (refTwo_any v6 ([20] ++ [7 * (lp : Int)] ++ P ++ [6] ++ wbytes [x] ++ wbytes [y]) z (w.heap.size + 1) _ own6 (by omega) (by have := M4.out; omega) (by omega)).mono ?_
             rintro e w7 ⟨v7, rfl, own7, g7, _⟩
             have h15 := h14.grown g7 (fun k e => by have := (own6.block k e).1; omega))
          | (refine step_append_row (World.drew (wr.alloc (.cells (blk .u8 [6]) 5))) rfl _ _ 34 rfl (w.heap.size + 1) .u8 5 1 Tryz.underlying34 info_u8 _ ([20] ++ [7 * (lp : Int)] ++ P) rfl (hown.alloc _) (wr.heap.size + 1) (some ⟨wr.heap.size, 0, none⟩) 1 1 [6] rfl (Row.one .u8 wr 5 6 (by decide)) rfl (by have := M1.out; omega) (by have := M1.out; simp only [maxLen]; omega) (by show _ ≤ (wr.alloc _).heap.size; simp; omega) ?_
             intro v4 w4 own4 g4
             have h12 := (hbx.alloc (.cells #[.int .u8 6] 5)).drew.grown g4 (fun k e => by have := (ob.out k e).1; omega)
             have hz4 := h12.lt))
      have own8 : Own .u8 5 w7 (w.heap.size + 1) v7 ([20] ++ [7 * (lp : Int)] ++ pbytes fl (k + 1)) := by
        have e : [20] ++ [7 * (lp : Int)] ++ pbytes fl (k + 1) = [20] ++ [7 * (lp : Int)] ++ P ++ [6] ++ wbytes [x] ++ wbytes [y] ++ wbytes [z] := by rw [HX.out]; simp only [List.append_assoc]
        rw [e]; exact own7
      go_wp2
      go_roundw
      case rel => exact ⟨k + 1, by omega, by go_num, own8, h15⟩
      case measure => simp [intOf]; omega
    · obtain rfl : k = lp := by omega
      obtain ⟨d0, d1, d2, d3, d4, d5⟩ := hbx.six
      go_wp2
      go_ret2
      exact ⟨_, rfl, hown.mono (by omega), hbx.2⟩

theorem refPut_no (q : Req) (Ao As Ap : Option Addr) (lo ls lp co cs cp : Nat) (w : World) (h : Asked w w.heap.size q Ao As Ap lo ls lp) (hk : chkQ q ≠ 0) :
    Calls Tryz.prog 50 #[.agg #[.int .i64 q.c, .int .i64 q.a, .int .i64 q.n, .slice Ao lo co, .slice As ls cs, .slice Ap lp cp]] w (GivesOwn w [] (chkQ q)) := by
  have HC := Lib.hid (refCheck_any q Ao As Ap lo ls lp co cs cp _ (h.upAlloc (.cells #[.int .i64 q.c, .int .i64 q.a, .int .i64 q.n, .slice Ao lo co, .slice As ls cs, .slice Ap lp cp] 26)))
  rw [chkQ_of h] at HC
  generalize chkQ q = r at *
  have b1 : (r != 0) = true := by simpa using hk
  have b2 : (r == 0) = false := beq_false_of_ne hk
  clear h hk
  go_enter Tryz.func50, Tryz.ntmps50
  go_wp2_with fail
  refine HC.out.mono ?_
  rintro e w1 ⟨rfl, bel⟩
  go_wp2
  go_ret2
  exact ⟨_, rfl, Own.nil _ _ _ _, (bel_alloc w _).trans (bel.mono (by simp))⟩
set_option maxRecDepth 100000 in
/-- The document's Put, of any request. -/
theorem refPut_any (q : Req) (Ao As Ap : Option Addr) (lo ls lp co cs cp : Nat) (w : World) (h : Asked w w.heap.size q Ao As Ap lo ls lp) :
    Calls Tryz.prog 50 #[.agg #[.int .i64 q.c, .int .i64 q.a, .int .i64 q.n, .slice Ao lo co, .slice As ls cs, .slice Ap lp cp]] w (GivesOwn w (putL q) (chkQ q)) := by
  by_cases hk : chkQ q = 0
  · rw [hk, putL, if_pos hk]
    obtain ⟨c, a, n, on, set, fl⟩ := q
    have key : Calls Tryz.prog 50 #[.agg #[.int .i64 c, .int .i64 a, .int .i64 n, .slice Ao lo co, .slice As ls cs, .slice Ap lp cp]] w (Makes2 w (pduQ ⟨c, a, n, on, set, fl⟩)) := by
      rcases (show c = 1 ∨ c = 2 ∨ c = 3 ∨ c = 4 ∨ c = 5 ∨ c = 6 ∨ c = 15 ∨ c = 16 ∨ c = 20 from mm_pos (chk_zero hk).1) with hc | hc | hc | hc | hc | hc | hc | hc | hc
      · exact refPut_plain c a n on set fl Ao As Ap lo ls lp co cs cp w h hk (.inl hc)
      · exact refPut_plain c a n on set fl Ao As Ap lo ls lp co cs cp w h hk (.inr (.inl hc))
      · exact refPut_plain c a n on set fl Ao As Ap lo ls lp co cs cp w h hk (.inr (.inr (.inl hc)))
      · exact refPut_plain c a n on set fl Ao As Ap lo ls lp co cs cp w h hk (.inr (.inr (.inr hc)))
      · exact refPut_coil c a n on set fl Ao As Ap lo ls lp co cs cp w h hk hc
      · exact refPut_reg c a n on set fl Ao As Ap lo ls lp co cs cp w h hk hc
      · exact refPut_bits c a n on set fl Ao As Ap lo ls lp co cs cp w h hk hc
      · exact refPut_words c a n on set fl Ao As Ap lo ls lp co cs cp w h hk hc
      · exact refPut_file c a n on set fl Ao As Ap lo ls lp co cs cp w h hk hc
    exact key.mono fun e w' ⟨v, he, ho, hb⟩ => ⟨v, he, ho, hb⟩
  · rw [putL, if_neg hk]
    exact refPut_no q Ao As Ap lo ls lp co cs cp w h hk
/-- Does a request write? -/
def wrB (c : Int) : Bool := decide (c = 5 ∨ c = 6 ∨ c = 15 ∨ c = 16)
theorem Writes_any (c a n : Int) (Ao As Ap : Option Addr) (lo co ls cs lp cp : Nat) (w : World) :
    Calls Tryz.prog 91 #[.agg #[.int .i64 c, .int .i64 a, .int .i64 n, .slice Ao lo co, .slice As ls cs, .slice Ap lp cp]] w fun e w' => e = .returned (.bool (wrB c)) ∧ Below w.heap.size w w' := by
  rcases (show c = 5 ∨ c = 6 ∨ c = 15 ∨ c = 16 ∨ (c ≠ 5 ∧ c ≠ 6 ∧ c ≠ 15 ∧ c ≠ 16) by omega) with rfl | rfl | rfl | rfl | ⟨h1, h2, h3, h4⟩
  iterate 4
    · go_enter Tryz.func91, Tryz.ntmps91
      go_wp2
      go_ret
      exact ⟨rfl, bel_alloc _ _⟩
  have e : Hid (wrB c = false) := Lib.hid (by simp [wrB, *])
  have b1 := beq_false_of_ne h1
  have b2 := beq_false_of_ne h2
  have b3 := beq_false_of_ne h3
  have b4 := beq_false_of_ne h4
  rw [e.out]
  go_enter Tryz.func91, Tryz.ntmps91
  go_wp2
  go_ret
  exact ⟨rfl, bel_alloc _ _⟩
end Go.Proofs.YtobhllcnljggiaaGreat
namespace Go.Proofs.YtobhllcnljggiaaGreat
open Go.RowKit
set_option linter.unusedVariables false
/-- How long a PDU is that begins so, or -1: that can't be told yet. -/
def lenR (ys : List Int) : Int := if (nth ys 0 = 15 ∨ nth ys 0 = 16) ∧ ys.length < 6 then -1 else if nth ys 0 = 20 ∧ ys.length < 2 then -1 else szOf ys
end Go.Proofs.YtobhllcnljggiaaGreat
namespace Go.Proofs.YtobhllcnljggiaaGreat
open Go.RowKit
set_option linter.unusedVariables false

/-- The box of the result and the box of the request under way; what lies below is as it was. -/
structure TB (w0 : World) (B : Nat) (o1 o2 : Obj) (w : World) : Prop where
  ret : w.heap[B]? = some o1
  box : w.heap[B + 1]? = some o2
  bel : Below B w0 w
theorem TB.lt {w0 w : World} {B : Nat} {o1 o2 : Obj} (h : TB w0 B o1 o2 w) : B + 1 < w.heap.size := block_lt h.box
theorem TB.below {w0 w w' : World} {B : Nat} {o1 o2 : Obj} (h : TB w0 B o1 o2 w) (hb : Below w.heap.size w w') : TB w0 B o1 o2 w' := by
  have h1 := h.lt
  exact ⟨(hb.block B (by omega)).trans h.ret, (hb.block (B + 1) (by omega)).trans h.box, h.bel.trans (hb.mono (by omega))⟩
theorem TB.grown {w0 w w' : World} {B : Nat} {o1 o2 : Obj} {row : Option Nat} (h : TB w0 B o1 o2 w) (hg : w.grownBy w' row) (hr : ∀ g, row = some g → B + 2 ≤ g) : TB w0 B o1 o2 w' := by
  have h1 := h.lt
  have hn : ∀ k, k < B + 2 → some k ≠ row := fun k hk e => by have := hr k e.symm; omega
  refine ⟨(hg.block B (by omega) (hn _ (by omega))).trans h.ret, (hg.block (B + 1) (by omega) (hn _ (by omega))).trans h.box, ?_⟩
  exact ⟨hg.os.trans h.bel.os, hg.tape.trans h.bel.tape, hg.output.trans h.bel.output, by have := h.bel.size; have := hg.size; omega, fun k hk => (hg.block k (by omega) (hn _ (by omega))).trans (h.bel.block k hk)⟩
theorem TB.new (w : World) (c1 c2 : Array Value) (t : TypeId) : TB w w.heap.size (.cells c1 t (0, 0)) (.cells c2 t (0, 0)) ((w.alloc (.cells c1 t)).alloc (.cells c2 t)) :=
  ⟨(heap_alloc_old _ _ (by simp)).trans (heap_alloc_new w _), heap_new_at _ _ (by simp), (bel_alloc w _).alloc (by simp) _⟩
theorem TB.set {w0 w : World} {B : Nat} {o1 : Obj} {cs : Array Value} {t : TypeId} (h : TB w0 B o1 (.cells cs t (0, 0)) w) (i : Nat) (v : Value) : TB w0 B o1 (.cells (cs.setIfInBounds i v) t (0, 0)) (w.setCell ⟨B + 1, i, none⟩ v) :=
  ⟨(Below.heap_setCell w ⟨B + 1, i, none⟩ v B (by simp)).trans h.ret, box_set h.box i v, below_setCell h.bel (Nat.le_succ _) i v⟩
theorem L.Own.laid {k : Unit} {t : TypeId} {w : World} {base g : Nat} {l : List Bool} {n : Nat} (hg : w.heap[g]? = some (.cells (L.blk k l) t (0, 0))) (hb : base ≤ g) (hl : l.length = n) (hm : n ≤ maxLen) : L.Own k t w base (.slice (some ⟨g, 0, none⟩) n n) l := by
  subst hl
  exact ⟨by simp, .inr ⟨g, _, _, rfl, hb, hg, Nat.le_refl _, hm, by simp [L.blk], by rw [Nat.mul_one, List.take_of_length_le (by simp [L.blk])]; simp [L.blk]⟩⟩
theorem TB.c6 {w0 w : World} {B : Nat} {o1 : Obj} {t : TypeId} {v0 v1 v2 v3 v4 v5 : Value} (h : TB w0 B o1 (.cells #[v0, v1, v2, v3, v4, v5] t (0, 0)) w) :
    w.cell? ⟨B + 1, 0, none⟩ = some v0 ∧ w.cell? ⟨B + 1, 1, none⟩ = some v1 ∧ w.cell? ⟨B + 1, 2, none⟩ = some v2 ∧ w.cell? ⟨B + 1, 3, none⟩ = some v3 ∧ w.cell? ⟨B + 1, 4, none⟩ = some v4 ∧ w.cell? ⟨B + 1, 5, none⟩ = some v5 ∧ ∀ i, w.frozen? ⟨B + 1, i, none⟩ = false := by
  obtain ⟨⟨a, b, c⟩, ⟨d, e, f⟩, g⟩ := cells6 h.box
  exact ⟨a, b, c, d, e, f, g⟩
theorem TB.r6 {w0 w : World} {B : Nat} {o2 : Obj} {t : TypeId} {v0 v1 v2 v3 v4 v5 : Value} (h : TB w0 B (.cells #[v0, v1, v2, v3, v4, v5] t (0, 0)) o2 w) :
    w.cell? ⟨B, 0, none⟩ = some v0 ∧ w.cell? ⟨B, 1, none⟩ = some v1 ∧ w.cell? ⟨B, 2, none⟩ = some v2 ∧ w.cell? ⟨B, 3, none⟩ = some v3 ∧ w.cell? ⟨B, 4, none⟩ = some v4 ∧ w.cell? ⟨B, 5, none⟩ = some v5 ∧ ∀ i, w.frozen? ⟨B, i, none⟩ = false := by
  obtain ⟨⟨a, b, c⟩, ⟨d, e, f⟩, g⟩ := cells6 h.ret
  exact ⟨a, b, c, d, e, f, g⟩
theorem TB.put {w0 w : World} {B : Nat} {o2 : Obj} {t : TypeId} {u0 u1 u2 u3 u4 u5 : Value} (h : TB w0 B (.cells #[u0, u1, u2, u3, u4, u5] t (0, 0)) o2 w) (v0 v1 v2 v3 v4 v5 : Value) :
    (put6 w B v0 v1 v2 v3 v4 v5).heap[B]? = some (.cells #[v0, v1, v2, v3, v4, v5] t (0, 0)) ∧ Below B w0 (put6 w B v0 v1 v2 v3 v4 v5) :=
  ⟨put6_heap h.ret v0 v1 v2 v3 v4 v5, below_put6 h.bel (Nat.le_refl _) v0 v1 v2 v3 v4 v5⟩

theorem TB.drew {w0 w : World} {B : Nat} {o1 o2 : Obj} (h : TB w0 B o1 o2 w) : TB w0 B o1 o2 w.drew := h.below ⟨rfl, rfl, rfl, Nat.le_refl _, fun _ _ => rfl⟩
theorem TB.alloc {w0 w : World} {B : Nat} {o1 o2 : Obj} (h : TB w0 B o1 o2 w) (o : Obj) : TB w0 B o1 o2 (w.alloc o) := h.below (bel_alloc w o)
theorem TB.all {w0 w : World} {B : Nat} {o1 : Obj} {t : TypeId} {v0 v1 v2 v3 v4 v5 u : Value} {b i : Nat} (h : TB w0 B o1 (.cells #[v0, v1, v2, v3, v4, v5] t (0, 0)) w) (hb : b < B) (hc : w0.cell? ⟨b, i, none⟩ = some u) :
    w.cell? ⟨b, i, none⟩ = some u ∧ w.cell? ⟨B + 1, 0, none⟩ = some v0 ∧ w.cell? ⟨B + 1, 1, none⟩ = some v1 ∧ w.cell? ⟨B + 1, 2, none⟩ = some v2 ∧ w.cell? ⟨B + 1, 3, none⟩ = some v3 ∧ w.cell? ⟨B + 1, 4, none⟩ = some v4 ∧ w.cell? ⟨B + 1, 5, none⟩ = some v5 ∧ ∀ i, w.frozen? ⟨B + 1, i, none⟩ = false :=
  ⟨(h.bel.cell (p := ⟨b, i, none⟩) hb).trans hc, h.c6⟩

theorem TB.set3 {w0 w : World} {B : Nat} {o1 : Obj} {t : TypeId} {v0 v1 v2 v3 v4 v5 : Value} (h : TB w0 B o1 (.cells #[v0, v1, v2, v3, v4, v5] t (0, 0)) w) (u : Value) : TB w0 B o1 (.cells #[v0, v1, v2, u, v4, v5] t (0, 0)) (w.setCell ⟨B + 1, 3, none⟩ u) := h.set 3 u
theorem TB.set4 {w0 w : World} {B : Nat} {o1 : Obj} {t : TypeId} {v0 v1 v2 v3 v4 v5 : Value} (h : TB w0 B o1 (.cells #[v0, v1, v2, v3, v4, v5] t (0, 0)) w) (u : Value) : TB w0 B o1 (.cells #[v0, v1, v2, v3, u, v5] t (0, 0)) (w.setCell ⟨B + 1, 4, none⟩ u) := h.set 4 u
theorem TB.set5 {w0 w : World} {B : Nat} {o1 : Obj} {t : TypeId} {v0 v1 v2 v3 v4 v5 : Value} (h : TB w0 B o1 (.cells #[v0, v1, v2, v3, v4, v5] t (0, 0)) w) (u : Value) : TB w0 B o1 (.cells #[v0, v1, v2, v3, v4, u] t (0, 0)) (w.setCell ⟨B + 1, 5, none⟩ u) := h.set 5 u
theorem TB.st {w0 w : World} {B : Nat} {o1 : Obj} {t : TypeId} {v0 v1 v2 v3 v4 v5 u : Value} {b i : Nat} (h : TB w0 B o1 (.cells #[v0, v1, v2, v3, v4, v5] t (0, 0)) w) (hb : b < B) (hc : w0.cell? ⟨b, i, none⟩ = some u) :
    w.cell? ⟨b, i, none⟩ = some u ∧ ∀ i, w.frozen? ⟨B + 1, i, none⟩ = false :=
  ⟨(h.bel.cell (p := ⟨b, i, none⟩) hb).trans hc, h.c6.2.2.2.2.2.2⟩

/-- Whatever lies at A lies in a block from B on. -/
def Fresh (B : Nat) (A : Option Addr) : Prop := ∀ b o f, A = some ⟨b, o, f⟩ → B ≤ b
theorem Fresh.nil (B : Nat) : Fresh B none := fun _ _ _ h => by cases h
theorem Fresh.at {B g o : Nat} {f : Option Nat} (h : B ≤ g) : Fresh B (some ⟨g, o, f⟩) := fun b o f e => by injection e with e; injection e with e1; omega
theorem Fresh.own {k : IntKind} {e : TypeId} {w : World} {base n c B : Nat} {A : Option Addr} {xs : List Int} (h : Own k e w base (.slice A n c) xs) (hB : B ≤ base) : Fresh B A := by
  rcases h.2 with ⟨h, _⟩ | ⟨g, cap, cur, h, hb, _⟩
  · injection h with h; subst h; exact Fresh.nil _
  · injection h with h; subst h; exact Fresh.at (Nat.le_trans hB hb)
theorem Fresh.ownL {k : Unit} {e : TypeId} {w : World} {base n c B : Nat} {A : Option Addr} {xs : List Bool} (h : L.Own k e w base (.slice A n c) xs) (hB : B ≤ base) : Fresh B A := by
  rcases h.2 with ⟨h, _⟩ | ⟨g, cap, cur, h, hb, _⟩
  · injection h with h; subst h; exact Fresh.nil _
  · injection h with h; subst h; exact Fresh.at (Nat.le_trans hB hb)
theorem Fresh.ownP {e : TypeId} {w : World} {base n c B : Nat} {A : Option Addr} {fl : List Int} (h : POwn e w base (.slice A n c) fl) (hB : B ≤ base) : Fresh B A := by
  rcases h with ⟨h, _⟩ | ⟨g, n, cap, r, h, hb, _⟩
  · injection h with h; subst h; exact Fresh.nil _
  · injection h with h; subst h; exact Fresh.at (Nat.le_trans hB hb)

/-- What said tells: the request that the bytes say, or that they say none. -/
def RSaid (w : World) (ys : List Int) (e : Ending) (w' : World) : Prop :=
  ∃ (q : Req) (A1 A2 A3 : Option Addr) (m1 m2 m3 c1 c2 c3 : Nat) (ok : Bool), e = .returned (.tuple #[.agg #[.int .i64 q.c, .int .i64 q.a, .int .i64 q.n, .slice A1 m1 c1, .slice A2 m2 c2, .slice A3 m3 c3], .bool ok]) ∧
    Asked w' w'.heap.size q A1 A2 A3 m1 m2 m3 ∧ Below w.heap.size w w' ∧ (Fresh w.heap.size A1 ∧ Fresh w.heap.size A2 ∧ Fresh w.heap.size A3) ∧ (ok = true ∧ rdOk ys = true ∧ q = rdQ ys ∨ ok = false ∧ rdOk ys = false)
theorem Row.tb {k : IntKind} {w0 w : World} {B : Nat} {o1 o2 : Obj} {A : Option Addr} {xs : List Int} (h : Row k w0 B A xs) (ht : TB w0 B o1 o2 w) : Row k w B A xs := h.below ht.bel

end Go.Proofs.YtobhllcnljggiaaGreat
namespace Go.Proofs.YtobhllcnljggiaaGreat
open Go.RowKit
set_option linter.unusedVariables false

/-- An answer: its number, its bits, its words, and its files. -/
structure Rep where
  x : Int
  on : List Bool
  set : List Int
  fs : List (List Int)
def Rep.zero : Rep := ⟨0, [], [], []⟩
def nthF (fs : List (List Int)) (i : Nat) : List Int := fs.getD i []
/-- A list of lists of words: each in a slice of its own. -/
def FRow (w : World) (B : Nat) (A : Option Addr) (fs : List (List Int)) : Prop :=
  0 < fs.length → ∃ b o, A = some ⟨b, o, none⟩ ∧ b < B ∧ ∀ i, i < fs.length → ∃ Ai ci, w.cell? ⟨b, o + i, none⟩ = some (.slice Ai (nthF fs i).length ci) ∧ Row .u16 w B Ai (nthF fs i) ∧ (nthF fs i).length ≤ ci
theorem FRow.nil (w : World) (B : Nat) (A : Option Addr) : FRow w B A [] := fun h => absurd h (by simp)
theorem FRow.below {w w' : World} {B : Nat} {A : Option Addr} {fs : List (List Int)} (h : FRow w B A fs) (hb : Below B w w') : FRow w' B A fs := fun h0 => by
  obtain ⟨b, o, hA, hB, hc⟩ := h h0
  refine ⟨b, o, hA, hB, fun i hi => ?_⟩
  obtain ⟨Ai, ci, h1, h2, h3⟩ := hc i hi
  exact ⟨Ai, ci, (hb.cell (p := ⟨b, o + i, none⟩) hB).trans h1, h2.below hb, h3⟩
theorem FRow.more {w : World} {B B' : Nat} {A : Option Addr} {fs : List (List Int)} (h : FRow w B A fs) (hB : B ≤ B') : FRow w B' A fs := fun h0 => by
  obtain ⟨b, o, hA, hb, hc⟩ := h h0
  refine ⟨b, o, hA, by omega, fun i hi => ?_⟩
  obtain ⟨Ai, ci, h1, h2, h3⟩ := hc i hi
  exact ⟨Ai, ci, h1, h2.more hB, h3⟩
/-- The three lists of an answer, where they lie and how long they are. -/
structure Repd (w : World) (B : Nat) (r : Rep) (Bo Bs Bf : Option Addr) (mo ms mf : Nat) : Prop where
  on : L.Row () w B Bo r.on
  set : Row .u16 w B Bs r.set
  fs : FRow w B Bf r.fs
  mo : r.on.length = mo
  ms : r.set.length = ms
  mf : r.fs.length = mf
theorem Repd.below {w w' : World} {B : Nat} {r : Rep} {Bo Bs Bf : Option Addr} {mo ms mf : Nat} (h : Repd w B r Bo Bs Bf mo ms mf) (hb : Below B w w') : Repd w' B r Bo Bs Bf mo ms mf :=
  ⟨h.on.below hb, h.set.below hb, h.fs.below hb, h.mo, h.ms, h.mf⟩
theorem Repd.more {w : World} {B B' : Nat} {r : Rep} {Bo Bs Bf : Option Addr} {mo ms mf : Nat} (h : Repd w B r Bo Bs Bf mo ms mf) (hB : B ≤ B') : Repd w B' r Bo Bs Bf mo ms mf :=
  ⟨h.on.more hB, h.set.more hB, h.fs.more hB, h.mo, h.ms, h.mf⟩
theorem Repd.up {w w' : World} {r : Rep} {Bo Bs Bf : Option Addr} {mo ms mf : Nat} (h : Repd w w.heap.size r Bo Bs Bf mo ms mf) (hb : Below w.heap.size w w') : Repd w' w'.heap.size r Bo Bs Bf mo ms mf :=
  (h.below hb).more hb.size
theorem Repd.zero (w : World) (B : Nat) (x : Int) : Repd w B ⟨x, [], [], []⟩ none none none 0 0 0 := ⟨L.Row.nil _ _ _ _, Row.nil _ _ _ _, FRow.nil _ _ _, rfl, rfl, rfl⟩

theorem TB.c4 {w0 w : World} {B : Nat} {o1 : Obj} {t : TypeId} {v0 v1 v2 v3 : Value} (h : TB w0 B o1 (.cells #[v0, v1, v2, v3] t (0, 0)) w) :
    w.cell? ⟨B + 1, 0, none⟩ = some v0 ∧ w.cell? ⟨B + 1, 1, none⟩ = some v1 ∧ w.cell? ⟨B + 1, 2, none⟩ = some v2 ∧ w.cell? ⟨B + 1, 3, none⟩ = some v3 ∧ ∀ i, w.frozen? ⟨B + 1, i, none⟩ = false :=
  ⟨cell_of_row w _ 0 _ _ _ h.box, cell_of_row w _ 1 _ _ _ h.box, cell_of_row w _ 2 _ _ _ h.box, cell_of_row w _ 3 _ _ _ h.box, fun i => block_frozen w _ i _ _ h.box⟩

theorem isExc_any (n : Int) (w : World) : Calls Tryz.prog 69 #[.int .i64 n] w fun e w' => e = .returned (.bool (decide (1 ≤ n ∧ n ≤ 127))) ∧ w' = w := by
  go_enter Tryz.func69, Tryz.ntmps69
  go_wp2
  all_goals (go_ret; refine ⟨?_, rfl⟩; first | rfl | (simp [*]; done) | (simp [*]; omega))

def anyB (mo ms mf : Nat) : Bool := decide (0 < mo) || decide (0 < ms) || decide (0 < mf)
theorem hasList_any (x : Int) (Bo Bs Bf : Option Addr) (mo ms mf eo es ef : Nat) (w : World) :
    Calls Tryz.prog 72 #[.agg #[.int .i64 x, .slice Bo mo eo, .slice Bs ms es, .slice Bf mf ef]] w fun e w' => e = .returned (.bool (anyB mo ms mf)) ∧ Below w.heap.size w w' := by
  have h : anyB mo ms mf = (decide (0 < (mo : Int)) || decide (0 < (ms : Int)) || decide (0 < (mf : Int))) := by simp [anyB]
  rw [h]
  clear h
  go_enter Tryz.func72, Tryz.ntmps72
  go_wp2
  all_goals (go_ret; refine ⟨?_, bel_alloc _ _⟩; first | rfl | (simp [*]; done) | (simp [*]; omega))

/-- Something stands in a list that an answer to the code does not have. -/
def strayB (c : Int) (mo ms mf : Nat) : Bool := anyB (if c = 1 ∨ c = 2 then 0 else mo) (if c = 3 ∨ c = 4 then 0 else ms) (if c = 20 then 0 else mf)
theorem rpStray_bits (c x : Int) (Bo Bs Bf : Option Addr) (mo ms mf eo es ef : Nat) (w : World) (hc : c = 1 ∨ c = 2) :
    Calls Tryz.prog 36 #[.int .i64 c, .agg #[.int .i64 x, .slice Bo mo eo, .slice Bs ms es, .slice Bf mf ef]] w fun e w' => e = .returned (.bool (strayB c mo ms mf)) ∧ Below w.heap.size w w' := by
  have HS : Hid (strayB c mo ms mf = anyB 0 ms mf) := Lib.hid (by rw [strayB, if_pos hc, if_neg (by omega), if_neg (by omega)])
  rw [HS.out]
  rcases hc with rfl | rfl
  all_goals
    go_enter Tryz.func36, Tryz.ntmps36
    go_wp2_with fail
    refine (hasList_any x none Bs Bf 0 ms mf 0 es ef _).mono ?_
    rintro e w1 ⟨rfl, b1⟩
    go_wp2
    go_ret
    exact ⟨rfl, (bel_alloc w _).trans (b1.mono (by simp))⟩
theorem rpStray_words (c x : Int) (Bo Bs Bf : Option Addr) (mo ms mf eo es ef : Nat) (w : World) (hc : c = 3 ∨ c = 4) :
    Calls Tryz.prog 36 #[.int .i64 c, .agg #[.int .i64 x, .slice Bo mo eo, .slice Bs ms es, .slice Bf mf ef]] w fun e w' => e = .returned (.bool (strayB c mo ms mf)) ∧ Below w.heap.size w w' := by
  have HS : Hid (strayB c mo ms mf = anyB mo 0 mf) := Lib.hid (by rw [strayB, if_neg (by omega), if_pos hc, if_neg (by omega)])
  rw [HS.out]
  rcases hc with rfl | rfl
  all_goals
    go_enter Tryz.func36, Tryz.ntmps36
    go_wp2_with fail
    refine (hasList_any x Bo none Bf mo 0 mf eo 0 ef _).mono ?_
    rintro e w1 ⟨rfl, b1⟩
    go_wp2
    go_ret
    exact ⟨rfl, (bel_alloc w _).trans (b1.mono (by simp))⟩
theorem rpStray_file (x : Int) (Bo Bs Bf : Option Addr) (mo ms mf eo es ef : Nat) (w : World) :
    Calls Tryz.prog 36 #[.int .i64 20, .agg #[.int .i64 x, .slice Bo mo eo, .slice Bs ms es, .slice Bf mf ef]] w fun e w' => e = .returned (.bool (strayB 20 mo ms mf)) ∧ Below w.heap.size w w' := by
  have HS : Hid (strayB 20 mo ms mf = anyB mo ms 0) := Lib.hid (by rw [strayB, if_neg (by omega), if_neg (by omega), if_pos rfl])
  rw [HS.out]
  go_enter Tryz.func36, Tryz.ntmps36
  go_wp2_with fail
  refine (hasList_any x Bo Bs none mo ms 0 eo es 0 _).mono ?_
  rintro e w1 ⟨rfl, b1⟩
  go_wp2
  go_ret
  exact ⟨rfl, (bel_alloc w _).trans (b1.mono (by simp))⟩
theorem rpStray_else (c x : Int) (Bo Bs Bf : Option Addr) (mo ms mf eo es ef : Nat) (w : World) (h1 : ¬ (c = 1 ∨ c = 2)) (h2 : ¬ (c = 3 ∨ c = 4)) (h3 : c ≠ 20) :
    Calls Tryz.prog 36 #[.int .i64 c, .agg #[.int .i64 x, .slice Bo mo eo, .slice Bs ms es, .slice Bf mf ef]] w fun e w' => e = .returned (.bool (strayB c mo ms mf)) ∧ Below w.heap.size w w' := by
  have HS : Hid (strayB c mo ms mf = anyB mo ms mf) := Lib.hid (by rw [strayB, if_neg h1, if_neg h2, if_neg h3])
  rw [HS.out]
  have b1 : (c == 1) = false := beq_false_of_ne (by omega)
  have b2 : (c == 2) = false := beq_false_of_ne (by omega)
  have b3 : (c == 3) = false := beq_false_of_ne (by omega)
  have b4 : (c == 4) = false := beq_false_of_ne (by omega)
  have b5 : (c == 20) = false := beq_false_of_ne h3
  clear h1 h2 h3
  go_enter Tryz.func36, Tryz.ntmps36
  go_wp2_with fail
  refine (hasList_any x Bo Bs Bf mo ms mf eo es ef _).mono ?_
  rintro e w1 ⟨rfl, b1⟩
  go_wp2
  go_ret
  exact ⟨rfl, (bel_alloc w _).trans (b1.mono (by simp))⟩
theorem rpStray_any (c x : Int) (Bo Bs Bf : Option Addr) (mo ms mf eo es ef : Nat) (w : World) :
    Calls Tryz.prog 36 #[.int .i64 c, .agg #[.int .i64 x, .slice Bo mo eo, .slice Bs ms es, .slice Bf mf ef]] w fun e w' => e = .returned (.bool (strayB c mo ms mf)) ∧ Below w.heap.size w w' := by
  by_cases h1 : c = 1 ∨ c = 2
  · exact rpStray_bits c x Bo Bs Bf mo ms mf eo es ef w h1
  · by_cases h2 : c = 3 ∨ c = 4
    · exact rpStray_words c x Bo Bs Bf mo ms mf eo es ef w h2
    · by_cases h3 : c = 20
      · subst h3; exact rpStray_file x Bo Bs Bf mo ms mf eo es ef w
      · exact rpStray_else c x Bo Bs Bf mo ms mf eo es ef w h1 h2 h3

theorem checkExc_any (x : Int) (Bo Bs Bf : Option Addr) (mo ms mf eo es ef : Nat) (w : World) :
    Calls Tryz.prog 35 #[.agg #[.int .i64 x, .slice Bo mo eo, .slice Bs ms es, .slice Bf mf ef]] w fun e w' => e = .returned (.int .i64 (if 1 ≤ x ∧ x ≤ 127 then (if anyB mo ms mf = true then 23 else 0) else 3)) ∧ Below w.heap.size w w' := by
  obtain ⟨u, hu⟩ : ∃ u, Hid (decide (1 ≤ x ∧ x ≤ 127) = u) := ⟨_, Lib.hid rfl⟩
  obtain ⟨v, hv⟩ : ∃ v, Hid (anyB mo ms mf = v) := ⟨_, Lib.hid rfl⟩
  obtain ⟨E, hE⟩ : ∃ E : Int, Hid ((if 1 ≤ x ∧ x ≤ 127 then (if anyB mo ms mf = true then 23 else 0) else 3) = E) := ⟨_, Lib.hid rfl⟩
  rw [hE.out]
  have bx := bel_alloc w (.cells #[.int .i64 x, .slice Bo mo eo, .slice Bs ms es, .slice Bf mf ef] 29)
  cases u with
  | false =>
    have h1 : Hid (E = 3) := Lib.hid (by rw [← hE.out, if_neg (of_decide_eq_false hu.out)])
    go_enter Tryz.func35, Tryz.ntmps35
    go_wp2_with fail
    refine (isExc_any x _).mono ?_
    rintro e w1 ⟨rfl, rfl⟩
    rw [hu.out]
    go_wp2
    go_ret
    exact ⟨by rw [h1.out]; rfl, bx⟩
  | true =>
    have h1 : Hid (E = if v = true then 23 else 0) := Lib.hid (by rw [← hE.out, if_pos (of_decide_eq_true hu.out), hv.out])
    cases v with
    | true =>
      go_enter Tryz.func35, Tryz.ntmps35
      go_wp2_with fail
      refine (isExc_any x _).mono ?_
      rintro e w1 ⟨rfl, rfl⟩
      rw [hu.out]
      go_wp2_with fail
      refine (hasList_any x Bo Bs Bf mo ms mf eo es ef _).mono ?_
      rintro e w1 ⟨rfl, b1⟩
      rw [hv.out]
      go_wp2
      go_ret
      exact ⟨by rw [h1.out]; rfl, bx.trans (b1.mono (by simp))⟩
    | false =>
      go_enter Tryz.func35, Tryz.ntmps35
      go_wp2_with fail
      refine (isExc_any x _).mono ?_
      rintro e w1 ⟨rfl, rfl⟩
      rw [hu.out]
      go_wp2_with fail
      refine (hasList_any x Bo Bs Bf mo ms mf eo es ef _).mono ?_
      rintro e w1 ⟨rfl, b1⟩
      rw [hv.out]
      go_wp2
      go_ret
      exact ⟨by rw [h1.out]; rfl, bx.trans (b1.mono (by simp))⟩
end Go.Proofs.YtobhllcnljggiaaGreat
namespace Go.Proofs.YtobhllcnljggiaaGreat
open Go.RowKit
set_option linter.unusedVariables false

/-- Is there a list for each part, of as many words? -/
def fitsB (fl : List Int) (fs : List (List Int)) : Bool := decide (fl.length = 3 * fs.length) && (List.range fs.length).all fun i => decide (((nthF fs i).length : Int) = nth fl (3 * i + 2))
theorem fitsB_len {fl : List Int} {fs : List (List Int)} (h : fl.length ≠ 3 * fs.length) : fitsB fl fs = false := by rw [fitsB, decide_eq_false h, Bool.false_and]
theorem fitsB_no {fl : List Int} {fs : List (List Int)} {i : Nat} (hi : i < fs.length) (h : ((nthF fs i).length : Int) ≠ nth fl (3 * i + 2)) : fitsB fl fs = false := by
  rw [fitsB, Bool.and_eq_false_iff]
  right
  rw [List.all_eq_false]
  exact ⟨i, List.mem_range.2 hi, by rw [decide_eq_false h]; simp⟩
theorem fitsB_yes {fl : List Int} {fs : List (List Int)} (hl : fl.length = 3 * fs.length) (h : ∀ i, i < fs.length → ((nthF fs i).length : Int) = nth fl (3 * i + 2)) : fitsB fl fs = true := by
  rw [fitsB, Bool.and_eq_true, decide_eq_true_eq, List.all_eq_true]
  exact ⟨hl, fun i hi => decide_eq_true (h i (List.mem_range.1 hi))⟩

set_option maxHeartbeats 1000000 in
theorem fitParts_any (Ap Bf : Option Addr) (lp cp mf ef : Nat) (fl : List Int) (fs : List (List Int)) (w : World) (hp : Row .i64 w w.heap.size Ap fl) (hl : fl.length = 3 * lp) (hf : FRow w w.heap.size Bf fs) (hm : fs.length = mf) (hb : lp ≤ 100000) :
    Calls Tryz.prog 73 #[.slice Ap lp cp, .slice Bf mf ef] w fun e w' => e = .returned (.bool (fitsB fl fs)) ∧ Below w.heap.size w w' := by
  obtain ⟨u, hu⟩ : ∃ u, Hid (fitsB fl fs = u) := ⟨_, Lib.hid rfl⟩
  rw [hu.out]
  have HL := Lib.hid hl
  have HM := Lib.hid hm
  have HP := Lib.hid hp
  have HF := Lib.hid hf
  clear hl hm hp hf
  by_cases hne : mf = lp
  · subst hne
    have t0 : ((mf : Int) != (mf : Int)) = false := by simp
    go_enter Tryz.func73, Tryz.ntmps73
    go_wp2
    go_loopw [5, 6, 14] (fun _ _ i wr => ∃ k : Nat, k ≤ mf ∧ i = .int .i64 k ∧ Hid (∀ j, j < k → ((nthF fs j).length : Int) = nth fl (3 * j + 2)) ∧ Below w.heap.size w wr) (fun _ _ i _ => mf - (intOf i).toNat)
    case atStart => exact ⟨0, by omega, rfl, Lib.hid (fun j h => by omega), Below.refl _ _⟩
    case round =>
      obtain ⟨k, hk, rfl, hs, bel⟩ := hrel
      by_cases hlt : k < mf
      · obtain ⟨b, o, rfl, hb1, hc1, hc2, hc3⟩ := (HP.out.below bel).three (k := k) (by have := HL.out; omega)
        obtain ⟨b2, o2, rfl, hb2, hcf⟩ := HF.out (by have := HM.out; omega)
        obtain ⟨Ai, ci, hci, _, _⟩ := hcf k (by have := HM.out; omega)
        have hci2 := (bel.cell (p := ⟨b2, o2 + k, none⟩) hb2).trans hci
        obtain ⟨p, hpp⟩ : ∃ p, Hid (nth fl (3 * k + 2) = p) := ⟨_, Lib.hid rfl⟩
        obtain ⟨q, hqq⟩ : ∃ q, Hid ((nthF fs k).length = q) := ⟨_, Lib.hid rfl⟩
        rw [hpp.out] at hc3
        rw [hqq.out] at hci2
        generalize nth fl (3 * k) = y0 at *
        generalize nth fl (3 * k + 1) = y1 at *
        clear hci hcf
        have hbelB : Below w.heap.size w (wr.alloc (.cells #[.int .i64 y0, .int .i64 y1, .int .i64 p] 47)) := bel.alloc bel.size _
        have hci3 : (wr.alloc (.cells #[.int .i64 y0, .int .i64 y1, .int .i64 p] 47)).cell? ⟨b2, o2 + k, none⟩ = some (.slice Ai q ci) := by
          have h1 := bel.size
          exact (World.cell?_alloc_some wr ⟨b2, o2 + k, none⟩ _ (by rw [hci2]; rfl)).trans hci2
        by_cases he : (q : Int) = p
        · have u1 : ((q : Int) != p) = false := by simp [he]
          have u2 : ((q : Int) == p) = true := by simp [he]
          have HE := Lib.hid he
          clear he
          go_wp2_with fail
          go_quiet (fail)
          have hb3 := below_drewN hbelB nq
          go_wp2
          go_roundw
          case rel => exact ⟨k + 1, by omega, by go_num, Lib.hid (fun j hj => by
            rcases Nat.lt_succ_iff_lt_or_eq.1 hj with h | h
            · exact hs.out j h
            · subst h; rw [hqq.out, hpp.out]; exact HE.out), hb3⟩
          case measure => simp [intOf]; omega
        · have u1 : ((q : Int) != p) = true := by simpa using he
          have u2 : ((q : Int) == p) = false := beq_false_of_ne he
          have HU : Hid (u = false) := Lib.hid (by rw [← hu.out]; exact fitsB_no (i := k) (by rw [HM.out]; exact hlt) (by rw [hqq.out, hpp.out]; exact he))
          clear he
          go_wp2_with fail
          go_quiet (fail)
          have hb3 := below_drewN hbelB nq
          go_wp2
          go_ret
          exact ⟨by rw [HU.out]; rfl, hb3⟩
      · obtain rfl : k = mf := by omega
        have HU : Hid (u = true) := Lib.hid (by rw [← hu.out]; exact fitsB_yes (by rw [HL.out, HM.out]) (fun i hi => hs.out i (by rw [← HM.out]; exact hi)))
        go_wp2
        go_ret
        exact ⟨by rw [HU.out]; rfl, bel⟩
  · have HU : Hid (u = false) := Lib.hid (by rw [← hu.out]; exact fitsB_len (by rw [HL.out, HM.out]; omega))
    have t0 : ((mf : Int) != (lp : Int)) = true := by simp; omega
    have t1 : ((mf : Int) == (lp : Int)) = false := beq_false_of_ne (by omega)
    clear hne
    go_enter Tryz.func73, Tryz.ntmps73
    go_wp2
    go_ret
    exact ⟨by rw [HU.out]; rfl, Below.refl _ _⟩

/-- Does the list that an answer has hold what was asked for? -/
def manyB (q : Req) (r : Rep) : Bool :=
  if q.c = 1 ∨ q.c = 2 then decide ((r.on.length : Int) = q.n) else if q.c = 3 ∨ q.c = 4 then decide ((r.set.length : Int) = q.n) else if q.c = 20 then fitsB q.fl r.fs else true

theorem TB.new2 (w : World) (c1 c2 : Array Value) (t u : TypeId) : TB w w.heap.size (.cells c1 t (0, 0)) (.cells c2 u (0, 0)) ((w.alloc (.cells c1 t)).alloc (.cells c2 u)) :=
  ⟨(heap_alloc_old _ _ (by simp)).trans (heap_alloc_new w _), heap_new_at _ _ (by simp), (bel_alloc w _).alloc (by simp) _⟩
set_option maxHeartbeats 1000000 in
theorem hasAsMany_any (q : Req) (r : Rep) (Ao As Ap Bo Bs Bf : Option Addr) (lo ls lp co cs cp mo ms mf eo es ef : Nat) (w : World) (h : Asked w w.heap.size q Ao As Ap lo ls lp) (hr : Repd w w.heap.size r Bo Bs Bf mo ms mf) (hb : lp ≤ 100000) :
    Calls Tryz.prog 37 #[.agg #[.int .i64 q.c, .int .i64 q.a, .int .i64 q.n, .slice Ao lo co, .slice As ls cs, .slice Ap lp cp], .agg #[.int .i64 r.x, .slice Bo mo eo, .slice Bs ms es, .slice Bf mf ef]] w fun e w' => e = .returned (.bool (manyB q r)) ∧ Below w.heap.size w w' := by
  have t0 := TB.new2 w #[.int .i64 q.c, .int .i64 q.a, .int .i64 q.n, .slice Ao lo co, .slice As ls cs, .slice Ap lp cp] #[.int .i64 r.x, .slice Bo mo eo, .slice Bs ms es, .slice Bf mf ef] 26 29
  have H := Lib.hid (h.below t0.bel)
  have HR := Lib.hid (hr.below t0.bel)
  have bel0 := t0.bel
  have hsz : w.heap.size ≤ ((w.alloc (.cells #[.int .i64 q.c, .int .i64 q.a, .int .i64 q.n, .slice Ao lo co, .slice As ls cs, .slice Ap lp cp] 26)).alloc (.cells #[.int .i64 r.x, .slice Bo mo eo, .slice Bs ms es, .slice Bf mf ef] 29)).heap.size := bel0.size
  have HMO := Lib.hid hr.mo
  have HMS := Lib.hid hr.ms
  obtain ⟨u, hu⟩ : ∃ u, Hid (manyB q r = u) := ⟨_, Lib.hid rfl⟩
  rw [hu.out]
  obtain ⟨c, a, n, on, set, fl⟩ := q
  obtain ⟨x, ron, rset, fs⟩ := r
  simp only at *
  clear h hr t0
  by_cases h1 : c = 1 ∨ c = 2
  · have HU : Hid (decide ((mo : Int) = n) = u) := Lib.hid (by rw [← hu.out]; unfold manyB; rw [if_pos h1, HMO.out])
    have e1 : ((mo : Int) == n) = u := by rw [← HU.out]; by_cases h : (mo : Int) = n <;> simp [h]
    rcases h1 with rfl | rfl
    all_goals
      go_enter Tryz.func37, Tryz.ntmps37
      go_wp2
      go_ret
      exact ⟨rfl, bel0⟩
  · by_cases h2 : c = 3 ∨ c = 4
    · have HU : Hid (decide ((ms : Int) = n) = u) := Lib.hid (by rw [← hu.out]; unfold manyB; rw [if_neg h1, if_pos h2, HMS.out])
      have e1 : ((ms : Int) == n) = u := by rw [← HU.out]; by_cases h : (ms : Int) = n <;> simp [h]
      clear h1
      rcases h2 with rfl | rfl
      all_goals
        go_enter Tryz.func37, Tryz.ntmps37
        go_wp2
        go_ret
        exact ⟨rfl, bel0⟩
    · by_cases h3 : c = 20
      · have HU : Hid (fitsB fl fs = u) := Lib.hid (by rw [← hu.out]; unfold manyB; rw [if_neg h1, if_neg h2, if_pos h3])
        subst h3
        clear h1 h2
        go_enter Tryz.func37, Tryz.ntmps37
        go_wp2_with fail
        refine (fitParts_any Ap Bf lp cp mf ef fl fs _ (H.out.fl.more hsz) H.out.lp (HR.out.fs.more hsz) HR.out.mf hb).mono ?_
        rintro e w1 ⟨rfl, b1⟩
        rw [HU.out]
        go_wp2
        go_ret
        exact ⟨rfl, bel0.trans (b1.mono hsz)⟩
      · have HU : Hid (u = true) := Lib.hid (by rw [← hu.out]; unfold manyB; rw [if_neg h1, if_neg h2, if_neg h3])
        have b1 : (c == 1) = false := beq_false_of_ne (by omega)
        have b2 : (c == 2) = false := beq_false_of_ne (by omega)
        have b3 : (c == 3) = false := beq_false_of_ne (by omega)
        have b4 : (c == 4) = false := beq_false_of_ne (by omega)
        have b5 : (c == 20) = false := beq_false_of_ne h3
        clear h1 h2 h3
        go_enter Tryz.func37, Tryz.ntmps37
        go_wp2
        go_ret
        exact ⟨by rw [HU.out]; rfl, bel0⟩

/-- What is wrong with an answer to a request. -/
def chkR (q : Req) (r : Rep) : Int :=
  if chkQ q ≠ 0 then chkQ q else if r.x ≠ 0 then (if 1 ≤ r.x ∧ r.x ≤ 127 then (if anyB r.on.length r.set.length r.fs.length = true then 23 else 0) else 3)
  else if strayB q.c r.on.length r.set.length r.fs.length = true then 23 else if manyB q r = false then 22 else 0

set_option maxHeartbeats 1000000 in
theorem rpCheck_any (q : Req) (r : Rep) (Ao As Ap Bo Bs Bf : Option Addr) (lo ls lp co cs cp mo ms mf eo es ef : Nat) (w : World) (h : Asked w w.heap.size q Ao As Ap lo ls lp) (hr : Repd w w.heap.size r Bo Bs Bf mo ms mf) (hb : lp ≤ 100000) :
    Calls Tryz.prog 15 #[.agg #[.int .i64 q.c, .int .i64 q.a, .int .i64 q.n, .slice Ao lo co, .slice As ls cs, .slice Ap lp cp], .agg #[.int .i64 r.x, .slice Bo mo eo, .slice Bs ms es, .slice Bf mf ef]] w fun e w' => e = .returned (.int .i64 (chkR q r)) ∧ Below w.heap.size w w' := by
  have t0 := TB.new2 w #[.int .i64 q.c, .int .i64 q.a, .int .i64 q.n, .slice Ao lo co, .slice As ls cs, .slice Ap lp cp] #[.int .i64 r.x, .slice Bo mo eo, .slice Bs ms es, .slice Bf mf ef] 26 29
  have hsz : w.heap.size ≤ ((w.alloc (.cells #[.int .i64 q.c, .int .i64 q.a, .int .i64 q.n, .slice Ao lo co, .slice As ls cs, .slice Ap lp cp] 26)).alloc (.cells #[.int .i64 r.x, .slice Bo mo eo, .slice Bs ms es, .slice Bf mf ef] 29)).heap.size := t0.bel.size
  have H := Lib.hid ((h.below t0.bel).more hsz)
  have HR := Lib.hid ((hr.below t0.bel).more hsz)
  obtain ⟨E, hE⟩ : ∃ E, Hid (chkR q r = E) := ⟨_, Lib.hid rfl⟩
  rw [hE.out]
  obtain ⟨k, hk⟩ : ∃ k, Hid (chkQ q = k) := ⟨_, Lib.hid rfl⟩
  have HC := Lib.hid (Check_Q q Ao As Ap lo ls lp co cs cp _ H.out)
  rw [hk.out] at HC
  clear h hr
  by_cases hk0 : k = 0
  · have HK0 := Lib.hid hk0
    subst hk0
    by_cases hx : r.x = 0
    · have u1 : (r.x != 0) = false := by simp [hx]
      have u2 : (r.x == 0) = true := by simp [hx]
      have HX := Lib.hid hx
      obtain ⟨s, hs⟩ : ∃ s, Hid (strayB q.c mo ms mf = s) := ⟨_, Lib.hid rfl⟩
      obtain ⟨m, hm⟩ : ∃ m, Hid (manyB q r = m) := ⟨_, Lib.hid rfl⟩
      have HE : Hid (E = if s = true then 23 else if m = false then 22 else 0) := Lib.hid (by
        rw [← hE.out]; unfold chkR; rw [if_neg (show ¬ chkQ q ≠ 0 by rw [hk.out]; simp), if_neg (show ¬ r.x ≠ 0 by simp [hx]), HR.out.mo, HR.out.ms, HR.out.mf, hs.out, hm.out])
      clear hx
      go_enter Tryz.func15, Tryz.ntmps15
      go_wp2_with fail
      refine HC.out.mono ?_
      rintro e w1 ⟨rfl, b1⟩
      have t1 := t0.below b1
      have H1 := Lib.hid (H.out.up b1)
      have HR1 := Lib.hid (HR.out.up b1)
      clear t0 b1
      obtain ⟨d0, d1, d2, d3, d4⟩ := t1.c4
      obtain ⟨r0, r1, r2, r3, r4, r5, r6⟩ := t1.r6
      go_wp2_with fail
      clear d0 d1 d2 d3 d4 r0 r1 r2 r3 r4 r5 r6
      refine (rpStray_any q.c r.x Bo Bs Bf mo ms mf eo es ef _).mono ?_
      rintro e w2 ⟨rfl, b2⟩
      rw [hs.out]
      have t2 := t1.below b2
      have H2 := Lib.hid (H1.out.up b2)
      have HR2 := Lib.hid (HR1.out.up b2)
      clear t1 b2
      obtain ⟨d0, d1, d2, d3, d4⟩ := t2.c4
      obtain ⟨r0, r1, r2, r3, r4, r5, r6⟩ := t2.r6
      cases s with
      | true =>
        go_wp2
        go_ret
        exact ⟨by rw [HE.out]; rfl, t2.bel⟩
      | false =>
        go_wp2_with fail
        clear d0 d1 d2 d3 d4 r0 r1 r2 r3 r4 r5 r6
        refine (hasAsMany_any q r Ao As Ap Bo Bs Bf lo ls lp co cs cp mo ms mf eo es ef _ H2.out HR2.out hb).mono ?_
        rintro e w3 ⟨rfl, b3⟩
        rw [hm.out]
        have t3 := t2.below b3
        clear t2 b3
        cases m with
        | true =>
          go_wp2
          go_ret
          exact ⟨by rw [HE.out]; rfl, t3.bel⟩
        | false =>
          go_wp2
          go_ret
          exact ⟨by rw [HE.out]; rfl, t3.bel⟩
    · have u1 : (r.x != 0) = true := by simpa using hx
      have u2 : (r.x == 0) = false := beq_false_of_ne hx
      have HE : Hid ((if 1 ≤ r.x ∧ r.x ≤ 127 then (if anyB mo ms mf = true then 23 else 0) else 3) = E) := Lib.hid (by
        rw [← hE.out]; unfold chkR; rw [if_neg (show ¬ chkQ q ≠ 0 by rw [hk.out]; simp), if_pos hx, HR.out.mo, HR.out.ms, HR.out.mf])
      clear hx
      go_enter Tryz.func15, Tryz.ntmps15
      go_wp2_with fail
      refine HC.out.mono ?_
      rintro e w1 ⟨rfl, b1⟩
      have t1 := t0.below b1
      clear t0 b1
      obtain ⟨d0, d1, d2, d3, d4⟩ := t1.c4
      obtain ⟨r0, r1, r2, r3, r4, r5, r6⟩ := t1.r6
      go_wp2_with fail
      clear d0 d1 d2 d3 d4 r0 r1 r2 r3 r4 r5 r6
      refine (checkExc_any r.x Bo Bs Bf mo ms mf eo es ef _).mono ?_
      rintro e w2 ⟨rfl, b2⟩
      rw [HE.out]
      have t2 := t1.below b2
      go_wp2
      go_ret
      exact ⟨rfl, t2.bel⟩
  · have u1 : (k != 0) = true := by simpa using hk0
    have u2 : (k == 0) = false := beq_false_of_ne hk0
    have HE : Hid (E = k) := Lib.hid (by rw [← hE.out]; unfold chkR; rw [hk.out, if_pos hk0])
    clear hk0
    go_enter Tryz.func15, Tryz.ntmps15
    go_wp2_with fail
    refine HC.out.mono ?_
    rintro e w1 ⟨rfl, b1⟩
    have t1 := t0.below b1
    go_wp2
    go_ret
    exact ⟨by rw [HE.out]; rfl, t1.bel⟩
end Go.Proofs.YtobhllcnljggiaaGreat
namespace Go.Proofs.YtobhllcnljggiaaGreat
open Go.RowKit
set_option linter.unusedVariables false

/-- Four stores, field by field. -/
def put4 (w : World) (g : Nat) (v0 v1 v2 v3 : Value) : World := (((w.setCell ⟨g, 0, none⟩ v0).setCell ⟨g, 1, none⟩ v1).setCell ⟨g, 2, none⟩ v2).setCell ⟨g, 3, none⟩ v3
theorem put4_heap {w : World} {g : Nat} {t : TypeId} {u0 u1 u2 u3 : Value} (h : w.heap[g]? = some (.cells #[u0, u1, u2, u3] t (0, 0))) (v0 v1 v2 v3 : Value) :
    (put4 w g v0 v1 v2 v3).heap[g]? = some (.cells #[v0, v1, v2, v3] t (0, 0)) := box_set (box_set (box_set (box_set h 0 v0) 1 v1) 2 v2) 3 v3
theorem below_put4 {B : Nat} {a w : World} {g : Nat} (h : Below B a w) (hg : B ≤ g) (v0 v1 v2 v3 : Value) : Below B a (put4 w g v0 v1 v2 v3) :=
  below_setCell (below_setCell (below_setCell (below_setCell h hg 0 v0) hg 1 v1) hg 2 v2) hg 3 v3
theorem cells4 {w : World} {g : Nat} {t : TypeId} {v0 v1 v2 v3 : Value} (h : w.heap[g]? = some (.cells #[v0, v1, v2, v3] t (0, 0))) :
    w.cell? ⟨g, 0, none⟩ = some v0 ∧ w.cell? ⟨g, 1, none⟩ = some v1 ∧ w.cell? ⟨g, 2, none⟩ = some v2 ∧ w.cell? ⟨g, 3, none⟩ = some v3 :=
  ⟨cell_of_row w g 0 _ _ _ h, cell_of_row w g 1 _ _ _ h, cell_of_row w g 2 _ _ _ h, cell_of_row w g 3 _ _ _ h⟩
theorem TB.put4 {w0 w : World} {B : Nat} {o1 : Obj} {t : TypeId} {u0 u1 u2 u3 : Value} (h : TB w0 B o1 (.cells #[u0, u1, u2, u3] t (0, 0)) w) (v0 v1 v2 v3 : Value) :
    (put4 w (B + 1) v0 v1 v2 v3).heap[B + 1]? = some (.cells #[v0, v1, v2, v3] t (0, 0)) ∧ Below B w0 (put4 w (B + 1) v0 v1 v2 v3) :=
  ⟨put4_heap h.box v0 v1 v2 v3, below_put4 h.bel (Nat.le_succ _) v0 v1 v2 v3⟩

/-- An answer and a number. -/
def RpGot (w : World) (r : Rep) (E : Int) (e : Ending) (w' : World) : Prop :=
  ∃ (Bo Bs Bf : Option Addr) (mo ms mf eo es ef : Nat), e = .returned (.tuple #[.agg #[.int .i64 r.x, .slice Bo mo eo, .slice Bs ms es, .slice Bf mf ef], .int .i64 E]) ∧ Repd w' w'.heap.size r Bo Bs Bf mo ms mf ∧ Below w.heap.size w w'
theorem RpGot.exc {w w' : World} {x err : Int} {e : Ending} (h : e = .returned (.tuple #[.agg #[.int .i64 x, .slice none 0 0, .slice none 0 0, .slice none 0 0], .int .i64 err])) (hb : Below w.heap.size w w') : RpGot w ⟨x, [], [], []⟩ err e w' :=
  ⟨none, none, none, 0, 0, 0, 0, 0, 0, h, Repd.zero _ _ x, hb⟩

theorem checkSize_any (A : Option Addr) (n c : Nat) (s : Int) (w : World) : Calls Tryz.prog 68 #[.slice A n c, .int .i64 s] w fun e w' => e = .returned (.int .i64 (if (n : Int) < s then 1 else if s < (n : Int) then 2 else 0)) ∧ w' = w := by
  by_cases h1 : (n : Int) < s
  · rw [if_pos h1]
    go_enter Tryz.func68, Tryz.ntmps68
    go_wp2
    go_ret
    exact ⟨rfl, rfl⟩
  · rw [if_neg h1]
    by_cases h2 : s < (n : Int)
    · rw [if_pos h2]
      go_enter Tryz.func68, Tryz.ntmps68
      go_wp2
      go_ret
      exact ⟨rfl, rfl⟩
    · rw [if_neg h2]
      go_enter Tryz.func68, Tryz.ntmps68
      go_wp2
      go_ret
      exact ⟨rfl, rfl⟩

set_option maxHeartbeats 1000000 in
set_option maxRecDepth 100000 in
/-- getExc, of the two bytes of an exception. -/
theorem getExc_yes (A : Option Addr) (c : Nat) (y x : Int) (w : World) (B : Nat) (hr : Row .u8 w B A [y, x]) (hx : 1 ≤ x ∧ x ≤ 127) :
    Calls Tryz.prog 32 #[.slice A 2 c] w (RpGot w ⟨x, [], [], []⟩ 0) := by
  obtain ⟨b, o, rfl, hb, hc⟩ := hr.at_ (i := 1) (by simp)
  replace hc : w.cell? ⟨b, o + 1, none⟩ = some (.int .u8 x) := hc
  have hbw : b < w.heap.size := World.block_lt_of_cell? w ⟨b, o + 1, none⟩ hc
  have HX : Hid (decide (1 ≤ x ∧ x ≤ 127) = true) := Lib.hid (decide_eq_true hx)
  have e0 : IntKind.i64.wrap x = x := IntWalk.i64_in _ (by omega)
  have HS : Hid (∀ W, Calls Tryz.prog 68 #[.slice (some ⟨b, o, none⟩) 2 c, .int .i64 2] W fun e w' => e = .returned (.int .i64 0) ∧ w' = W) := Lib.hid (fun W => (checkSize_any (some ⟨b, o, none⟩) 2 c 2 W).mono fun e w' h => ⟨h.1.trans (by rw [if_neg (by omega), if_neg (by omega)]), h.2⟩)
  have bel := bel_alloc w (.cells #[.int .i64 x, .slice none 0 0, .slice none 0 0, .slice none 0 0] 29)
  clear hr hx
  go_enter Tryz.func32, Tryz.ntmps32
  go_wp2_with fail
  refine (HS.out _).mono ?_
  rintro e w1 ⟨rfl, rfl⟩
  go_wp2_with fail
  refine (isExc_any x _).mono ?_
  rintro e w1 ⟨rfl, rfl⟩
  rw [HX.out]
  go_wp2
  (try simp only [Exit.inBlock, Exit.then])
  refine bodyPost_ret (v := .tuple #[.agg #[.int .i64 x, .slice none 0 0, .slice none 0 0, .slice none 0 0], .int .i64 0]) (by simp [results, Tryz.results32, go_sem]) rfl ?_
  exact RpGot.exc rfl bel

/-- A right request has a code. -/
theorem chk_code {q : Req} (h : chkQ q = 0) : 0 < mm q.c := by
  unfold chkQ chk at h
  by_cases hm : mm q.c ≤ 0
  · rw [if_pos hm] at h; omega
  · omega
theorem mm_le (c : Int) (h : 0 < mm c) : 1 ≤ c ∧ c ≤ 20 := by rcases mm_pos h with h | h | h | h | h | h | h | h | h <;> omega

set_option maxHeartbeats 1000000 in
set_option maxRecDepth 100000 in
theorem rpGet_bad (q : Req) (Ao As Ap : Option Addr) (lo ls lp co cs cp : Nat) (A : Option Addr) (n c : Nat) (w : World) (h : Asked w w.heap.size q Ao As Ap lo ls lp) (hk : chkQ q ≠ 0) :
    Calls Tryz.prog 12 #[.agg #[.int .i64 q.c, .int .i64 q.a, .int .i64 q.n, .slice Ao lo co, .slice As ls cs, .slice Ap lp cp], .slice A n c] w (RpGot w Rep.zero (chkQ q)) := by
  have t0 := TB.new2 w #[.int .i64 q.c, .int .i64 q.a, .int .i64 q.n, .slice Ao lo co, .slice As ls cs, .slice Ap lp cp] #[.int .i64 0, .slice none 0 0, .slice none 0 0, .slice none 0 0] 26 29
  have hsz : w.heap.size ≤ ((w.alloc (.cells #[.int .i64 q.c, .int .i64 q.a, .int .i64 q.n, .slice Ao lo co, .slice As ls cs, .slice Ap lp cp] 26)).alloc (.cells #[.int .i64 0, .slice none 0 0, .slice none 0 0, .slice none 0 0] 29)).heap.size := t0.bel.size
  have HC := Lib.hid (Check_Q q Ao As Ap lo ls lp co cs cp _ ((h.below t0.bel).more hsz))
  obtain ⟨k, hk2⟩ : ∃ k, chkQ q = k := ⟨_, rfl⟩
  rw [hk2] at HC hk ⊢
  have u1 : (k != 0) = true := by simpa using hk
  have u2 : (k == 0) = false := beq_false_of_ne hk
  clear h hk hk2
  go_enter Tryz.func12, Tryz.ntmps12
  go_wp2_with fail
  refine HC.out.mono ?_
  rintro e w1 ⟨rfl, b1⟩
  have t1 := t0.below b1
  clear b1 t0 HC hsz
  obtain ⟨d0, d1, d2, d3, d4⟩ := t1.c4
  obtain ⟨r0, r1, r2, r3, r4, r5, r6⟩ := t1.r6
  have P5 := Lib.hid (t1.put4 (.int .i64 0) (.slice none 0 0) (.slice none 0 0) (.slice none 0 0))
  go_wp2
  (try simp only [Exit.inBlock, Exit.then])
  show bodyPost _ _ _ _ _ (put4 (w1) (w.heap.size + 1) (.int .i64 0) (.slice none 0 0) (.slice none 0 0) (.slice none 0 0))
  generalize put4 (w1) (w.heap.size + 1) (.int .i64 0) (.slice none 0 0) (.slice none 0 0) (.slice none 0 0) = w6 at *
  obtain ⟨x0, x1, x2, x3⟩ := cells4 P5.out.1
  refine bodyPost_ret (v := .tuple #[.agg #[.int .i64 0, .slice none 0 0, .slice none 0 0, .slice none 0 0], .int .i64 k]) (by simp [results, Tryz.results12, go_sem, x0, x1, x2, x3]) rfl ?_
  exact RpGot.exc rfl P5.out.2

set_option maxHeartbeats 1000000 in
set_option maxRecDepth 100000 in
theorem rpGet_none (q : Req) (Ao As Ap : Option Addr) (lo ls lp co cs cp : Nat) (A : Option Addr) (c : Nat) (w : World) (h : Asked w w.heap.size q Ao As Ap lo ls lp) (hk : chkQ q = 0) :
    Calls Tryz.prog 12 #[.agg #[.int .i64 q.c, .int .i64 q.a, .int .i64 q.n, .slice Ao lo co, .slice As ls cs, .slice Ap lp cp], .slice A 0 c] w (RpGot w Rep.zero 1) := by
  have t0 := TB.new2 w #[.int .i64 q.c, .int .i64 q.a, .int .i64 q.n, .slice Ao lo co, .slice As ls cs, .slice Ap lp cp] #[.int .i64 0, .slice none 0 0, .slice none 0 0, .slice none 0 0] 26 29
  have hsz : w.heap.size ≤ ((w.alloc (.cells #[.int .i64 q.c, .int .i64 q.a, .int .i64 q.n, .slice Ao lo co, .slice As ls cs, .slice Ap lp cp] 26)).alloc (.cells #[.int .i64 0, .slice none 0 0, .slice none 0 0, .slice none 0 0] 29)).heap.size := t0.bel.size
  have HC := Lib.hid (Check_Q q Ao As Ap lo ls lp co cs cp _ ((h.below t0.bel).more hsz))
  rw [hk] at HC
  clear h hk
  go_enter Tryz.func12, Tryz.ntmps12
  go_wp2_with fail
  refine HC.out.mono ?_
  rintro e w1 ⟨rfl, b1⟩
  have t1 := t0.below b1
  clear b1 t0 HC hsz
  obtain ⟨d0, d1, d2, d3, d4⟩ := t1.c4
  obtain ⟨r0, r1, r2, r3, r4, r5, r6⟩ := t1.r6
  have P5 := Lib.hid (t1.put4 (.int .i64 0) (.slice none 0 0) (.slice none 0 0) (.slice none 0 0))
  go_wp2
  (try simp only [Exit.inBlock, Exit.then])
  show bodyPost _ _ _ _ _ (put4 (w1) (w.heap.size + 1) (.int .i64 0) (.slice none 0 0) (.slice none 0 0) (.slice none 0 0))
  generalize put4 (w1) (w.heap.size + 1) (.int .i64 0) (.slice none 0 0) (.slice none 0 0) (.slice none 0 0) = w6 at *
  obtain ⟨x0, x1, x2, x3⟩ := cells4 P5.out.1
  refine bodyPost_ret (v := .tuple #[.agg #[.int .i64 0, .slice none 0 0, .slice none 0 0, .slice none 0 0], .int .i64 1]) (by simp [results, Tryz.results12, go_sem, x0, x1, x2, x3]) rfl ?_
  exact RpGot.exc rfl P5.out.2

set_option maxHeartbeats 1000000 in
set_option maxRecDepth 100000 in
theorem rpGet_exc (q : Req) (Ao As Ap : Option Addr) (lo ls lp co cs cp : Nat) (A : Option Addr) (c : Nat) (x : Int) (w : World) (h : Asked w w.heap.size q Ao As Ap lo ls lp) (hk : chkQ q = 0) (hr : Row .u8 w w.heap.size A [q.c + 128, x]) (hx : 1 ≤ x ∧ x ≤ 127) :
    Calls Tryz.prog 12 #[.agg #[.int .i64 q.c, .int .i64 q.a, .int .i64 q.n, .slice Ao lo co, .slice As ls cs, .slice Ap lp cp], .slice A 2 c] w (RpGot w ⟨x, [], [], []⟩ 0) := by
  have t0 := TB.new2 w #[.int .i64 q.c, .int .i64 q.a, .int .i64 q.n, .slice Ao lo co, .slice As ls cs, .slice Ap lp cp] #[.int .i64 0, .slice none 0 0, .slice none 0 0, .slice none 0 0] 26 29
  have hsz : w.heap.size ≤ ((w.alloc (.cells #[.int .i64 q.c, .int .i64 q.a, .int .i64 q.n, .slice Ao lo co, .slice As ls cs, .slice Ap lp cp] 26)).alloc (.cells #[.int .i64 0, .slice none 0 0, .slice none 0 0, .slice none 0 0] 29)).heap.size := t0.bel.size
  have HC := Lib.hid (Check_Q q Ao As Ap lo ls lp co cs cp _ ((h.below t0.bel).more hsz))
  rw [hk] at HC
  have hcr := mm_le _ (chk_code hk)
  have HR := Lib.hid hr
  have HX := Lib.hid hx
  obtain ⟨b, o, rfl, hb, hc⟩ := hr.at_ (i := 0) (by simp)
  replace hc : w.cell? ⟨b, o + 0, none⟩ = some (.int .u8 (q.c + 128)) := hc
  rw [Nat.add_zero] at hc
  have e1 : IntKind.i64.wrap (q.c + 128) = q.c + 128 := IntWalk.i64_in _ (by omega)
  have e2 : (q.c + 128 == q.c + 128) = true := by simp
  clear h hk hr hx
  go_enter Tryz.func12, Tryz.ntmps12
  go_wp2_with fail
  refine HC.out.mono ?_
  rintro e w1 ⟨rfl, b1⟩
  have t1 := t0.below b1
  clear b1 t0 HC hsz
  obtain ⟨d0, d1, d2, d3, d4⟩ := t1.c4
  obtain ⟨r0, r1, r2, r3, r4, r5, r6⟩ := t1.r6
  have hc1 : w1.cell? ⟨b, o, none⟩ = some (.int .u8 (q.c + 128)) := (t1.bel.cell (p := ⟨b, o, none⟩) hb).trans hc
  go_wp2_with fail
  refine (getExc_yes _ c (q.c + 128) x _ _ (HR.out.tb t1) HX.out).mono ?_
  rintro e w2 ⟨Bo, Bs, Bf, mo, ms, mf, eo, es, ef, rfl, hrep, b2⟩
  have t2 := t1.below b2
  have HREP := Lib.hid hrep
  clear hrep b2 t1 d0 d1 d2 d3 d4 r0 r1 r2 r3 r4 r5 r6 hc1
  obtain ⟨d0, d1, d2, d3, d4⟩ := t2.c4
  have P5 := Lib.hid (t2.put4 (.int .i64 x) (.slice Bo mo eo) (.slice Bs ms es) (.slice Bf mf ef))
  obtain rfl : mo = 0 := HREP.out.mo.symm
  obtain rfl : ms = 0 := HREP.out.ms.symm
  obtain rfl : mf = 0 := HREP.out.mf.symm
  go_wp2
  (try simp only [Exit.inBlock, Exit.then])
  show bodyPost _ _ _ _ _ (put4 (w2) (w.heap.size + 1) (.int .i64 x) (.slice Bo 0 eo) (.slice Bs 0 es) (.slice Bf 0 ef))
  generalize put4 (w2) (w.heap.size + 1) (.int .i64 x) (.slice Bo 0 eo) (.slice Bs 0 es) (.slice Bf 0 ef) = w6 at *
  obtain ⟨x0, x1, x2, x3⟩ := cells4 P5.out.1
  refine bodyPost_ret (v := .tuple #[.agg #[.int .i64 x, .slice Bo 0 eo, .slice Bs 0 es, .slice Bf 0 ef], .int .i64 0]) (by simp [results, Tryz.results12, go_sem, x0, x1, x2, x3]) rfl ?_
  exact ⟨Bo, Bs, Bf, 0, 0, 0, eo, es, ef, rfl, ⟨L.Row.nil _ _ _ _, Row.nil _ _ _ _, FRow.nil _ _ _, rfl, rfl, rfl⟩, P5.out.2⟩

set_option maxHeartbeats 1000000 in
theorem rpPut_exc (q : Req) (Ao As Ap : Option Addr) (lo ls lp co cs cp : Nat) (x : Int) (w : World) (h : Asked w w.heap.size q Ao As Ap lo ls lp) (hb : lp ≤ 100000) (hk : chkQ q = 0) (hx : 1 ≤ x ∧ x ≤ 127) :
    Calls Tryz.prog 19 #[.agg #[.int .i64 q.c, .int .i64 q.a, .int .i64 q.n, .slice Ao lo co, .slice As ls cs, .slice Ap lp cp], .agg #[.int .i64 x, .slice none 0 0, .slice none 0 0, .slice none 0 0]] w fun e w' => ∃ g, w.heap.size ≤ g ∧ e = .returned (.tuple #[.slice (some ⟨g, 0, none⟩) 2 2, .int .i64 0]) ∧ w'.heap[g]? = some (.cells (blk .u8 [q.c + 128, x]) 5 (0, 0)) ∧ Below w.heap.size w w' := by
  have t0 := TB.new2 w #[.int .i64 q.c, .int .i64 q.a, .int .i64 q.n, .slice Ao lo co, .slice As ls cs, .slice Ap lp cp] #[.int .i64 x, .slice none 0 0, .slice none 0 0, .slice none 0 0] 26 29
  have hsz : w.heap.size ≤ ((w.alloc (.cells #[.int .i64 q.c, .int .i64 q.a, .int .i64 q.n, .slice Ao lo co, .slice As ls cs, .slice Ap lp cp] 26)).alloc (.cells #[.int .i64 x, .slice none 0 0, .slice none 0 0, .slice none 0 0] 29)).heap.size := t0.bel.size
  have HC := Lib.hid (rpCheck_any q ⟨x, [], [], []⟩ Ao As Ap none none none lo ls lp co cs cp 0 0 0 0 0 0 _ ((h.below t0.bel).more hsz) (Repd.zero _ _ x) hb)
  have hz : chkR q ⟨x, [], [], []⟩ = 0 := by
    unfold chkR
    rw [if_neg (show ¬ chkQ q ≠ 0 by rw [hk]; simp), if_pos (show x ≠ 0 by omega), if_pos hx]
    rfl
  rw [hz] at HC
  have hcr := mm_le _ (chk_code hk)
  have u1 : (x != 0) = true := by simp; omega
  have u2 : (x == 0) = false := beq_false_of_ne (by omega)
  have e1 : IntKind.i64.wrap (q.c + 128) = q.c + 128 := IntWalk.i64_in _ (by omega)
  have e2 : IntKind.u8.wrap (q.c + 128) = q.c + 128 := by rw [IntKind.wrap_u8]; omega
  have e3 : IntKind.u8.wrap x = x := by rw [IntKind.wrap_u8]; omega
  clear h hk hz
  go_enter Tryz.func19, Tryz.ntmps19
  go_wp2_with fail
  refine HC.out.mono ?_
  rintro e w1 ⟨rfl, b1⟩
  have t1 := t0.below b1
  have hlt := t1.lt
  clear b1 t0 HC hsz
  obtain ⟨d0, d1, d2, d3, d4⟩ := t1.c4
  obtain ⟨r0, r1, r2, r3, r4, r5, r6⟩ := t1.r6
  go_wp2
  go_ret2
  exact ⟨w1.heap.size, by omega, rfl, heap_alloc_new w1 (.cells (blk .u8 [q.c + 128, x]) 5), t1.bel.alloc (by omega) _⟩
end Go.Proofs.YtobhllcnljggiaaGreat
namespace Go.Proofs.YtobhllcnljggiaaGreat
open Go.RowKit
set_option linter.unusedVariables false

set_option maxHeartbeats 1000000 in
theorem rpCounted_any (c : Int) (A : Option Addr) (m cap : Nat) (ys : List Int) (w : World) (hr : Row .u8 w w.heap.size A ys) (hm : ys.length = m) (hm2 : m ≤ 255) (hc : 0 ≤ c ∧ c < 256) :
    Calls Tryz.prog 79 #[.int .i64 c, .slice A m cap] w (Makes .u8 5 w (c :: (m : Int) :: ys)) := by
  have e1 : IntKind.u8.wrap c = c := by rw [IntKind.wrap_u8]; omega
  have e2 : IntKind.u8.wrap (m : Int) = m := by rw [IntKind.wrap_u8]; omega
  have HR := Lib.hid (hr.alloc (Nat.le_refl _) (.cells (blk .u8 [c, (m : Int)]) 5))
  have HM := Lib.hid hm
  have hown := Own.laid (k := .u8) (base := w.heap.size) (n := 2) (heap_alloc_new w (.cells (blk .u8 [c, (m : Int)]) 5)) (Nat.le_refl _) (show [c, (m : Int)].length = 2 from rfl) (by simp [maxLen])
  have bel := bel_alloc w (.cells (blk .u8 [c, (m : Int)]) 5)
  clear hr hm
  go_enter Tryz.func79, Tryz.ntmps79
  go_wp2_with (at_builtin; refine wpList_append_row _ rfl (.tmp 10) (.tmp 11) 34 rfl w.heap.size .u8 5 1 Tryz.underlying34 info_u8 (.slice (some ⟨w.heap.size, 0, none⟩) 2 2) [c, (m : Int)] rfl hown _ _ m cap ys rfl HR.out HM.out (by simp; omega) (by simp [maxLen]; omega) (by simp) ?_; intro v1 w1 hown1 hg1)
  go_ret
  exact ⟨_, rfl, hown1, Below.own bel (by simp) hown hg1⟩

theorem Bytes_row (A : Option Addr) (n c z : Nat) (xs : List Int) (W : World) (hz : W.heap.size = z) (hr : Row .u16 W z A xs) (hn : xs.length = n) (hb : n ≤ 1000000) :
    Calls Tryz.prog 81 #[.slice A n c] W fun e w' => e = .returned (.slice (some ⟨z, 0, none⟩) (2 * n) (2 * n)) ∧ w'.heap[z]? = some (.cells (blk .u8 (wbytes xs)) 5 (0, 0)) ∧ Below z W w' := by
  subst hz; exact Bytes_any A n c xs W hr hn hb
theorem TB.below2 {w0 w w' : World} {B z : Nat} {o1 o2 : Obj} (h : TB w0 B o1 o2 w) (hb : Below z w w') (hz : B + 1 < z) : TB w0 B o1 o2 w' :=
  ⟨(hb.block B (by omega)).trans h.ret, (hb.block (B + 1) hz).trans h.box, h.bel.trans (hb.mono (by omega))⟩

set_option maxHeartbeats 1000000 in
set_option maxRecDepth 100000 in
theorem rpForm_words (q : Req) (r : Rep) (Ao As Ap Bo Bs Bf : Option Addr) (lo ls lp co cs cp mo ms mf eo es ef : Nat) (w : World) (h : Asked w w.heap.size q Ao As Ap lo ls lp) (hr : Repd w w.heap.size r Bo Bs Bf mo ms mf) (hc : q.c = 3 ∨ q.c = 4) (hm : ms ≤ 125) :
    Calls Tryz.prog 47 #[.agg #[.int .i64 q.c, .int .i64 q.a, .int .i64 q.n, .slice Ao lo co, .slice As ls cs, .slice Ap lp cp], .agg #[.int .i64 r.x, .slice Bo mo eo, .slice Bs ms es, .slice Bf mf ef]] w (Makes .u8 5 w (q.c :: 2 * (ms : Int) :: wbytes r.set)) := by
  obtain ⟨c, a, n, on, set, fl⟩ := q
  simp only at *
  have t0 := TB.new2 w #[.int .i64 c, .int .i64 a, .int .i64 n, .slice Ao lo co, .slice As ls cs, .slice Ap lp cp] #[.int .i64 r.x, .slice Bo mo eo, .slice Bs ms es, .slice Bf mf ef] 26 29
  have HSET := Lib.hid hr.set
  have HMS := Lib.hid hr.ms
  have HWL : Hid ((wbytes r.set).length = 2 * ms) := Lib.hid (by rw [wbytes_length, hr.ms])
  have hcast : ((2 * ms : Nat) : Int) = 2 * (ms : Int) := by omega
  obtain ⟨m2, hm2⟩ : ∃ m2, 2 * ms = m2 := ⟨_, rfl⟩
  rw [hm2] at HWL hcast
  rw [← hcast]
  have hm3 : m2 ≤ 255 := by omega
  have HM2 := Lib.hid hm2
  clear h hr hm2 hcast
  rcases hc with rfl | rfl
  · go_enter Tryz.func47, Tryz.ntmps47
    go_wp2_with fail
    go_region_held3 (fun w' => TB w w.heap.size (.cells #[.int .i64 3, .int .i64 a, .int .i64 n, .slice Ao lo co, .slice As ls cs, .slice Ap lp cp] 26 (0, 0)) (.cells #[.int .i64 r.x, .slice Bo mo eo, .slice Bs ms es, .slice Bf mf ef] 29 (0, 0)) w' ∧ w'.cell? ⟨w.heap.size, 0, none⟩ = some (.int .i64 3) ∧ w'.cell? ⟨w.heap.size + 1, 0, none⟩ = some (.int .i64 r.x) ∧ w'.cell? ⟨w.heap.size + 1, 1, none⟩ = some (.slice Bo mo eo) ∧ w'.cell? ⟨w.heap.size + 1, 2, none⟩ = some (.slice Bs ms es) ∧ w'.cell? ⟨w.heap.size + 1, 3, none⟩ = some (.slice Bf mf ef))
      ((first
        | exact ⟨t0.drew, t0.drew.r6.1, t0.drew.c4.1, t0.drew.c4.2.1, t0.drew.c4.2.2.1, t0.drew.c4.2.2.2.1⟩
        | exact ⟨t2, t2.r6.1, t2.c4.1, t2.c4.2.1, t2.c4.2.2.1, t2.c4.2.2.2.1⟩
        | exact ⟨t1, t1.r6.1, t1.c4.1, t1.c4.2.1, t1.c4.2.2.1, t1.c4.2.2.2.1⟩))
      (first
        | (go_at_call 81; refine (Bytes_row Bs ms es (w.heap.size + 1 + 1) r.set _ (by simp) ((HSET.out.below t0.drew.bel).more (by omega)) HMS.out (by omega)).mono ?_; rintro e w1 ⟨rfl, g1, b1⟩; rw [HM2.out]; have t1 := t0.drew.below2 b1 (by omega); have hg1 := block_lt g1)
        | (go_at_call 79; refine (rpCounted_any _ _ m2 m2 (wbytes r.set) _ ((Row.of_block g1 (wbytes r.set) (wbytes_wf r.set) (List.prefix_refl _)).more hg1) HWL.out hm3 (by omega)).mono ?_; rintro e w2 ⟨v2, rfl, own2, b2⟩; have t2 := t1.below b2))
    go_wp2
    go_ret
    exact ⟨_, rfl, own2.mono (by have := t1.lt; omega), t2.bel⟩
  · go_enter Tryz.func47, Tryz.ntmps47
    go_wp2_with fail
    go_region_held3 (fun w' => TB w w.heap.size (.cells #[.int .i64 4, .int .i64 a, .int .i64 n, .slice Ao lo co, .slice As ls cs, .slice Ap lp cp] 26 (0, 0)) (.cells #[.int .i64 r.x, .slice Bo mo eo, .slice Bs ms es, .slice Bf mf ef] 29 (0, 0)) w' ∧ w'.cell? ⟨w.heap.size, 0, none⟩ = some (.int .i64 4) ∧ w'.cell? ⟨w.heap.size + 1, 0, none⟩ = some (.int .i64 r.x) ∧ w'.cell? ⟨w.heap.size + 1, 1, none⟩ = some (.slice Bo mo eo) ∧ w'.cell? ⟨w.heap.size + 1, 2, none⟩ = some (.slice Bs ms es) ∧ w'.cell? ⟨w.heap.size + 1, 3, none⟩ = some (.slice Bf mf ef))
      ((first
        | exact ⟨t0.drew, t0.drew.r6.1, t0.drew.c4.1, t0.drew.c4.2.1, t0.drew.c4.2.2.1, t0.drew.c4.2.2.2.1⟩
        | exact ⟨t2, t2.r6.1, t2.c4.1, t2.c4.2.1, t2.c4.2.2.1, t2.c4.2.2.2.1⟩
        | exact ⟨t1, t1.r6.1, t1.c4.1, t1.c4.2.1, t1.c4.2.2.1, t1.c4.2.2.2.1⟩))
      (first
        | (go_at_call 81; refine (Bytes_row Bs ms es (w.heap.size + 1 + 1) r.set _ (by simp) ((HSET.out.below t0.drew.bel).more (by omega)) HMS.out (by omega)).mono ?_; rintro e w1 ⟨rfl, g1, b1⟩; rw [HM2.out]; have t1 := t0.drew.below2 b1 (by omega); have hg1 := block_lt g1)
        | (go_at_call 79; refine (rpCounted_any _ _ m2 m2 (wbytes r.set) _ ((Row.of_block g1 (wbytes r.set) (wbytes_wf r.set) (List.prefix_refl _)).more hg1) HWL.out hm3 (by omega)).mono ?_; rintro e w2 ⟨v2, rfl, own2, b2⟩; have t2 := t1.below b2))
    go_wp2
    go_ret
    exact ⟨_, rfl, own2.mono (by have := t1.lt; omega), t2.bel⟩

/-- The function that takes the next bytes. -/
theorem take_any (b o n c k g : Nat) (w : World) (hg : w.heap[g]? = some (.cells #[.slice (some ⟨b, o, none⟩) n c] 34 (0, 0))) (hn : n ≤ c) (hk : k ≤ n) (hb : c ≤ 9223372036854775807) :
    Calls Tryz.prog 102 #[.int .i64 k, .pointer (some ⟨g, 0, none⟩)] w fun e w' => e = .returned (.slice (some ⟨b, o, none⟩) k c) ∧ ∃ A', (k < c → A' = some ⟨b, o + k, none⟩) ∧ w' = w.setCell ⟨g, 0, none⟩ (.slice A' (n - k) (c - k)) := by
  have d0 : w.cell? ⟨g, 0, none⟩ = some (.slice (some ⟨b, o, none⟩) n c) := cell_of_row w g 0 _ _ _ hg
  have d1 : ∀ i, w.frozen? ⟨g, i, none⟩ = false := fun i => block_frozen w g i _ _ hg
  have i1 : (0 : Int) ≤ (k : Int) := by omega
  have i2 : (k : Int) ≤ (c : Int) := by omega
  have i3 : (k : Int) ≤ (n : Int) := by omega
  by_cases hkc : k = c
  · obtain rfl : n = c := by omega
    subst hkc
    go_enter Tryz.func102, Tryz.ntmps102
    go_wp2
    go_ret
    exact ⟨rfl, some ⟨b, o, none⟩, fun h => absurd h (by omega), by rw [Nat.sub_self]⟩
  · go_enter Tryz.func102, Tryz.ntmps102
    go_wp2
    go_ret
    exact ⟨rfl, _, fun _ => rfl, rfl⟩
end Go.Proofs.YtobhllcnljggiaaGreat
namespace Go.Proofs.YtobhllcnljggiaaGreat
open Go.RowKit
set_option linter.unusedVariables false

set_option maxHeartbeats 1000000 in
theorem rpPut_words (q : Req) (r : Rep) (Ao As Ap Bo Bs Bf : Option Addr) (lo ls lp co cs cp mo ms mf eo es ef : Nat) (w : World) (h : Asked w w.heap.size q Ao As Ap lo ls lp) (hr : Repd w w.heap.size r Bo Bs Bf mo ms mf) (hb : lp ≤ 100000) (hk : chkR q r = 0) (hx : r.x = 0) (hc : q.c = 3 ∨ q.c = 4) (hm : ms ≤ 125) :
    Calls Tryz.prog 19 #[.agg #[.int .i64 q.c, .int .i64 q.a, .int .i64 q.n, .slice Ao lo co, .slice As ls cs, .slice Ap lp cp], .agg #[.int .i64 r.x, .slice Bo mo eo, .slice Bs ms es, .slice Bf mf ef]] w fun e w' => ∃ v', e = .returned (.tuple #[v', .int .i64 0]) ∧ Own .u8 5 w' w.heap.size v' (q.c :: 2 * (ms : Int) :: wbytes r.set) ∧ Below w.heap.size w w' := by
  have t0 := TB.new2 w #[.int .i64 q.c, .int .i64 q.a, .int .i64 q.n, .slice Ao lo co, .slice As ls cs, .slice Ap lp cp] #[.int .i64 r.x, .slice Bo mo eo, .slice Bs ms es, .slice Bf mf ef] 26 29
  have hsz : w.heap.size ≤ ((w.alloc (.cells #[.int .i64 q.c, .int .i64 q.a, .int .i64 q.n, .slice Ao lo co, .slice As ls cs, .slice Ap lp cp] 26)).alloc (.cells #[.int .i64 r.x, .slice Bo mo eo, .slice Bs ms es, .slice Bf mf ef] 29)).heap.size := t0.bel.size
  have H := Lib.hid ((h.below t0.bel).more hsz)
  have HR := Lib.hid ((hr.below t0.bel).more hsz)
  have HC := Lib.hid (rpCheck_any q r Ao As Ap Bo Bs Bf lo ls lp co cs cp mo ms mf eo es ef _ H.out HR.out hb)
  rw [hk] at HC
  have u1 : (r.x != 0) = false := by simp [hx]
  have u2 : (r.x == 0) = true := by simp [hx]
  have HCC := Lib.hid hc
  clear h hr hk hx hc
  go_enter Tryz.func19, Tryz.ntmps19
  go_wp2_with fail
  refine HC.out.mono ?_
  rintro e w1 ⟨rfl, b1⟩
  have t1 := t0.below b1
  have hlt := t1.lt
  have HF := Lib.hid (rpForm_words q r Ao As Ap Bo Bs Bf lo ls lp co cs cp mo ms mf eo es ef w1 (H.out.up b1) (HR.out.up b1) HCC.out hm)
  clear b1 t0 HC hsz
  obtain ⟨d0, d1, d2, d3, d4⟩ := t1.c4
  obtain ⟨r0, r1, r2, r3, r4, r5, r6⟩ := t1.r6
  go_wp2_with fail
  refine HF.out.mono ?_
  rintro e w2 ⟨v2, rfl, own2, b2⟩
  have t2 := t1.below b2
  go_wp2
  go_ret2
  exact ⟨_, rfl, own2.mono (by omega), t2.bel⟩

set_option maxHeartbeats 1000000 in
theorem rpSize_words (c a : Int) (n : Nat) (Ao As Ap : Option Addr) (lo co ls cs lp cp : Nat) (w : World) (hc : c = 3 ∨ c = 4) (hn : n ≤ 1000) :
    Calls Tryz.prog 70 #[.agg #[.int .i64 c, .int .i64 a, .int .i64 n, .slice Ao lo co, .slice As ls cs, .slice Ap lp cp]] w fun e w' => e = .returned (.int .i64 ((2 + 2 * n : Nat) : Int)) ∧ Below w.heap.size w w' := by
  have e1 : IntKind.i64.wrap (2 * (n : Int)) = 2 * (n : Int) := IntWalk.i64_in _ (by omega)
  have e2 : IntKind.i64.wrap (2 + 2 * (n : Int)) = 2 + 2 * (n : Int) := IntWalk.i64_in _ (by omega)
  rw [show ((2 + 2 * n : Nat) : Int) = 2 + 2 * (n : Int) by omega]
  have bel := bel_alloc w (.cells #[.int .i64 c, .int .i64 a, .int .i64 n, .slice Ao lo co, .slice As ls cs, .slice Ap lp cp] 26)
  rcases hc with rfl | rfl
  all_goals
    go_enter Tryz.func70, Tryz.ntmps70
    go_wp2
    go_ret
    exact ⟨rfl, bel⟩

theorem taker_any (A : Option Addr) (n c : Nat) (w : World) :
    Calls Tryz.prog 93 #[.slice A n c] w fun e w' => e = .returned (.func (.func 102) #[] #[.pointer (some ⟨w.heap.size, 0, none⟩)]) ∧ w' = w.alloc (.cells #[.slice A n c] 34) := by
  go_enter Tryz.func93, Tryz.ntmps93
  go_wp2
  go_ret
  exact ⟨rfl, rfl⟩

theorem take_at (b o n c k g : Nat) (z : Int) (hz : z = k) (w : World) (hg : w.heap[g]? = some (.cells #[.slice (some ⟨b, o, none⟩) n c] 34 (0, 0))) (hn : n ≤ c) (hk : k ≤ n) (hb : c ≤ 9223372036854775807) :
    Calls Tryz.prog 102 #[.int .i64 z, .pointer (some ⟨g, 0, none⟩)] w fun e w' => e = .returned (.slice (some ⟨b, o, none⟩) k c) ∧ ∃ A', (k < c → A' = some ⟨b, o + k, none⟩) ∧ w' = w.setCell ⟨g, 0, none⟩ (.slice A' (n - k) (c - k)) := by
  subst hz; exact take_any b o n c k g w hg hn hk hb
theorem TB.far {w0 w : World} {B g : Nat} {o1 o2 : Obj} (h : TB w0 B o1 o2 w) (hg : B + 1 < g) (i : Nat) (v : Value) : TB w0 B o1 o2 (w.setCell ⟨g, i, none⟩ v) :=
  ⟨(Below.heap_setCell w ⟨g, i, none⟩ v B (by simp; omega)).trans h.ret, (Below.heap_setCell w ⟨g, i, none⟩ v (B + 1) (by simp; omega)).trans h.box, below_setCell h.bel (by omega) i v⟩
theorem put4_other {w : World} {g j : Nat} (h : j ≠ g) (v0 v1 v2 v3 : Value) : (put4 w g v0 v1 v2 v3).heap[j]? = w.heap[j]? := by
  unfold put4
  rw [Below.heap_setCell _ ⟨g, 3, none⟩ v3 j (by simpa using h), Below.heap_setCell _ ⟨g, 2, none⟩ v2 j (by simpa using h), Below.heap_setCell _ ⟨g, 1, none⟩ v1 j (by simpa using h), Below.heap_setCell _ ⟨g, 0, none⟩ v0 j (by simpa using h)]

set_option maxHeartbeats 2000000 in
set_option maxRecDepth 100000 in
theorem rpRead_words (c a : Int) (n : Nat) (Ao As Ap : Option Addr) (lo co ls cs lp cp : Nat) (b o m cap : Nat) (ys : List Int) (w : World) (hc : c = 3 ∨ c = 4) (hr : Row .u8 w w.heap.size (some ⟨b, o, none⟩) ys) (hy : ys.length = m) (hm : m = 2 + 2 * n) (hn : 1 ≤ n ∧ n ≤ 125) (hcap : m ≤ cap) (hcb : cap ≤ 9223372036854775807) (h1 : nth ys 1 = 2 * (n : Int)) :
    Calls Tryz.prog 71 #[.agg #[.int .i64 c, .int .i64 a, .int .i64 n, .slice Ao lo co, .slice As ls cs, .slice Ap lp cp], .slice (some ⟨b, o, none⟩) m cap] w fun e w' => ∃ g, w.heap.size ≤ g ∧ e = .returned (.tuple #[.agg #[.int .i64 0, .slice none 0 0, .slice (some ⟨g, 0, none⟩) n n, .slice none 0 0], .bool true]) ∧ w'.heap[g]? = some (.cells (blk .u16 (wwords (ys.drop 2))) 32 (0, 0)) ∧ Below w.heap.size w w' := by
  have HR := Lib.hid hr
  have HY := Lib.hid hy
  have HM := Lib.hid hm
  have HW : Hid (wrB c = false) := Lib.hid (decide_eq_false (by omega))
  obtain ⟨b', o', hA, hbB, hcell⟩ := hr.at_ (i := 1) (by omega)
  injection hA with hA
  injection hA with hA1 hA2
  subst hA1 hA2
  rw [h1] at hcell
  have t0 := TB.new2 w #[.int .i64 c, .int .i64 a, .int .i64 n, .slice Ao lo co, .slice As ls cs, .slice Ap lp cp] #[.int .i64 0, .slice none 0 0, .slice none 0 0, .slice none 0 0] 26 29
  have e0 : IntKind.i64.wrap (2 * (n : Int)) = 2 * (n : Int) := IntWalk.i64_in _ (by omega)
  have em : (m : Int) - 2 = 2 * (n : Int) := by omega
  have em1 : IntKind.i64.wrap ((m : Int) - 2) = 2 * (n : Int) := by rw [IntWalk.i64_in _ (by omega)]; omega
  have tn : (2 * (n : Int) != 2 * (n : Int)) = false := by simp
  have hm2 : 1 < m := by omega
  have HC1 := Lib.hid hcell
  clear hr hy hm h1 hcell
  rcases hc with rfl | rfl
  all_goals
    go_enter Tryz.func71, Tryz.ntmps71
    go_wp2_with fail
    refine (Writes_any _ a n Ao As Ap lo co ls cs lp cp _).mono ?_
    rintro e w1 ⟨rfl, b1⟩
    rw [HW.out]
    have t1 := t0.below b1
    clear t0 b1
    go_wp2_with fail
    refine (taker_any (some ⟨b, o, none⟩) m cap _).mono ?_
    rintro e w2' ⟨rfl, rfl⟩
    have t2 := t1.alloc (.cells #[.slice (some ⟨b, o, none⟩) m cap] 34)
    have hg2 := Lib.hid (heap_alloc_new w1 (.cells #[.slice (some ⟨b, o, none⟩) m cap] 34))
    have hz := t1.lt
    generalize w1.heap.size = g at *
    clear t1
    generalize w1.alloc (.cells #[.slice (some ⟨b, o, none⟩) m cap] 34) = w2 at *
    go_wp2_with fail
    refine (take_any b o m cap 2 g _ hg2.out hcap (by omega) hcb).mono ?_
    rintro e w3' ⟨rfl, A', hA', rfl⟩
    obtain rfl := hA' (by have := HM.out; omega)
    clear hA'
    have t3 := t2.far hz 0 (.slice (some ⟨b, o + 2, none⟩) (m - 2) (cap - 2))
    have hg3 : (w2.setCell ⟨g, 0, none⟩ (.slice (some ⟨b, o + 2, none⟩) (m - 2) (cap - 2))).heap[g]? = some (.cells #[.slice (some ⟨b, o + 2, none⟩) (m - 2) (cap - 2)] 34 (0, 0)) := box_set hg2.out 0 _
    have hc3 := (t3.bel.cell (p := ⟨b, o + 1, none⟩) hbB).trans HC1.out
    clear t2 hg2
    generalize w2.setCell ⟨g, 0, none⟩ (.slice (some ⟨b, o + 2, none⟩) (m - 2) (cap - 2)) = w3 at *
    have HG3 := Lib.hid hg3
    clear hg3
    obtain ⟨d0, d1, d2, d3, d4⟩ := t3.c4
    obtain ⟨r0, r1, r2, r3, r4, r5, r6⟩ := t3.r6
    go_wp2_with fail
    refine (take_at b (o + 2) (m - 2) (cap - 2) (2 * n) g _ (by omega) _ HG3.out (by omega) (by have := HM.out; omega) (by omega)).mono ?_
    rintro e w4' ⟨rfl, A', _, rfl⟩
    have t4 := t3.far hz 0 (.slice A' (m - 2 - 2 * n) (cap - 2 - 2 * n))
    have hz4 := t4.lt
    have HR4 := Lib.hid (((HR.out.drop 2).tb t4).more (Nat.le_of_lt (Nat.lt_of_succ_lt hz4)))
    clear t3 hc3 d0 d1 d2 d3 d4 r0 r1 r2 r3 r4 r5 r6 HG3
    generalize w3.setCell ⟨g, 0, none⟩ (.slice A' (m - 2 - 2 * n) (cap - 2 - 2 * n)) = w4 at *
    go_wp2_with fail
    refine (Words_ok _ (2 * n) (cap - 2) n (ys.drop 2) _ HR4.out (by rw [List.length_drop, HY.out, HM.out]; omega) (by have := HM.out; omega) (by omega) rfl).mono ?_
    rintro e w5' ⟨rfl, rfl⟩
    have t5 := t4.alloc (.cells (blk .u16 (wwords (ys.drop 2))) 32)
    have hn5 := Lib.hid (heap_alloc_new w4 (.cells (blk .u16 (wwords (ys.drop 2))) 32))
    clear t4 HR4
    generalize w4.heap.size = g5 at *
    generalize w4.alloc (.cells (blk .u16 (wwords (ys.drop 2))) 32) = w5 at *
    have P5 := Lib.hid (t5.put4 (.int .i64 0) (.slice none 0 0) (.slice (some ⟨g5, 0, none⟩) n n) (.slice none 0 0))
    have P6 := Lib.hid ((put4_other (w := w5) (g := w.heap.size + 1) (j := g5) (by omega) (.int .i64 0) (.slice none 0 0) (.slice (some ⟨g5, 0, none⟩) n n) (.slice none 0 0)).trans hn5.out)
    obtain ⟨d0, d1, d2, d3, d4⟩ := t5.c4
    go_wp2
    (try simp only [Exit.inBlock, Exit.then])
    show bodyPost _ _ _ _ _ (put4 (w5) (w.heap.size + 1) (.int .i64 0) (.slice none 0 0) (.slice (some ⟨g5, 0, none⟩) n n) (.slice none 0 0))
    generalize put4 (w5) (w.heap.size + 1) (.int .i64 0) (.slice none 0 0) (.slice (some ⟨g5, 0, none⟩) n n) (.slice none 0 0) = w6 at *
    obtain ⟨x0, x1, x2, x3⟩ := cells4 P5.out.1
    refine bodyPost_ret (v := .tuple #[.agg #[.int .i64 0, .slice none 0 0, .slice (some ⟨g5, 0, none⟩) n n, .slice none 0 0], .bool true]) (by simp [results, Tryz.results71, go_sem, x0, x1, x2, x3]) rfl ?_
    exact ⟨g5, by omega, rfl, P6.out, P5.out.2⟩
end Go.Proofs.YtobhllcnljggiaaGreat
namespace Go.Proofs.YtobhllcnljggiaaGreat
open Go.RowKit
set_option linter.unusedVariables false

theorem Bits_row (A : Option Addr) (n c z : Nat) (bs : List Bool) (W : World) (hz : W.heap.size = z) (hr : L.Row () W z A bs) (hn : bs.length = n) (hb : n ≤ 1000000) :
    Calls Tryz.prog 80 #[.slice A n c] W fun e w' => e = .returned (.slice (some ⟨z, 0, none⟩) (need n) (need n)) ∧ w'.heap[z]? = some (.cells (blk .u8 (pk bs (need n))) 5 (0, 0)) ∧ Below z W w' := by
  subst hz; exact Bits_any A n c bs W hr hn hb

set_option maxHeartbeats 1000000 in
set_option maxRecDepth 100000 in
theorem rpForm_bits (q : Req) (r : Rep) (Ao As Ap Bo Bs Bf : Option Addr) (lo ls lp co cs cp mo ms mf eo es ef : Nat) (w : World) (h : Asked w w.heap.size q Ao As Ap lo ls lp) (hr : Repd w w.heap.size r Bo Bs Bf mo ms mf) (hc : q.c = 1 ∨ q.c = 2) (hm : mo ≤ 2000) :
    Calls Tryz.prog 47 #[.agg #[.int .i64 q.c, .int .i64 q.a, .int .i64 q.n, .slice Ao lo co, .slice As ls cs, .slice Ap lp cp], .agg #[.int .i64 r.x, .slice Bo mo eo, .slice Bs ms es, .slice Bf mf ef]] w (Makes .u8 5 w (q.c :: ((need mo : Nat) : Int) :: pk r.on (need mo))) := by
  obtain ⟨c, a, n, on, set, fl⟩ := q
  simp only at *
  have t0 := TB.new2 w #[.int .i64 c, .int .i64 a, .int .i64 n, .slice Ao lo co, .slice As ls cs, .slice Ap lp cp] #[.int .i64 r.x, .slice Bo mo eo, .slice Bs ms es, .slice Bf mf ef] 26 29
  have HSET := Lib.hid hr.on
  have HMS := Lib.hid hr.mo
  obtain ⟨m2, hm2⟩ : ∃ m2, need mo = m2 := ⟨_, rfl⟩
  have hm3 : m2 ≤ 255 := by rw [← hm2]; unfold need; omega
  have HM2 := Lib.hid hm2
  rw [hm2]
  have HWL : Hid ((pk r.on m2).length = m2) := Lib.hid (pk_length _ _)
  clear h hr hm2
  rcases hc with rfl | rfl
  · go_enter Tryz.func47, Tryz.ntmps47
    go_wp2_with fail
    go_region_held3 (fun w' => TB w w.heap.size (.cells #[.int .i64 1, .int .i64 a, .int .i64 n, .slice Ao lo co, .slice As ls cs, .slice Ap lp cp] 26 (0, 0)) (.cells #[.int .i64 r.x, .slice Bo mo eo, .slice Bs ms es, .slice Bf mf ef] 29 (0, 0)) w' ∧ w'.cell? ⟨w.heap.size, 0, none⟩ = some (.int .i64 1) ∧ w'.cell? ⟨w.heap.size + 1, 0, none⟩ = some (.int .i64 r.x) ∧ w'.cell? ⟨w.heap.size + 1, 1, none⟩ = some (.slice Bo mo eo) ∧ w'.cell? ⟨w.heap.size + 1, 2, none⟩ = some (.slice Bs ms es) ∧ w'.cell? ⟨w.heap.size + 1, 3, none⟩ = some (.slice Bf mf ef))
      ((first
        | exact ⟨t0.drew, t0.drew.r6.1, t0.drew.c4.1, t0.drew.c4.2.1, t0.drew.c4.2.2.1, t0.drew.c4.2.2.2.1⟩
        | exact ⟨t2, t2.r6.1, t2.c4.1, t2.c4.2.1, t2.c4.2.2.1, t2.c4.2.2.2.1⟩
        | exact ⟨t1, t1.r6.1, t1.c4.1, t1.c4.2.1, t1.c4.2.2.1, t1.c4.2.2.2.1⟩))
      (first
        | (go_at_call 80; refine (Bits_row Bo mo eo (w.heap.size + 1 + 1) r.on _ (by simp) ((HSET.out.below t0.drew.bel).more (by omega)) HMS.out (by omega)).mono ?_; rw [HM2.out]; rintro e w1 ⟨rfl, g1, b1⟩; have t1 := t0.drew.below2 b1 (by omega); have hg1 := block_lt g1)
        | (go_at_call 79; refine (rpCounted_any _ _ m2 m2 (pk r.on m2) _ ((Row.of_block g1 (pk r.on m2) (pk_wf _ _) (List.prefix_refl _)).more hg1) HWL.out hm3 (by omega)).mono ?_; rintro e w2 ⟨v2, rfl, own2, b2⟩; have t2 := t1.below b2))
    go_wp2
    go_ret
    exact ⟨_, rfl, own2.mono (by have := t1.lt; omega), t2.bel⟩
  · go_enter Tryz.func47, Tryz.ntmps47
    go_wp2_with fail
    go_region_held3 (fun w' => TB w w.heap.size (.cells #[.int .i64 2, .int .i64 a, .int .i64 n, .slice Ao lo co, .slice As ls cs, .slice Ap lp cp] 26 (0, 0)) (.cells #[.int .i64 r.x, .slice Bo mo eo, .slice Bs ms es, .slice Bf mf ef] 29 (0, 0)) w' ∧ w'.cell? ⟨w.heap.size, 0, none⟩ = some (.int .i64 2) ∧ w'.cell? ⟨w.heap.size + 1, 0, none⟩ = some (.int .i64 r.x) ∧ w'.cell? ⟨w.heap.size + 1, 1, none⟩ = some (.slice Bo mo eo) ∧ w'.cell? ⟨w.heap.size + 1, 2, none⟩ = some (.slice Bs ms es) ∧ w'.cell? ⟨w.heap.size + 1, 3, none⟩ = some (.slice Bf mf ef))
      ((first
        | exact ⟨t0.drew, t0.drew.r6.1, t0.drew.c4.1, t0.drew.c4.2.1, t0.drew.c4.2.2.1, t0.drew.c4.2.2.2.1⟩
        | exact ⟨t2, t2.r6.1, t2.c4.1, t2.c4.2.1, t2.c4.2.2.1, t2.c4.2.2.2.1⟩
        | exact ⟨t1, t1.r6.1, t1.c4.1, t1.c4.2.1, t1.c4.2.2.1, t1.c4.2.2.2.1⟩))
      (first
        | (go_at_call 80; refine (Bits_row Bo mo eo (w.heap.size + 1 + 1) r.on _ (by simp) ((HSET.out.below t0.drew.bel).more (by omega)) HMS.out (by omega)).mono ?_; rw [HM2.out]; rintro e w1 ⟨rfl, g1, b1⟩; have t1 := t0.drew.below2 b1 (by omega); have hg1 := block_lt g1)
        | (go_at_call 79; refine (rpCounted_any _ _ m2 m2 (pk r.on m2) _ ((Row.of_block g1 (pk r.on m2) (pk_wf _ _) (List.prefix_refl _)).more hg1) HWL.out hm3 (by omega)).mono ?_; rintro e w2 ⟨v2, rfl, own2, b2⟩; have t2 := t1.below b2))
    go_wp2
    go_ret
    exact ⟨_, rfl, own2.mono (by have := t1.lt; omega), t2.bel⟩
end Go.Proofs.YtobhllcnljggiaaGreat
namespace Go.Proofs.YtobhllcnljggiaaGreat
open Go.RowKit
set_option linter.unusedVariables false

theorem Bx.four {w0 w : World} {g : Nat} {t : TypeId} {v0 v1 v2 v3 : Value} (h : Bx w0 g (.cells #[v0, v1, v2, v3] t (0, 0)) w) :
    w.cell? ⟨g, 0, none⟩ = some v0 ∧ w.cell? ⟨g, 1, none⟩ = some v1 ∧ w.cell? ⟨g, 2, none⟩ = some v2 ∧ w.cell? ⟨g, 3, none⟩ = some v3 :=
  ⟨cell_of_row w g 0 _ _ _ h.1, cell_of_row w g 1 _ _ _ h.1, cell_of_row w g 2 _ _ _ h.1, cell_of_row w g 3 _ _ _ h.1⟩

theorem TB.ten {w0 w : World} {B : Nat} {t t' : TypeId} {u0 u1 u2 u3 u4 u5 v0 v1 v2 v3 : Value} (h : TB w0 B (.cells #[u0, u1, u2, u3, u4, u5] t (0, 0)) (.cells #[v0, v1, v2, v3] t' (0, 0)) w) :
    w.cell? ⟨B, 0, none⟩ = some u0 ∧ w.cell? ⟨B, 1, none⟩ = some u1 ∧ w.cell? ⟨B, 2, none⟩ = some u2 ∧ w.cell? ⟨B, 3, none⟩ = some u3 ∧ w.cell? ⟨B, 4, none⟩ = some u4 ∧ w.cell? ⟨B, 5, none⟩ = some u5 ∧
    w.cell? ⟨B + 1, 0, none⟩ = some v0 ∧ w.cell? ⟨B + 1, 1, none⟩ = some v1 ∧ w.cell? ⟨B + 1, 2, none⟩ = some v2 ∧ w.cell? ⟨B + 1, 3, none⟩ = some v3 :=
  ⟨h.r6.1, h.r6.2.1, h.r6.2.2.1, h.r6.2.2.2.1, h.r6.2.2.2.2.1, h.r6.2.2.2.2.2.1, h.c4.1, h.c4.2.1, h.c4.2.2.1, h.c4.2.2.2.1⟩

/-- The lengths of the first k lists, each as 70000 at most. -/
def sumMin (fs : List (List Int)) : Nat → Nat
  | 0 => 0
  | k + 1 => sumMin fs k + min (nthF fs k).length 70000
theorem sumMin_le (fs : List (List Int)) (k j : Nat) : sumMin fs k ≤ sumMin fs (k + j) := by
  induction j with
  | zero => exact Nat.le_refl _
  | succ j ih => exact Nat.le_trans ih (by rw [Nat.add_succ, sumMin]; omega)
/-- Has an answer longer lists than a statement goes through? -/
def longR (mo ms mf : Nat) (fs : List (List Int)) : Bool := decide (70000 < mo ∨ 70000 < ms ∨ 1000 < mf ∨ 70000 < sumMin fs mf)
def longA (lo ls lp : Nat) : Bool := decide (70000 < lo ∨ 70000 < ls ∨ 70000 < lp)

set_option maxHeartbeats 1000000 in
theorem LongReply_any (r : Rep) (Bo Bs Bf : Option Addr) (mo ms mf eo es ef : Nat) (w : World) (hr : Repd w w.heap.size r Bo Bs Bf mo ms mf) :
    Calls Tryz.prog 34 #[.agg #[.int .i64 r.x, .slice Bo mo eo, .slice Bs ms es, .slice Bf mf ef]] w fun e w' => e = .returned (.bool (longR mo ms mf r.fs)) ∧ Below w.heap.size w w' := by
  have bx := Bx.new w (.cells #[.int .i64 r.x, .slice Bo mo eo, .slice Bs ms es, .slice Bf mf ef] 29)
  have HF := Lib.hid hr.fs
  have HMF := Lib.hid hr.mf
  clear hr
  obtain ⟨v, hv⟩ : ∃ v, Hid (longR mo ms mf r.fs = v) := ⟨_, Lib.hid rfl⟩
  rw [hv.out]
  by_cases h1 : 70000 < mo
  · have h1' : (70000 : Int) < (mo : Int) := by omega
    have HVT : Hid (v = true) := Lib.hid (by rw [← hv.out]; exact decide_eq_true (by omega))
    go_enter Tryz.func34, Tryz.ntmps34
    go_wp2
    go_ret
    exact ⟨by rw [HVT.out]; rfl, bx.2⟩
  have h1' : ¬ (70000 : Int) < (mo : Int) := by omega
  by_cases h2 : 70000 < ms
  · have h2' : (70000 : Int) < (ms : Int) := by omega
    have HVT : Hid (v = true) := Lib.hid (by rw [← hv.out]; exact decide_eq_true (by omega))
    go_enter Tryz.func34, Tryz.ntmps34
    go_wp2
    go_ret
    exact ⟨by rw [HVT.out]; rfl, bx.2⟩
  have h2' : ¬ (70000 : Int) < (ms : Int) := by omega
  by_cases h3 : 1000 < mf
  · have h3' : (1000 : Int) < (mf : Int) := by omega
    have HVT : Hid (v = true) := Lib.hid (by rw [← hv.out]; exact decide_eq_true (by omega))
    go_enter Tryz.func34, Tryz.ntmps34
    go_wp2
    go_ret
    exact ⟨by rw [HVT.out]; rfl, bx.2⟩
  have h3' : ¬ (1000 : Int) < (mf : Int) := by omega
  have HVS : Hid (v = decide (70000 < sumMin r.fs mf)) := Lib.hid (by rw [← hv.out]; unfold longR; congr 1; rw [eq_iff_iff]; omega)
  go_enter Tryz.func34, Tryz.ntmps34
  go_wp2
  go_loopw [3, 4] (fun n i wr => ∃ k s : Nat, k ≤ mf ∧ i = .int .i64 k ∧ n = .int .i64 s ∧ s ≤ 70000 ∧ Hid (sumMin r.fs k = s) ∧ Bx w w.heap.size (.cells #[.int .i64 r.x, .slice Bo mo eo, .slice Bs ms es, .slice Bf mf ef] 29 (0, 0)) wr) (fun _ i _ => mf - (intOf i).toNat)
  case atStart => exact ⟨0, 0, by omega, rfl, rfl, by omega, Lib.hid rfl, bx⟩
  case round =>
    clear bx
    obtain ⟨k, s, hk, rfl, rfl, hs, hsum, bx⟩ := hrel
    obtain ⟨d0, d1, d2, d3⟩ := bx.four
    by_cases hlt : k < mf
    · obtain ⟨b, o, hA, hb, hc⟩ := HF.out (by have := HMF.out; omega)
      obtain ⟨Ai, ci, hci, _, _⟩ := hc k (by have := HMF.out; omega)
      subst hA
      obtain ⟨z, hz⟩ : ∃ z, (nthF r.fs k).length = z := ⟨_, rfl⟩
      have HZ := Lib.hid hz
      rw [hz] at hci
      have hci2 := (bx.2.cell (p := ⟨b, o + k, none⟩) hb).trans hci
      clear hci hc hz
      by_cases hz7 : z ≤ 70000
      · have hz8 : (z : Int) ≤ 70000 := by omega
        have ea : IntKind.i64.wrap ((s : Int) + (z : Int)) = (s : Int) + (z : Int) := IntWalk.i64_in _ (by omega)
        by_cases hgt : 70000 < s + z
        · have hgt' : (70000 : Int) < (s : Int) + (z : Int) := by omega
          have HVT : Hid (v = true) := Lib.hid (by
            rw [HVS.out]
            refine decide_eq_true ?_
            have h5 := sumMin_le r.fs (k + 1) (mf - (k + 1))
            rw [show k + 1 + (mf - (k + 1)) = mf by omega, sumMin, hsum.out, HZ.out] at h5
            omega)
          go_wp2
          go_ret
          exact ⟨by rw [HVT.out]; rfl, bx.2⟩
        · have hgt' : ¬ (70000 : Int) < (s : Int) + (z : Int) := by omega
          go_wp2
          go_roundw
          case rel => exact ⟨k + 1, s + z, by omega, by go_num, by first | rfl | go_num | (congr 1; omega), by omega, Lib.hid (by rw [sumMin, hsum.out, HZ.out]; omega), bx⟩
          case measure => simp [intOf]; omega
      · have hz8 : ¬ (z : Int) ≤ 70000 := by omega
        have ea : IntKind.i64.wrap ((s : Int) + 70000) = (s : Int) + 70000 := IntWalk.i64_in _ (by omega)
        by_cases hgt : 70000 < s + 70000
        · have hgt' : (70000 : Int) < (s : Int) + 70000 := by omega
          have HVT : Hid (v = true) := Lib.hid (by
            rw [HVS.out]
            refine decide_eq_true ?_
            have h5 := sumMin_le r.fs (k + 1) (mf - (k + 1))
            rw [show k + 1 + (mf - (k + 1)) = mf by omega, sumMin, hsum.out, HZ.out] at h5
            omega)
          go_wp2
          go_ret
          exact ⟨by rw [HVT.out]; rfl, bx.2⟩
        · have hgt' : ¬ (70000 : Int) < (s : Int) + 70000 := by omega
          go_wp2
          go_roundw
          case rel => exact ⟨k + 1, s + 70000, by omega, by go_num, by first | rfl | go_num | (congr 1; omega), by omega, Lib.hid (by rw [sumMin, hsum.out, HZ.out]; omega), bx⟩
          case measure => simp [intOf]; omega
    · obtain rfl : k = mf := by omega
      have HVF : Hid (v = false) := Lib.hid (by rw [HVS.out, hsum.out]; exact decide_eq_false (by omega))
      go_wp2
      go_ret
      exact ⟨by rw [HVF.out]; rfl, bx.2⟩

set_option maxHeartbeats 1000000 in
theorem long_any (q : Req) (r : Rep) (Ao As Ap Bo Bs Bf : Option Addr) (lo ls lp co cs cp mo ms mf eo es ef : Nat) (w : World) (hr : Repd w w.heap.size r Bo Bs Bf mo ms mf) :
    Calls Tryz.prog 14 #[.agg #[.int .i64 q.c, .int .i64 q.a, .int .i64 q.n, .slice Ao lo co, .slice As ls cs, .slice Ap lp cp], .agg #[.int .i64 r.x, .slice Bo mo eo, .slice Bs ms es, .slice Bf mf ef]] w fun e w' => e = .returned (.bool (longA lo ls lp || longR mo ms mf r.fs)) ∧ Below w.heap.size w w' := by
  have t0 := TB.new2 w #[.int .i64 q.c, .int .i64 q.a, .int .i64 q.n, .slice Ao lo co, .slice As ls cs, .slice Ap lp cp] #[.int .i64 r.x, .slice Bo mo eo, .slice Bs ms es, .slice Bf mf ef] 26 29
  have HR := Lib.hid ((hr.below t0.bel).more t0.bel.size)
  clear hr
  by_cases hlong : 70000 < lo ∨ 70000 < ls ∨ 70000 < lp
  · have hlong' := Lib.hid hlong
    have HV : Hid ((longA lo ls lp || longR mo ms mf r.fs) = true) := Lib.hid (by rw [longA, decide_eq_true hlong]; rfl)
    rw [HV.out]
    clear hlong
    go_enter Tryz.func14, Tryz.ntmps14
    go_wp2_with fail
    refine (LongAsk_yes q.c q.a q.n Ao As Ap lo co ls cs lp cp _ hlong'.out).mono ?_
    rintro e w1 ⟨rfl, b1⟩
    have t1 := t0.below b1
    go_wp2
    go_ret
    exact ⟨rfl, t1.bel⟩
  have HL := Lib.hid (show lo ≤ 70000 ∧ ls ≤ 70000 ∧ lp ≤ 70000 by omega)
  have HV : Hid ((longA lo ls lp || longR mo ms mf r.fs) = longR mo ms mf r.fs) := Lib.hid (by rw [longA, decide_eq_false hlong]; rfl)
  rw [HV.out]
  obtain ⟨v, hv⟩ : ∃ v, Hid (longR mo ms mf r.fs = v) := ⟨_, Lib.hid rfl⟩
  rw [hv.out]
  clear hlong
  go_enter Tryz.func14, Tryz.ntmps14
  go_wp2_with fail
  refine (LongAsk_no q.c q.a q.n Ao As Ap lo co ls cs lp cp _ HL.out.1 HL.out.2.1 HL.out.2.2).mono ?_
  rintro e w1 ⟨rfl, b1⟩
  have t1 := t0.below b1
  have HR1 := Lib.hid (HR.out.up b1)
  clear t0 b1 HR
  obtain ⟨d0, d1, d2, d3, d4⟩ := t1.c4
  go_wp2_with fail
  refine (LongReply_any r Bo Bs Bf mo ms mf eo es ef _ HR1.out).mono ?_
  rintro e w2 ⟨rfl, b2⟩
  rw [hv.out]
  have t2 := t1.below b2
  clear b2 t1 d0 d1 d2 d3 d4
  go_wp2
  go_ret
  exact ⟨rfl, t2.bel⟩
end Go.Proofs.YtobhllcnljggiaaGreat
namespace Go.Proofs.YtobhllcnljggiaaGreat
open Go.RowKit
set_option linter.unusedVariables false

theorem FRow.at_ {w : World} {B : Nat} {A : Option Addr} {fs : List (List Int)} (h : FRow w B A fs) {i : Nat} (hi : i < fs.length) :
    ∃ b o Ai ci, A = some ⟨b, o, none⟩ ∧ b < B ∧ w.cell? ⟨b, o + i, none⟩ = some (.slice Ai (nthF fs i).length ci) ∧ Row .u16 w B Ai (nthF fs i) ∧ (nthF fs i).length ≤ ci := by
  obtain ⟨b, o, hA, hb, hc⟩ := h (by omega)
  obtain ⟨Ai, ci, h1, h2, h3⟩ := hc i hi
  exact ⟨b, o, Ai, ci, hA, hb, h1, h2, h3⟩
theorem FRow.drewN {w : World} {B : Nat} {A : Option Addr} {fs : List (List Int)} (h : FRow w B A fs) (n : Nat) : FRow (w.drewN n) B A fs := h

set_option maxHeartbeats 1000000 in
theorem SameFiles_yes (A A' : Option Addr) (n c c' : Nat) (fs : List (List Int)) (w : World) (B B' : Nat) (hr : FRow w B A fs) (hr' : FRow w B' A' fs) (hn : fs.length = n) (hb : n ≤ 1000000) (hl : ∀ i, i < n → (nthF fs i).length ≤ 70368744177664) :
    Calls Tryz.prog 56 #[.slice A n c, .slice A' n c'] w fun e w' => e = .returned (.bool true) ∧ ∃ m, w' = w.drewN m := by
  have HR := Lib.hid hr
  have HR' := Lib.hid hr'
  have HN := Lib.hid hn
  have HL := Lib.hid hl
  have t0 : ((n : Int) != (n : Int)) = false := by simp
  clear hr hr' hn hl
  go_enter Tryz.func56, Tryz.ntmps56
  go_wp2
  go_loopw [5] (fun i wr => ∃ k m : Nat, k ≤ n ∧ i = .int .i64 k ∧ wr = w.drewN m) (fun i _ => n - (intOf i).toNat)
  case atStart => exact ⟨0, 0, by omega, rfl, rfl⟩
  case round =>
    obtain ⟨k, m, hk, rfl, hw0⟩ := hrel
    have HW := Lib.hid hw0
    have HRw := Lib.hid (show FRow wr B A fs by rw [hw0]; exact HR.out.drewN m)
    have HRw' := Lib.hid (show FRow wr B' A' fs by rw [hw0]; exact HR'.out.drewN m)
    clear hw0
    by_cases hlt : k < n
    · obtain ⟨b, o, Ai, ci, rfl, hb1, hc1, r1, _⟩ := HRw.out.at_ (i := k) (by have := HN.out; omega)
      obtain ⟨b', o', Ai', ci', rfl, hb1', hc1', r1', _⟩ := HRw'.out.at_ (i := k) (by have := HN.out; omega)
      have hlen := HL.out k hlt
      obtain ⟨xs, hxs⟩ : ∃ xs, nthF fs k = xs := ⟨_, rfl⟩
      rw [hxs] at hc1 hc1' r1 r1' hlen
      obtain ⟨z, hz⟩ : ∃ z, Hid (xs.length = z) := ⟨_, Lib.hid rfl⟩
      rw [hz.out] at hc1 hc1' hlen
      clear hxs
      have HS : Hid (∀ p, Calls Tryz.prog 55 #[.slice Ai z ci, .slice Ai' z ci'] (wr.drewN p) fun e w' => e = .returned (.bool true) ∧ ∃ n, w' = (wr.drewN p).drewN n) := Lib.hid (fun p => W.same_yes_u16 _ _ _ _ _ xs _ _ _ (r1.drewN p) (r1'.drewN p) hz.out hlen)
      go_wp2_with fail
      go_quiet ((go_at_call 55; refine Calls.quiet_of (HS.out _)))
      go_wp2
      go_roundw
      case rel => exact ⟨k + 1, m + nq, by omega, by go_num, by rw [HW.out, World.drewN_drewN]⟩
      case measure => simp [intOf]; omega
    · obtain rfl : k = n := by omega
      go_wp2
      go_ret
      exact ⟨rfl, m, HW.out⟩
end Go.Proofs.YtobhllcnljggiaaGreat
namespace Go.Proofs.YtobhllcnljggiaaGreat
open Go.RowKit
set_option linter.unusedVariables false

theorem Own.front {k : IntKind} {e : TypeId} {w : World} {base n c m : Nat} {A : Option Addr} {xs : List Int} (h : Own k e w base (.slice A n c) xs) (hm : m ≤ xs.length) : Own k e w base (.slice A m c) (xs.take m) := by
  rcases h with ⟨h0, ⟨hv, hl⟩ | ⟨g, cap, cur, hv, h1, h2, h3, h4, h5, h6⟩⟩
  · have hx : xs = [] := List.eq_nil_of_length_eq_zero hl
    subst hx
    obtain rfl : m = 0 := by simpa using hm
    injection hv with a b c'
    subst a c'
    exact ⟨by simp, .inl ⟨rfl, rfl⟩⟩
  · injection hv with a b c'
    subst a c'
    refine ⟨by simp, .inr ⟨g, c, cur, ?_, h1, h2, ?_, h4, h5, ?_⟩⟩
    · simp [Nat.min_eq_left hm]
    · simp [Nat.min_eq_left hm]; omega
    · simp only [Nat.mul_one] at h6 ⊢
      have hlen : (xs.take m).length = m := by simp [Nat.min_eq_left hm]
      rw [hlen, List.map_take, ← h6, List.take_take, Nat.min_eq_left hm]

set_option maxHeartbeats 1000000 in
/-- The first five bytes of a request that is right. -/
theorem echo_any (q : Req) (Ao As Ap : Option Addr) (lo ls lp co cs cp : Nat) (w : World) (h : Asked w w.heap.size q Ao As Ap lo ls lp) (hk : chkQ q = 0) (h5 : 5 ≤ (putL q).length) :
    Calls Tryz.prog 83 #[.agg #[.int .i64 q.c, .int .i64 q.a, .int .i64 q.n, .slice Ao lo co, .slice As ls cs, .slice Ap lp cp]] w (Makes .u8 5 w ((putL q).take 5)) := by
  have bx := Bx.new w (.cells #[.int .i64 q.c, .int .i64 q.a, .int .i64 q.n, .slice Ao lo co, .slice As ls cs, .slice Ap lp cp] 26)
  have HP := Lib.hid (Put_any q Ao As Ap lo ls lp co cs cp _ (h.upAlloc (.cells #[.int .i64 q.c, .int .i64 q.a, .int .i64 q.n, .slice Ao lo co, .slice As ls cs, .slice Ap lp cp] 26)))
  rw [hk] at HP
  have H5 := Lib.hid h5
  clear h hk h5
  go_enter Tryz.func83, Tryz.ntmps83
  go_wp2_with fail
  refine HP.out.mono ?_
  rintro e w1 ⟨v1, rfl, own1, b1⟩
  obtain ⟨A1, c1, rfl, _, hle, _⟩ := own1.row (putL_wf q)
  have OW := Lib.hid ((own1.front H5.out).mono (base' := w.heap.size) (by simp))
  have bel := (bx.below b1).2
  obtain ⟨n1, hn1⟩ : ∃ n, (putL q).length = n := ⟨_, rfl⟩
  rw [hn1] at hle
  rw [hn1]
  have hc5 : (5 : Int) ≤ (c1 : Int) := by have := H5.out; omega
  clear own1 b1 bx hn1 HP
  go_wp2
  go_ret
  exact ⟨_, rfl, OW.out, bel⟩
end Go.Proofs.YtobhllcnljggiaaGreat
namespace Go.Proofs.YtobhllcnljggiaaGreat
open Go.RowKit
set_option linter.unusedVariables false
theorem own_form {k : IntKind} {e : TypeId} {w : World} {base : Nat} {v : Value} {xs : List Int} (h : Own k e w base v xs) : ∃ A n c, v = .slice A n c := by
  rcases h.2 with ⟨rfl, _⟩ | ⟨g, cap, cur, rfl, _⟩
  · exact ⟨_, _, _, rfl⟩
  · exact ⟨_, _, _, rfl⟩

end Go.Proofs.YtobhllcnljggiaaGreat
