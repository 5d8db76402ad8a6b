/-
  Contract of the document's Put: bits, words, parts; and of any request.
-/
import Derived.Test.YtojjcmkadmofdaaAskRef3
namespace Go.Proofs.Ytojjcmkadmofdaa
open Go.RowKit
set_option linter.unusedVariables false

set_option maxHeartbeats 1000000 in
set_option maxRecDepth 100000 in
theorem refPut_bits (c a n : Int) (on : List Bool) (set fl : List Int) (Ao As Ap : Option Addr) (lo ls lp co cs cp : Nat) (w : World) (h : Asked w w.heap.size ⟨c, a, n, on, set, fl⟩ Ao As Ap lo ls lp) (hk : chkQ ⟨c, a, n, on, set, fl⟩ = 0) (hc : c = 15) :
    Calls Try.prog 15 #[.agg #[.int .i64 c, .int .i64 a, .int .i64 n, .slice Ao lo co, .slice As ls cs, .slice Ap lp cp]] w (Makes2 w (pduQ ⟨c, a, n, on, set, fl⟩)) := by
  obtain ⟨hmm, hst, ha, hmany, hparts, hend⟩ := chk_zero hk
  simp only at hmm hst ha hmany hparts hend
  subst hc
  have H0 := Lib.hid h
  have hx0 := Bx.new w (.cells #[.int .i64 15, .int .i64 a, .int .i64 n, .slice Ao lo co, .slice As ls cs, .slice Ap lp cp] 26)
  have HC := Lib.hid (refCheck_any ⟨15, a, n, on, set, fl⟩ Ao As Ap lo ls lp co cs cp _ (h.upAlloc (.cells #[.int .i64 15, .int .i64 a, .int .i64 n, .slice Ao lo co, .slice As ls cs, .slice Ap lp cp] 26)))
  rw [chkQ_of h, hk] at HC
  have hl : lo ≤ 1968 := by have h1 := H0.out.lo; have h2 : 1 ≤ (on.length : Int) ∧ (on.length : Int) ≤ 1968 := hmany; simp only at h1; omega
  have hd2 : need lo ≤ 246 := by unfold need; omega
  obtain ⟨d, hd⟩ : ∃ d, Hid (need lo = d) := ⟨_, Lib.hid rfl⟩
  have HL : Hid (pduQ ⟨15, a, n, on, set, fl⟩ = (([15] ++ wbytes [a]) ++ wbytes [(lo : Int)] ++ [(d : Int)]) ++ pk on d) := Lib.hid (by
    have e : pduQ ⟨15, a, n, on, set, fl⟩ = 15 :: (wbytes [a, (on.length : Int)] ++ ((need on.length : Nat) : Int) :: pk on (need on.length)) := rfl
    have h1 := H0.out.lo
    simp only at h1
    rw [e, h1, hd.out, wbytes_cons a]; simp)
  have HD : Hid (pk on (need lo) = pk on d) := Lib.hid (by rw [hd.out])
  rw [hd.out] at hd2
  have hwf := Lib.hid (pk_wf on d)
  have hpl := Lib.hid (pk_length on d)
  have e1 : IntKind.u8.wrap (d : Int) = (d : Int) := by rw [IntKind.wrap_u8]; omega
  rw [HL.out]
  clear h hk hst hmany hparts hend hmm
  go_enter Try.func15, Try.ntmps15
  go_wp2_with fail
  refine HC.out.mono ?_
  rintro e w1 ⟨rfl, b1⟩
  have h9 := hx0.below b1
  have hz1 := h9.lt
  clear b1 hx0 HC
  obtain ⟨d0, d1, d2, d3, d4, d5⟩ := h9.six
  go_wp2_with fail
  clear d0 d1 d2 d3 d4 d5
  refine (refTwo_any _ [15] a (w.heap.size + 1) _ (by exact Own.laid (l := [15]) (heap_alloc_new w1 _) hz1 rfl (by simp [maxLen])) ha (by simp) (by simp; omega)).mono ?_
  rintro e w2 ⟨v2, rfl, own2, g2, _⟩
  have h10 := (h9.alloc (.cells #[.int .u8 15] 5)).grown g2 (by simp [Value.ownBlock]; omega)
  have hz2 := h10.lt
  clear g2 h9
  obtain ⟨d0, d1, d2, d3, d4, d5⟩ := h10.six
  go_wp2_with fail
  clear d0 d1 d2 d3 d4 d5
  have hP := Packed_any Ao lo co on w2 ((H0.out.on.below h10.2).more (Nat.le_of_lt hz2)) H0.out.lo (by omega)
  rw [HD.out, hd.out] at hP
  refine hP.mono ?_
  rintro e w3 ⟨rfl, g3, b3⟩
  have own3 := own2.below b3 (Nat.le_refl _)
  have ob2 := Lib.hid own2.block
  have h11 := h10.below b3
  have hz3 := b3.size
  have hlt3 := block_lt g3
  have G3 := Lib.hid g3
  clear hP own2 h10 b3 g3
  obtain ⟨d0, d1, d2, d3, d4, d5⟩ := h11.six
  go_wp2_with fail
  clear d0 d1 d2 d3 d4 d5
  refine (refTwo_any v2 ([15] ++ wbytes [a]) (lo : Int) (w.heap.size + 1) _ own3 (by omega) (by rw [List.length_append, wbytes_length]; simp) (by omega)).mono ?_
  rintro e w4 ⟨v4, rfl, own4, g4, at4⟩
  have h12 := h11.grown g4 (fun k e => by have := (own3.block k e).1; omega)
  have G4 := Lib.hid ((g4.block w2.heap.size hlt3 (fun e => by have := (ob2.out _ e.symm).2; omega)).trans G3.out)
  have hv4 := Lib.hid (fun (g : Nat) (hg : v4.ownBlock = some g) => show g ≠ w2.heap.size from by
    rcases at4 g hg with h | h
    · have := (ob2.out _ h).2; omega
    · omega)
  have hz4 := h12.lt
  have hlt4 : w2.heap.size < w4.heap.size := block_lt G4.out
  have L4 : Hid (([15] ++ wbytes [a] ++ wbytes [(lo : Int)]).length = 5) := Lib.hid (by simp [wbytes_length])
  clear own3 h11 G3 g4 at4 hlt3 ob2 hz3
  go_wp2_with (first
    | (at_builtin; refine wpList_append_row2 _ rfl (.tmp 99) (.tmp 103) 32 rfl (w.heap.size + 1) .u8 5 1 Try.underlying32 info_u8 v4 ([15] ++ wbytes [a] ++ wbytes [(lo : Int)]) rfl (own4.alloc _) _ _ 1 1 [(d : Int)] rfl (Row.one_at .u8 _ 5 (d : Int) (wf_byte d (by omega)) rfl) rfl (by rw [L4.out]; omega) (by rw [L4.out]; simp [maxLen]) (by simp; omega) ?_
       intro v5 w5 own5 g5 at5
       have h13 := (h12.alloc (.cells #[.int .u8 (d : Int)] 5)).grown g5 (fun k e => by have := (own4.block k e).1; omega)
       have G5 := Lib.hid ((g5.block w2.heap.size (by simp; omega) (fun e => hv4.out _ e.symm rfl)).trans ((heap_alloc_old w4 _ hlt4).trans G4.out))
       have hz5 := h13.lt)
    | (at_builtin; refine wpList_append_row2 _ rfl (.tmp 104) (.tmp 105) 32 rfl (w.heap.size + 1) .u8 5 1 Try.underlying32 info_u8 v5 ([15] ++ wbytes [a] ++ wbytes [(lo : Int)] ++ [(d : Int)]) rfl own5 _ _ d d (pk on d) rfl (Row.of_block G5.out (pk on d) hwf.out (List.prefix_refl _)) hpl.out (by rw [List.length_append, L4.out]; simp; omega) (by rw [List.length_append, L4.out]; simp [maxLen]; omega) (by omega) ?_
       intro v6 w6 own6 g6 at6
       have h14 := h13.grown g6 (fun k e => by have := (own5.block k e).1; omega)))
  go_ret2
  exact ⟨_, rfl, own6.mono (by omega), h14.2⟩

set_option maxHeartbeats 1000000 in
set_option maxRecDepth 100000 in
theorem refPut_words (c a n : Int) (on : List Bool) (set fl : List Int) (Ao As Ap : Option Addr) (lo ls lp co cs cp : Nat) (w : World) (h : Asked w w.heap.size ⟨c, a, n, on, set, fl⟩ Ao As Ap lo ls lp) (hk : chkQ ⟨c, a, n, on, set, fl⟩ = 0) (hc : c = 16) :
    Calls Try.prog 15 #[.agg #[.int .i64 c, .int .i64 a, .int .i64 n, .slice Ao lo co, .slice As ls cs, .slice Ap lp cp]] w (Makes2 w (pduQ ⟨c, a, n, on, set, fl⟩)) := by
  obtain ⟨hmm, hst, ha, hmany, hparts, hend⟩ := chk_zero hk
  simp only at hmm hst ha hmany hparts hend
  subst hc
  have H0 := Lib.hid h
  have hx0 := Bx.new w (.cells #[.int .i64 16, .int .i64 a, .int .i64 n, .slice Ao lo co, .slice As ls cs, .slice Ap lp cp] 26)
  have HC := Lib.hid (refCheck_any ⟨16, a, n, on, set, fl⟩ Ao As Ap lo ls lp co cs cp _ (h.upAlloc (.cells #[.int .i64 16, .int .i64 a, .int .i64 n, .slice Ao lo co, .slice As ls cs, .slice Ap lp cp] 26)))
  rw [chkQ_of h, hk] at HC
  have hl : ls ≤ 123 := by have h1 := H0.out.ls; have h2 : 1 ≤ (set.length : Int) ∧ (set.length : Int) ≤ 123 := hmany; simp only at h1; omega
  have HL : Hid (pduQ ⟨16, a, n, on, set, fl⟩ = (([16] ++ wbytes [a]) ++ wbytes [(ls : Int)] ++ [2 * (ls : Int)]) ++ wbytes set) := Lib.hid (by
    have e : pduQ ⟨16, a, n, on, set, fl⟩ = 16 :: (wbytes [a, (set.length : Int)] ++ ((2 * set.length : Nat) : Int) :: wbytes set) := rfl
    have h1 := H0.out.ls
    simp only at h1
    rw [e, h1, wbytes_cons a]; simp)
  have e1 : IntKind.u8.wrap (2 * (ls : Int)) = 2 * (ls : Int) := by rw [IntKind.wrap_u8]; omega
  have e2 : IntKind.i64.wrap (2 * (ls : Int)) = 2 * (ls : Int) := IntWalk.i64_in _ (by omega)
  have hwf2 : Hid ((Lit.int .u8 (2 * (ls : Int))).wf = true) := Lib.hid (by have := wf_byte (2 * ls) (by omega); rwa [show ((2 * ls : Nat) : Int) = 2 * (ls : Int) by omega] at this)
  rw [HL.out]
  clear h hk hst hmany hparts hend hmm
  go_enter Try.func15, Try.ntmps15
  go_wp2_with fail
  refine HC.out.mono ?_
  rintro e w1 ⟨rfl, b1⟩
  have h9 := hx0.below b1
  have hz1 := h9.lt
  clear b1 hx0 HC
  obtain ⟨d0, d1, d2, d3, d4, d5⟩ := h9.six
  go_wp2_with fail
  clear d0 d1 d2 d3 d4 d5
  refine (refTwo_any _ [16] a (w.heap.size + 1) _ (by exact Own.laid (l := [16]) (heap_alloc_new w1 _) hz1 rfl (by simp [maxLen])) ha (by simp) (by simp; omega)).mono ?_
  rintro e w2 ⟨v2, rfl, own2, g2, _⟩
  have h10 := (h9.alloc (.cells #[.int .u8 16] 5)).grown g2 (by simp [Value.ownBlock]; omega)
  have hz2 := h10.lt
  clear g2 h9
  obtain ⟨d0, d1, d2, d3, d4, d5⟩ := h10.six
  have L2 : Hid (([16] ++ wbytes [a]).length = 3) := Lib.hid (by simp [wbytes_length])
  have L3 : Hid (([16] ++ wbytes [a] ++ wbytes [(ls : Int)]).length = 5) := Lib.hid (by simp [wbytes_length])
  have ob2 := Lib.hid own2.block
  clear d0 d1 d2 d3 d4 d5
  obtain ⟨d0, _, _, _, _, _⟩ := h10.six
  go_wp2_with fail
  clear d0
  go_region_held3 (fun w' => Bx w w.heap.size (.cells #[.int .i64 16, .int .i64 a, .int .i64 n, .slice Ao lo co, .slice As ls cs, .slice Ap lp cp] 26) w' ∧ w'.cell? ⟨w.heap.size, 0, none⟩ = some (.int .i64 16) ∧ w'.cell? ⟨w.heap.size, 1, none⟩ = some (.int .i64 a) ∧ w'.cell? ⟨w.heap.size, 2, none⟩ = some (.int .i64 n) ∧ w'.cell? ⟨w.heap.size, 3, none⟩ = some (.slice Ao lo co) ∧ w'.cell? ⟨w.heap.size, 4, none⟩ = some (.slice As ls cs) ∧ w'.cell? ⟨w.heap.size, 5, none⟩ = some (.slice Ap lp cp))
    ((first
      | exact ⟨h12, h12.six⟩
      | exact ⟨h11, h11.six⟩
      | exact ⟨h11.alloc _, (h11.alloc _).six⟩
      | exact ⟨h10.drew, h10.drew.six⟩
      | exact ⟨h10, h10.six⟩
      | exact ⟨(h10.alloc _).drew, (h10.alloc _).drew.six⟩))
    (first
      | (go_at_call 40
         refine (refTwo_any v2 ([16] ++ wbytes [a]) (ls : Int) (w.heap.size + 1) _ (by first | exact own2.alloc _ | exact own2) (by omega) (by rw [L2.out]; omega) (by simp <;> omega)).mono ?_
         rintro e w3 ⟨v3, rfl, own3, g3, at3⟩
         have h11 : Bx w w.heap.size (.cells #[.int .i64 16, .int .i64 a, .int .i64 n, .slice Ao lo co, .slice As ls cs, .slice Ap lp cp] 26) w3 := by first | exact (h10.alloc _).drew.grown g3 (fun k e => by have := (ob2.out k e).1; omega) | exact h10.drew.grown g3 (fun k e => by have := (ob2.out k e).1; omega)
         have hz3 := h11.lt)
      | (refine step_append_row w3 rfl _ _ 32 rfl (w.heap.size + 1) .u8 5 1 Try.underlying32 info_u8 v3 ([16] ++ wbytes [a] ++ wbytes [(ls : Int)]) rfl own3 (w2.heap.size + 1) (some ⟨w2.heap.size, 0, none⟩) 1 1 [2 * (ls : Int)] rfl (Row.of_block (l := [2 * (ls : Int)]) ((g3.block w2.heap.size (by simp) (fun e => by have := (ob2.out _ e.symm).2; omega)).trans (heap_alloc_new w2 _)) [2 * (ls : Int)] (by intro x hx; simp only [List.mem_singleton] at hx; subst hx; exact hwf2.out) (List.prefix_refl _)) rfl (by rw [L3.out]; omega) (by rw [L3.out]; simp [maxLen]) (by omega) ?_
         intro v4 w4 own4 g4
         have h12 := h11.grown g4 (fun k e => by have := (own3.block k e).1; omega))
      | (refine step_append_row (w3.alloc (.cells #[.int .u8 (2 * (ls : Int))] 5)) rfl _ _ 32 rfl (w.heap.size + 1) .u8 5 1 Try.underlying32 info_u8 v3 ([16] ++ wbytes [a] ++ wbytes [(ls : Int)]) rfl (own3.alloc _) (w3.heap.size + 1) (some ⟨w3.heap.size, 0, none⟩) 1 1 [2 * (ls : Int)] rfl (Row.one .u8 w3 5 (2 * (ls : Int)) hwf2.out) rfl (by rw [L3.out]; omega) (by rw [L3.out]; simp [maxLen]) (by simp; omega) ?_
         intro v4 w4 own4 g4
         have h12 := (h11.alloc (.cells #[.int .u8 (2 * (ls : Int))] 5)).grown g4 (fun k e => by have := (own3.block k e).1; omega)))
  all_goals
    have hz4 := h12.lt
    have H12 := Lib.hid h12
    have O4 := Lib.hid own4
    have HS := Lib.hid H0.out.set
    have HSN := Lib.hid H0.out.ls
    clear h12 own4 g4 h11 own3 g3 at3 h10 own2 ob2 hz3
    obtain ⟨d0, _, _, _, _, _⟩ := H12.out.six
    go_wp2_with fail
    clear d0
    go_loopw [5, 9] (fun v i wr => ∃ k : Nat, k ≤ ls ∧ i = .int .i64 k ∧ Own .u8 5 wr (w.heap.size + 1) v ([16] ++ wbytes [a] ++ wbytes [(ls : Int)] ++ [2 * (ls : Int)] ++ wbytes (set.take k)) ∧ Bx w w.heap.size (.cells #[.int .i64 16, .int .i64 a, .int .i64 n, .slice Ao lo co, .slice As ls cs, .slice Ap lp cp] 26) wr) (fun _ i _ => ls - (intOf i).toNat)
    case atStart => exact ⟨0, by omega, rfl, by simpa [wbytes] using O4.out, H12.out⟩
    case round =>
      obtain ⟨k, hk, rfl, hown, hbx⟩ := hrel
      obtain ⟨d0, d1, d2, d3, d4, d5⟩ := hbx.six
      have hzr := hbx.lt
      by_cases hlt : k < ls
      · obtain ⟨b, o, hAd, hb1, hcell⟩ := HS.out.at_ (i := k) (by have := HSN.out; omega)
        have hvb := wf_u16 (HS.out.wf_at (i := k) (by have := HSN.out; omega))
        subst hAd
        have hc1 := hbx.old hb1 hcell
        have HT := Lib.hid (take_step set k (by have := HSN.out; omega))
        have HLn : Hid (([16] ++ wbytes [a] ++ wbytes [(ls : Int)] ++ [2 * (ls : Int)] ++ wbytes (set.take k)).length ≤ 1000) := Lib.hid (by simp [wbytes_length]; omega)
        have HWS := Lib.hid (wbytes_snoc (set.take k) (nth set k))
        have HW1 : Hid (wbytes [nth set k] = be 2 (nth set k).toNat) := Lib.hid (by simp [wbytes])
        generalize nth set k = v at *
        have e0 : IntKind.i64.wrap v = v := IntWalk.i64_in _ (by omega)
        clear hcell
        go_wp2_with fail
        clear d0 d1 d2 d3 d4 d5
        refine (refTwo_any _ _ v (w.heap.size + 1) _ hown hvb HLn.out (by omega)).mono ?_
        rintro e w5 ⟨v5, rfl, own5, g5, _⟩
        have h13 := hbx.grown g5 (fun k e => by have := (hown.block k e).1; omega)
        have own6 : Own .u8 5 w5 (w.heap.size + 1) v5 ([16] ++ wbytes [a] ++ wbytes [(ls : Int)] ++ [2 * (ls : Int)] ++ wbytes (set.take (k + 1))) := by
          rw [HT.out, HWS.out, ← HW1.out, ← List.append_assoc]; exact own5
        clear g5 hown hbx own5
        go_wp2
        go_roundw
        case rel => exact ⟨k + 1, by omega, by go_num, own6, h13⟩
        case measure => simp [intOf]; omega
      · obtain rfl : k = ls := by omega
        have hx : Hid (set.take k = set) := Lib.hid (List.take_of_length_le (by have := HSN.out; omega))
        rw [hx.out] at hown
        go_wp2
        go_ret2
        exact ⟨_, rfl, hown.mono (by omega), hbx.2⟩
end Go.Proofs.Ytojjcmkadmofdaa
