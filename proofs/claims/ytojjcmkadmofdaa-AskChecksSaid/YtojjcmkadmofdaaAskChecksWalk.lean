/-
  The walk of AskChecks.
-/
import Derived.Test.YtojjcmkadmofdaaAskRef5
namespace Go.Proofs.Ytojjcmkadmofdaa
open Go.RowKit
set_option linter.unusedVariables false

set_option maxHeartbeats 2000000 in
set_option maxRecDepth 100000 in
theorem walk_AskChecks (q : Req) (Ao As Ap : Option Addr) (lo ls lp co cs cp : Nat) (w : World) (h : Asked w w.heap.size q Ao As Ap lo ls lp) (hi : (Lit.int .i64 q.c).wf = true ∧ (Lit.int .i64 q.a).wf = true ∧ (Lit.int .i64 q.n).wf = true) :
    Calls Try.prog 3 #[.agg #[.int .i64 q.c, .int .i64 q.a, .int .i64 q.n, .slice Ao lo co, .slice As ls cs, .slice Ap lp cp]] w fun e w' => e = .returned (.bool true) ∧ Below w.heap.size w w' := by
  have bx := Bx.new w (.cells #[.int .i64 q.c, .int .i64 q.a, .int .i64 q.n, .slice Ao lo co, .slice As ls cs, .slice Ap lp cp] 26)
  have H0 := Lib.hid h
  have H := Lib.hid (h.upAlloc (.cells #[.int .i64 q.c, .int .i64 q.a, .int .i64 q.n, .slice Ao lo co, .slice As ls cs, .slice Ap lp cp] 26))
  clear h
  by_cases hlong : 70000 < lo ∨ 70000 < ls ∨ 70000 < lp
  · have hlong' := Lib.hid hlong
    clear hlong
    go_enter Try.func3, Try.ntmps3
    go_wp2_with fail
    refine (LongAsk_yes q.c q.a q.n Ao As Ap lo co ls cs lp cp _ hlong'.out).mono ?_
    rintro e w1 ⟨rfl, b1⟩
    have bel1 := (bx.below b1).2
    go_wp2_with fail
    refine (known_yes _).mono ?_
    rintro e w2 ⟨rfl, b2⟩
    go_wp2
    go_ret
    exact ⟨rfl, bel1.trans (b2.mono bel1.size)⟩
  have hlo : lo ≤ 70000 := by omega
  have hls : ls ≤ 70000 := by omega
  have hlp : lp ≤ 70000 := by omega
  clear hlong
  go_enter Try.func3, Try.ntmps3
  go_wp2_with fail
  refine (LongAsk_no q.c q.a q.n Ao As Ap lo co ls cs lp cp _ hlo hls hlp).mono ?_
  rintro e w1 ⟨rfl, b1⟩
  have bx1 := bx.below b1
  have H1 := Lib.hid (H.out.up b1)
  clear bx b1 H
  obtain ⟨d0, d1, d2, d3, d4, d5⟩ := bx1.six
  have hz1 := bx1.lt
  go_wp2_with fail
  clear d0 d1 d2 d3 d4 d5
  refine (LentAsk_any q Ao As Ap lo ls lp co cs cp w1 H1.out hlo hls hlp).mono ?_
  rintro e w2 ⟨go, gs, gp, rfl, k1, k2, k3, b2⟩
  have bx2 := bx1.below b2
  have hz2 := bx2.lt
  clear bx1 b2 H1 hz1
  have hgp := block_lt k3
  have HA2 : Hid (Asked w2 w2.heap.size q (some ⟨go, 0, none⟩) (some ⟨gs, 0, none⟩) (some ⟨gp, 0, none⟩) lo ls lp) := Lib.hid
    ⟨k1.row q.on (fun _ _ => rfl) (List.prefix_append _ _), k2.row q.set H0.out.set.1 (List.prefix_append _ _), (Row.of_block k3 q.fl H0.out.fl.1 (List.prefix_append _ _)).more hgp, H0.out.lo, H0.out.ls, H0.out.lp⟩
  have K1 := Lib.hid k1
  have K2 := Lib.hid k2
  have K3 := Lib.hid k3
  clear k1 k2 k3 hgp
  obtain ⟨E, hE⟩ : ∃ E, Hid (chkQ q = E) := ⟨_, Lib.hid rfl⟩
  have tE : (E == E) = true := by simp
  have bel2 : Below w.heap.size w w2 := bx2.2
  have y0 := Bx.new w2 (.cells #[.int .i64 q.c, .int .i64 q.a, .int .i64 q.n, .slice (some ⟨go, 0, none⟩) lo (lo + 5), .slice (some ⟨gs, 0, none⟩) ls (ls + 5), .slice (some ⟨gp, 0, none⟩) lp (lp + 5)] 26)
  obtain ⟨d0, d1, d2, d3, d4, d5⟩ := y0.six
  go_wp2_with fail
  clear d0 d1 d2 d3 d4 d5
  have hc := Check_Q q (some ⟨go, 0, none⟩) (some ⟨gs, 0, none⟩) (some ⟨gp, 0, none⟩) lo ls lp (lo + 5) (ls + 5) (lp + 5) _ (HA2.out.upAlloc (.cells #[.int .i64 q.c, .int .i64 q.a, .int .i64 q.n, .slice (some ⟨go, 0, none⟩) lo (lo + 5), .slice (some ⟨gs, 0, none⟩) ls (ls + 5), .slice (some ⟨gp, 0, none⟩) lp (lp + 5)] 26))
  rw [hE.out] at hc
  refine hc.mono ?_
  rintro e w3 ⟨rfl, b3⟩
  have y3 := y0.below b3
  clear hc y0 b3
  obtain ⟨d0, d1, d2, d3, d4, d5⟩ := y3.six
  have hz3 := y3.lt
  go_wp2_with fail
  clear d0 d1 d2 d3 d4 d5
  have hp := Put_any q (some ⟨go, 0, none⟩) (some ⟨gs, 0, none⟩) (some ⟨gp, 0, none⟩) lo ls lp (lo + 5) (ls + 5) (lp + 5) w3 ((HA2.out.below y3.2).more (Nat.le_of_lt hz3))
  rw [hE.out] at hp
  refine hp.mono ?_
  rintro e w4 ⟨v4, rfl, own4, b4⟩
  obtain ⟨A4, c4, rfl, row4, _, _⟩ := own4.row (putL_wf q)
  have R4 := Lib.hid row4
  have y4 := y3.below b4
  clear hp y3 b4 own4 row4 hz3
  obtain ⟨d0, d1, d2, d3, d4, d5⟩ := (bx2.below y4.2).six
  have hz4 := y4.lt
  go_wp2_with fail
  clear d0 d1 d2 d3 d4 d5
  have hp := refPut_any q Ao As Ap lo ls lp co cs cp w4 ((H0.out.below (bx2.below y4.2).2).more (B' := w4.heap.size) (by omega))
  rw [hE.out] at hp
  refine hp.mono ?_
  rintro e w5 ⟨v5, rfl, own5, b5⟩
  obtain ⟨A5, c5, rfl, row5, _, _⟩ := own5.row (putL_wf q)
  have R5 := Lib.hid row5
  have R4b := Lib.hid ((R4.out.below b5).more b5.size)
  have y5 := y4.below b5
  obtain ⟨m, hm⟩ : ∃ m, Hid ((putL q).length = m) := ⟨_, Lib.hid rfl⟩
  have hml : m ≤ 253 := by rw [← hm.out]; exact putL_len q H0.out.set.1 (by rw [H0.out.lp]; omega)
  rw [hm.out]
  clear hp y4 b5 own5 row5 hz4 R4
  have hz5 := y5.lt
  go_wp2_with fail
  go_region_held3 (fun w' => Bx w2 w2.heap.size (.cells #[.int .i64 q.c, .int .i64 q.a, .int .i64 q.n, .slice (some ⟨go, 0, none⟩) lo (lo + 5), .slice (some ⟨gs, 0, none⟩) ls (ls + 5), .slice (some ⟨gp, 0, none⟩) lp (lp + 5)] 26) w' ∧ (w'.cell? ⟨w2.heap.size, 0, none⟩ = some (.int .i64 q.c) ∧ w'.cell? ⟨w2.heap.size, 1, none⟩ = some (.int .i64 q.a) ∧ w'.cell? ⟨w2.heap.size, 2, none⟩ = some (.int .i64 q.n) ∧ w'.cell? ⟨w2.heap.size, 3, none⟩ = some (.slice (some ⟨go, 0, none⟩) lo (lo + 5)) ∧ w'.cell? ⟨w2.heap.size, 4, none⟩ = some (.slice (some ⟨gs, 0, none⟩) ls (ls + 5)) ∧ w'.cell? ⟨w2.heap.size, 5, none⟩ = some (.slice (some ⟨gp, 0, none⟩) lp (lp + 5))) ∧ (w'.cell? ⟨w.heap.size, 0, none⟩ = some (.int .i64 q.c) ∧ w'.cell? ⟨w.heap.size, 1, none⟩ = some (.int .i64 q.a) ∧ w'.cell? ⟨w.heap.size, 2, none⟩ = some (.int .i64 q.n) ∧ w'.cell? ⟨w.heap.size, 3, none⟩ = some (.slice Ao lo co) ∧ w'.cell? ⟨w.heap.size, 4, none⟩ = some (.slice As ls cs) ∧ w'.cell? ⟨w.heap.size, 5, none⟩ = some (.slice Ap lp cp)))
    ((first
      | exact ⟨y6, y6.six, (bx2.below y6.2).six⟩
      | exact ⟨y7, y7.six, (bx2.below y7.2).six⟩
      | exact ⟨y5.drew, y5.drew.six, (bx2.below y5.drew.2).six⟩
      | exact ⟨y5, y5.six, (bx2.below y5.2).six⟩))
    (first
      | (go_at_call 16; refine (Writes_any q.c q.a q.n (some ⟨go, 0, none⟩) (some ⟨gs, 0, none⟩) (some ⟨gp, 0, none⟩) lo (lo + 5) ls (ls + 5) lp (lp + 5) _).mono ?_; rintro e w6 ⟨rfl, b6⟩; have y6 := y5.drew.below b6; have bb6 : Below w5.heap.size w5 w6 := (show Below w5.heap.size w5 w5.drew from ⟨rfl, rfl, rfl, Nat.le_refl _, fun _ _ => rfl⟩).trans b6)
      | (go_at_call 17; refine (refWrites_any q.c q.a q.n Ao As Ap lo co ls cs lp cp _).mono ?_; rintro e w7 ⟨rfl, b7⟩; have y7 := y6.below b7; have bb7 : Below w5.heap.size w5 w7 := bb6.trans (b7.mono bb6.size)))
  have R4c := Lib.hid ((R4b.out.below bb7).more bb7.size)
  have R5c := Lib.hid ((R5.out.below bb7).more bb7.size)
  clear y5 y6 b6 b7 bb6 bb7 R4b R5 hz5
  obtain ⟨d0, d1, d2, d3, d4, d5⟩ := (bx2.below y7.2).six
  have hz7 := y7.lt
  go_wp2_with fail
  clear d0 d1 d2 d3 d4 d5
  have hc := refCheck_any q Ao As Ap lo ls lp co cs cp w7 ((H0.out.below (bx2.below y7.2).2).more (B' := w7.heap.size) (by omega))
  rw [chkQ_of H0.out, hE.out] at hc
  refine hc.mono ?_
  rintro e w8 ⟨rfl, b8⟩
  have y8 := y7.below b8
  have R4d := Lib.hid (R4c.out.below b8)
  have R5d := Lib.hid (R5c.out.below b8)
  clear hc y7 b8 R4c R5c hz7
  obtain ⟨d0, d1, d2, d3, d4, d5⟩ := y8.six
  obtain ⟨f0, f1, f2, f3, f4, f5⟩ := (bx2.below y8.2).six
  have hz8 := y8.lt
  go_wp2_with fail
  clear d0 d1 d2 d3 d4 d5 f0 f1 f2 f3 f4 f5
  refine (same_yes_u8 _ _ m _ _ (putL q) w8 _ _ R4d.out R5d.out hm.out (by omega)).mono ?_
  rintro e w9 ⟨rfl, q9, rfl⟩
  have y9 := y8.drewN q9
  have bx9 := bx2.below y9.2
  have J1 := Lib.hid (K1.out.below y9.2)
  have J2 := Lib.hid (K2.out.below y9.2)
  have J3 := Lib.hid ((y9.2.block gp (block_lt K3.out)).trans K3.out)
  have J0 := Lib.hid ((H0.out.below bx9.2).more (Nat.le_of_lt bx9.lt))
  clear y8 R4d R5d hz8
  obtain ⟨d0, d1, d2, d3, d4, d5⟩ := y9.six
  obtain ⟨f0, f1, f2, f3, f4, f5⟩ := bx9.six
  have hz9 := y9.lt
  generalize w8.drewN q9 = w9 at *
  go_wp2_with fail
  clear d0 d1 d2 d3 d4 d5 f0 f1 f2 f3 f4 f5
  refine (KeptAsk_yes q Ao As Ap lo ls lp co cs cp go gs gp w9 J0.out J1.out J2.out J3.out hlo hls hlp).mono ?_
  rintro e w10 ⟨rfl, b10⟩
  go_wp2
  go_ret
  exact ⟨rfl, bx9.2.trans (b10.mono (by have := bx9.lt; omega))⟩
end Go.Proofs.Ytojjcmkadmofdaa
