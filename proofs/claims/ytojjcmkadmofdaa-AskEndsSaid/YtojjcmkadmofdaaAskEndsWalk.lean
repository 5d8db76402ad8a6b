/-
  The walk of AskEnds.
-/
import Derived.Test.YtojjcmkadmofdaaAskKnown0
import Derived.Test.YtojjcmkadmofdaaPick
namespace Go.Proofs.Ytojjcmkadmofdaa
open Go.RowKit
set_option linter.unusedVariables false

set_option maxHeartbeats 1000000 in
set_option maxRecDepth 100000 in
theorem walk_AskEnds (q : Req) (Ao As Ap : Option Addr) (lo ls lp co cs cp : Nat) (a1 : Option Addr) (l1 c1 : Nat) (x1 : List Int) (k : Int) (w : World) (h : Asked w w.heap.size q Ao As Ap lo ls lp) (hi : (Lit.int .i64 q.c).wf = true ∧ (Lit.int .i64 q.a).wf = true ∧ (Lit.int .i64 q.n).wf = true)
    (w1 : Row .u8 w w.heap.size a1 x1) (n1 : x1.length = l1) (s1 : l1 ≤ c1) (m1 : c1 ≤ 140737488351232) (wk : (Lit.int .i64 k).wf = true) :
    Calls Try.prog 7 #[.agg #[.int .i64 q.c, .int .i64 q.a, .int .i64 q.n, .slice Ao lo co, .slice As ls cs, .slice Ap lp cp], .slice a1 l1 c1, .int .i64 k] w fun e w' => e = .returned (.bool true) ∧ Below w.heap.size w w' := by
  have bx := Bx.new w (.cells #[.int .i64 q.c, .int .i64 q.a, .int .i64 q.n, .slice Ao lo co, .slice As ls cs, .slice Ap lp cp] 26)
  have H := Lib.hid (h.upAlloc (.cells #[.int .i64 q.c, .int .i64 q.a, .int .i64 q.n, .slice Ao lo co, .slice As ls cs, .slice Ap lp cp] 26))
  have H0 := Lib.hid h
  have HM := Lib.hid w1
  have HMN := Lib.hid n1
  clear h wk w1 n1
  by_cases hlong : 70000 < lo ∨ 70000 < ls ∨ 70000 < lp
  · have hlong' := Lib.hid hlong
    clear hlong
    go_enter Try.func7, Try.ntmps7
    go_wp2_with fail
    refine (LongAsk_yes q.c q.a q.n Ao As Ap lo co ls cs lp cp _ hlong'.out).mono ?_
    rintro e w1 ⟨rfl, b1⟩
    have bel1 := (bx.below b1).2
    go_wp2_with fail
    refine (known_yes _).mono ?_
    rintro e w2 ⟨rfl, b2⟩
    go_wp2
    go_ret
    exact ⟨rfl, bel1.trans (b2.mono bel1.size)⟩
  have hlo : lo ≤ 70000 := by omega
  have hls : ls ≤ 70000 := by omega
  have hlp : lp ≤ 70000 := by omega
  clear hlong
  by_cases hmore : 65536 < l1
  · have hm2 : (65536 : Int) < (l1 : Int) := by omega
    go_enter Try.func7, Try.ntmps7
    go_wp2_with fail
    refine (LongAsk_no q.c q.a q.n Ao As Ap lo co ls cs lp cp _ hlo hls hlp).mono ?_
    rintro e w1 ⟨rfl, b1⟩
    have bel1 := (bx.below b1).2
    go_wp2_with fail
    refine (known_yes _).mono ?_
    rintro e w2 ⟨rfl, b2⟩
    go_wp2
    go_ret
    exact ⟨rfl, bel1.trans (b2.mono bel1.size)⟩
  have hm2 : ¬ (65536 : Int) < (l1 : Int) := by omega
  go_enter Try.func7, Try.ntmps7
  go_wp2_with fail
  refine (LongAsk_no q.c q.a q.n Ao As Ap lo co ls cs lp cp _ hlo hls hlp).mono ?_
  rintro e w1 ⟨rfl, b1⟩
  have bx1 := bx.below b1
  have H1 := Lib.hid (H.out.up b1)
  clear bx b1 H
  obtain ⟨d0, d1, d2, d3, d4, d5⟩ := bx1.six
  have hz1 := bx1.lt
  go_wp2_with fail
  clear d0 d1 d2 d3 d4 d5
  have hp := Put_any q Ao As Ap lo ls lp co cs cp w1 H1.out
  obtain ⟨E, hE⟩ : ∃ E, Hid (chkQ q = E) := ⟨_, Lib.hid rfl⟩
  rw [hE.out] at hp
  refine hp.mono ?_
  rintro e w3 ⟨v3, rfl, own3, b3⟩
  have bx3 := bx1.below b3
  have H3 := Lib.hid (H1.out.up b3)
  obtain ⟨A3, c3, rfl, row3, hc3, hmx⟩ := own3.row (putL_wf q)
  have R3 := Lib.hid row3
  have hc3' := Lib.hid hc3
  clear bx1 b3 H1 hp own3 row3 hz1 hc3 hmx
  by_cases hE0 : E = 0
  rotate_left
  · have t1 : (E != 0) = true := by simpa using hE0
    have t2 : (E == 0) = false := beq_false_of_ne hE0
    have bel3 := bx3.2
    clear hE0
    go_wp2_with fail
    refine (known_yes _).mono ?_
    rintro e w4 ⟨rfl, b4⟩
    go_wp2
    go_ret
    exact ⟨rfl, bel3.trans (b4.mono bel3.size)⟩
  subst hE0
  have hset : ∀ x ∈ q.set, (Lit.int .u16 x).wf = true := H3.out.set.1
  have hback := Lib.hid (pdu_back q hset (by rw [H3.out.lp]; omega) hE.out)
  have hpl : Hid (putL q = pduQ q) := Lib.hid (by rw [putL, if_pos hE.out])
  have hl5 : 5 ≤ (putL q).length ∧ (putL q).length ≤ 253 := by rw [hpl.out]; exact hback.out.2.2
  have hgE : Hid (getE (putL q) = 0) := Lib.hid (by rw [hpl.out]; exact hback.out.1)
  have hgQ : Hid (getQ (putL q) = q) := Lib.hid (by rw [getQ, if_pos hgE.out, hpl.out]; exact hback.out.2.1)
  have hwf := Lib.hid (putL_wf q)
  have HQ := Lib.hid hset
  clear hset hpl hback
  obtain ⟨L, hL⟩ : ∃ L, Hid (putL q = L) := ⟨_, Lib.hid rfl⟩
  rw [hL.out] at R3 hc3' hl5 hgE hgQ hwf ⊢
  obtain ⟨m, hm⟩ : ∃ m, Hid (L.length = m) := ⟨_, Lib.hid rfl⟩
  rw [hm.out] at hl5 hc3' ⊢
  have hpk := pick_lt k m (by omega)
  have hPC := Lib.hid (fun W => Pick_any k m W (by omega) (by omega))
  obtain ⟨j, hj⟩ : ∃ j, Hid (pick k m = j) := ⟨_, Lib.hid rfl⟩
  rw [hj.out] at hpk hPC
  have hc3b := hc3'.out
  go_wp2_with fail
  refine (hPC.out _).mono ?_
  rintro e w' ⟨rfl, rfl⟩
  have hjm : j ≤ m := by omega
  go_wp2_with fail
  have hg := Get_view A3 j c3 (L.take j) w3 (R3.out.front j) (by rw [List.length_take, hm.out]; omega) (by omega) (by omega)
  have hgj : getE (L.take j) = 1 := getE_take hgE.out j (by rw [hm.out]; exact hpk)
  have hgq : getQ (L.take j) = Req.zero := by rw [getQ, hgj]; rfl
  rw [hgj, hgq] at hg
  refine hg.mono ?_
  rintro e w4 ⟨A4, A5, A6, m4, m5, n6, c6, rfl, ask4, b4⟩
  have bx4 := bx3.below b4
  have H4 := Lib.hid (H3.out.up b4)
  have R4 := Lib.hid ((R3.out.below b4).more b4.size)
  clear hg hgj hgq bx3 b4 H3 ask4 R3
  go_wp2_with fail
  refine (copy_u8 A3 m c3 L _ (by exact ((R4.out.alloc (Nat.le_refl _) _).more (by simp))) hm.out (by omega)).mono ?_
  rintro e w5 ⟨v5, rfl, own5, b5⟩
  have hown := own5.mono (base' := w.heap.size + 1) (by have := bx4.lt; simp; omega)
  have bx5 := (bx4.alloc _).below b5
  have HM5 := Lib.hid (HM.out.below bx5.2)
  have hz5 := bx5.lt
  have hL1 : L.length ≤ 253 := by rw [hm.out]; exact hl5.2
  have HL1 := Lib.hid hL1
  clear bx4 H4 R4 b5 own5 hL1
  go_wp2_with (at_builtin; refine wpList_append_row _ rfl (.tmp 41) (.tmp 42) 32 rfl (w.heap.size + 1) .u8 5 1 Try.underlying32 info_u8 v5 L rfl hown _ a1 l1 c1 x1 rfl HM5.out HMN.out (by have := HL1.out; omega) (by have := HL1.out; simp only [maxLen]; omega) (by omega) ?_; intro v6 w6 own6 g6)
  have bx6 := bx5.grown g6 (fun k e => by have := (hown.block k e).1; omega)
  obtain ⟨A6, c7, rfl, row6, hc6, _⟩ := own6.row (wf_append hwf.out HM.out.1)
  have R6 := Lib.hid row6
  have hlen : Hid ((L ++ x1).length = m + l1) := Lib.hid (by rw [List.length_append, hm.out, HMN.out])
  rw [hlen.out] at hc6 ⊢
  clear bx5 hown HM5 own6 g6 row6 hz5
  by_cases hl0 : l1 = 0
  · subst hl0
    have hx : Hid (L ++ x1 = L) := Lib.hid (by rw [List.eq_nil_of_length_eq_zero HMN.out, List.append_nil])
    rw [hx.out] at R6
    rw [Nat.add_zero] at hc6 ⊢
    have hg := Get_view A6 m c7 L w6 R6.out hm.out hc6 (by omega)
    rw [hgE.out, hgQ.out] at hg
    have HG := Lib.hid hg
    clear hg
    refine HG.out.mono ?_
    rintro e w7 ⟨A7, A8, A9, m7, m8, n9, c9, rfl, ask7, b7⟩
    have H7 := Lib.hid ((H0.out.below (bx6.below b7).2).more (B' := w7.heap.size) (by have := (bx6.below b7).lt; omega))
    obtain rfl : m7 = lo := ask7.lo.symm.trans H7.out.lo
    obtain rfl : m8 = ls := ask7.ls.symm.trans H7.out.ls
    obtain rfl : n9 = lp := by have h1 := ask7.lp; have h2 := H7.out.lp; omega
    have bx7 := bx6.below b7
    have HA := Lib.hid ask7
    clear bx6 b7 ask7 HG
    obtain ⟨d0, d1, d2, d3, d4, d5⟩ := bx7.six
    have hz7 := bx7.lt
    go_wp2_with fail
    clear d0 d1 d2 d3 d4 d5
    refine (SameAsk_yes q Ao As Ap A7 A8 A9 m7 m8 n9 co cs cp m7 m8 c9 _ (by exact H7.out.upAlloc _) (by exact HA.out.upAlloc _) (by omega) (by omega) (by omega)).mono ?_
    rintro e w8 ⟨rfl, b8⟩
    have bel8 : Below w.heap.size w w8 := (bx7.alloc _).2.trans (b8.mono (by simp; omega))
    clear b8 bx7
    go_wp2_with fail
    refine (known_yes _).mono ?_
    rintro e w9 ⟨rfl, b9⟩
    go_wp2
    go_ret
    exact ⟨rfl, bel8.trans (b9.mono bel8.size)⟩
  · have hg := Get_view A6 (m + l1) c7 (L ++ x1) w6 R6.out hlen.out hc6 (by omega)
    have hgm : getE (L ++ x1) = 2 := getE_more hgE.out x1 (by rw [HMN.out]; omega)
    have hgz : getQ (L ++ x1) = Req.zero := by rw [getQ, hgm]; rfl
    rw [hgm, hgz] at hg
    have HG := Lib.hid hg
    have t1 : ((l1 : Int) == 0) = false := beq_false_of_ne (by omega)
    clear hg hgm hgz hl0
    refine HG.out.mono ?_
    rintro e w7 ⟨A7, A8, A9, m7, m8, n9, c9, rfl, ask7, b7⟩
    obtain rfl : m7 = 0 := ask7.lo.symm
    obtain rfl : m8 = 0 := ask7.ls.symm
    obtain rfl : n9 = 0 := by have h := ask7.lp; have h2 : Req.zero.fl.length = 0 := rfl; omega
    have bx7 := bx6.below b7
    have HA := Lib.hid ask7
    clear bx6 b7 ask7 HG
    have hz7 := bx7.lt
    go_wp2_with fail
    refine (SameAsk_yes Req.zero A7 A8 A9 none none none 0 0 0 0 0 c9 0 0 0 _ (by exact HA.out.upAlloc _) (by exact Asked.zero _ _) (by omega) (by omega) (by omega)).mono ?_
    rintro e w8 ⟨rfl, b8⟩
    have bel8 : Below w.heap.size w w8 := (bx7.alloc _).2.trans (b8.mono (by simp; omega))
    clear b8 bx7
    go_wp2_with fail
    refine (known_yes _).mono ?_
    rintro e w9 ⟨rfl, b9⟩
    go_wp2
    go_ret
    exact ⟨rfl, bel8.trans (b9.mono bel8.size)⟩
end Go.Proofs.Ytojjcmkadmofdaa
