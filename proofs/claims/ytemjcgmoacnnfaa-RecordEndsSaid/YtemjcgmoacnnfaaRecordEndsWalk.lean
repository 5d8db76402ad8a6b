/-
  The walk of RecordEnds.
-/
import Derived.Test.YtemjcgmoacnnfaaRcKnown
import Derived.Test.YtemjcgmoacnnfaaCopy
import Derived.Test.YtemjcgmoacnnfaaPick
namespace Go.Proofs.Ytemjcgmoacnnfaa
open Go.RowKit
set_option linter.unusedVariables false
set_option maxRecDepth 100000

set_option maxHeartbeats 1000000 in
theorem ends11_bad (k t : Int) (g : ByteArray) (v i : Int) (a1 : Option Addr) (l1 c1 : Nat) (z : Int) (w : World) (hs : g.size ≤ maxLen) (h : chkRc ⟨k, t, g, v, i⟩ ≠ 0) :
    Calls Try.prog 7 #[.agg #[.int .i64 k, .int .i64 t, .string g, .int .i64 v, .int .i64 i], .slice a1 l1 c1, .int .i64 z] w fun e w' => e = .returned (.bool true) ∧ Below w.heap.size w w' := by
  have hL : putRc ⟨k, t, g, v, i⟩ = [] := by rw [putRc, if_neg h]
  obtain ⟨E, hE⟩ : ∃ E, chkRc ⟨k, t, g, v, i⟩ = E := ⟨_, rfl⟩
  rw [hE] at h
  have HE := Lib.hid hE
  have HL := Lib.hid hL
  have hE2 : (E != 0) = true := by simp [h]
  clear hE hL h
  have bx := Bx.new w (.cells #[.int .i64 k, .int .i64 t, .string g, .int .i64 v, .int .i64 i] 23)
  obtain ⟨c0, c1, c2, c3, c4⟩ := bx.five
  go_enter Try.func7, Try.ntmps7
  go_wp2_with fail
  refine (Put11_any k t g v i _ hs).mono ?_
  rintro e w2 ⟨v2, rfl, own2, b2⟩
  rw [HL.out] at own2
  rw [HE.out]
  have bx2 := bx.below b2
  clear bx b2 c0 c1 c2 c3 c4
  go_wp2_with fail
  refine (known11_yes _).mono ?_
  rintro e w3 ⟨rfl, b3⟩
  go_wp2
  go_ret
  exact ⟨rfl, (bx2.below b3).2⟩
set_option maxHeartbeats 1000000 in
theorem ends11_long (k t : Int) (g : ByteArray) (v i : Int) (a1 : Option Addr) (l1 c1 : Nat) (z : Int) (w : World) (hs : g.size ≤ maxLen) (h : chkRc ⟨k, t, g, v, i⟩ = 0) (hl : (l1 : Int) > 65536) :
    Calls Try.prog 7 #[.agg #[.int .i64 k, .int .i64 t, .string g, .int .i64 v, .int .i64 i], .slice a1 l1 c1, .int .i64 z] w fun e w' => e = .returned (.bool true) ∧ Below w.heap.size w w' := by
  have HE := Lib.hid h
  clear h
  have bx := Bx.new w (.cells #[.int .i64 k, .int .i64 t, .string g, .int .i64 v, .int .i64 i] 23)
  obtain ⟨c0, c1, c2, c3, c4⟩ := bx.five
  go_enter Try.func7, Try.ntmps7
  go_wp2_with fail
  refine (Put11_any k t g v i _ hs).mono ?_
  rintro e w2 ⟨v2, rfl, own2, b2⟩
  rw [HE.out]
  have bx2 := bx.below b2
  clear bx b2 c0 c1 c2 c3 c4 own2
  go_wp2_with fail
  refine (known11_yes _).mono ?_
  rintro e w3 ⟨rfl, b3⟩
  go_wp2
  go_ret
  exact ⟨rfl, (bx2.below b3).2⟩

set_option maxHeartbeats 2000000 in
theorem ends11_good (k t : Int) (g : ByteArray) (v i : Int) (a1 : Option Addr) (l1 q1 : Nat) (x1 : List Int) (z : Int) (w : World) (ok : Rc.Ok ⟨k, t, g, v, i⟩) (h : chkRc ⟨k, t, g, v, i⟩ = 0) (w1 : Row .u8 w w.heap.size a1 x1) (n1 : x1.length = l1) (hl : ¬ (l1 : Int) > 65536) (hz : (Lit.int .i64 z).wf = true) (E : Int) (hE : rcErr (bytRc ⟨k, t, g, v, i⟩ ++ x1) = E) (X : Rc) (hX : rcGot (bytRc ⟨k, t, g, v, i⟩ ++ x1) = X) (hc : l1 = 0 ∧ E = 0 ∧ X = ⟨k, t, g, v, i⟩ ∨ 0 < l1 ∧ E = 2 ∧ X = zRc) :
    Calls Try.prog 7 #[.agg #[.int .i64 k, .int .i64 t, .string g, .int .i64 v, .int .i64 i], .slice a1 l1 q1, .int .i64 z] w fun e w' => e = .returned (.bool true) ∧ Below w.heap.size w w' := by
  have hs : g.size ≤ maxLen := ok.1
  have hL : putRc ⟨k, t, g, v, i⟩ = bytRc ⟨k, t, g, v, i⟩ := by rw [putRc, if_pos h]
  obtain ⟨hb1, hb2, hb3, hb4⟩ := rc_back ok h
  have hwf := bytRc_wf _ h
  have hfr := rc_front h
  obtain ⟨L, hLL⟩ : ∃ L, bytRc ⟨k, t, g, v, i⟩ = L := ⟨_, rfl⟩
  rw [hLL] at hL hb3 hb4 hwf hE hX hfr
  obtain ⟨m, hm⟩ : ∃ m, L.length = m := ⟨_, rfl⟩
  rw [hm] at hb3 hb4 hfr
  have hp : pick z m < m := pick_lt z m (by omega)
  have hF1 := hfr (pick z m) hp
  have hF2 : rcGot (L.take (pick z m)) = zRc := by rw [rcGot, if_neg (by rw [hF1]; decide)]
  have HPK := Lib.hid (fun w => Pick_any z m w (by omega) (by omega))
  generalize pick z m = p at *
  have HE := Lib.hid h
  have HL := Lib.hid hL
  have HF1 := Lib.hid hF1
  have HF2 := Lib.hid hF2
  have HEE := Lib.hid hE
  have HXX := Lib.hid hX
  have HM := Lib.hid hm
  have HR1 := Lib.hid w1
  have HN1 := Lib.hid n1
  have i1 : (0 : Int) ≤ (p : Int) := by omega
  have i2 : (p : Int) ≤ (m : Int) := by omega
  clear h hL hb1 hb2 hLL hm ok hfr hF1 hF2 hE hX w1 n1
  have bx := Bx.new w (.cells #[.int .i64 k, .int .i64 t, .string g, .int .i64 v, .int .i64 i] 23)
  obtain ⟨c0, c1, c2, c3, c4⟩ := bx.five
  go_enter Try.func7, Try.ntmps7
  go_wp2_with fail
  refine (Put11_any k t g v i _ hs).mono ?_
  rintro e w2 ⟨v2, rfl, own2, b2⟩
  rw [HL.out] at own2
  rw [HE.out]
  have bx2 := bx.below b2
  clear bx b2 c0 c1 c2 c3 c4
  obtain ⟨A2, q2, rfl, row2, hq1, hq2⟩ := own2.row hwf
  simp only [maxLen] at hq2
  obtain ⟨b, o, rfl, _, _⟩ := row2.at_ (i := 0) (by rw [HM.out]; omega)
  rw [HM.out] at hq1 ⊢
  have R2 := Lib.hid row2
  have i3 : (p : Int) ≤ (q2 : Int) := by omega
  clear own2 row2
  go_wp2_with fail
  refine (HPK.out _).mono ?_
  rintro e w' ⟨rfl, rfl⟩
  go_wp2_with fail
  refine (Get11_any (some ⟨b, o, none⟩) p q2 (L.take p) _ (R2.out.front p) (by rw [List.length_take, HM.out]; omega) (by omega) (by omega) (by omega)).mono ?_
  rintro e w3 ⟨rfl, b3⟩
  rw [HF1.out, HF2.out]
  unfold rcV
  simp only [zRc]
  have bx3 := bx2.below b3
  have hz3 := bx3.lt
  have R3 := Lib.hid ((R2.out.below b3).more b3.size)
  have bx4 := bx3.alloc (.cells #[.int .i64 0, .int .i64 0, .string ⟨#[]⟩, .int .i64 0, .int .i64 0] 23)
  have R4 := Lib.hid ((R3.out.alloc (Nat.le_refl _) (.cells #[.int .i64 0, .int .i64 0, .string ⟨#[]⟩, .int .i64 0, .int .i64 0] 23)).more (Nat.le_succ _))
  have hs4 : (w3.alloc (.cells #[.int .i64 0, .int .i64 0, .string ⟨#[]⟩, .int .i64 0, .int .i64 0] 23)).heap.size = w3.heap.size + 1 := by simp
  clear bx2 bx3 b3 R2 R3
  go_wp2_with fail
  refine (copy_u8 (some ⟨b, o, none⟩) m q2 L _ (by rw [hs4]; exact R4.out) HM.out (by omega)).mono ?_
  rintro e w5 ⟨v5, rfl, own5, b5⟩
  rw [hs4] at own5
  have hsz5 := b5.size
  rw [hs4] at hsz5
  have bx5 := bx4.below b5
  clear hs4 bx4 b5 R4
  have hml : Hid (L.length = m) := HM
  have hbz := bx5.lt
  have R1 := Lib.hid (HR1.out.below bx5.2)
  go_wp2_with (at_builtin; refine wpList_append_row _ rfl _ _ 24 rfl (w3.heap.size + 1) .u8 5 1 Try.underlying24 info_u8 _ L rfl own5 _ _ l1 q1 x1 rfl R1.out HN1.out (by rw [hml.out]; omega) (by rw [hml.out]; simp only [maxLen]; omega) (by omega) ?_; intro v6 w6 own6 hg6)
  have bx6 := bx5.grown hg6 (fun q e => by have := (own5.block q e).1; omega)
  obtain ⟨A6, q6, rfl, row6, hq61, hq62⟩ := own6.row (wf_append hwf HR1.out.1)
  simp only [maxLen] at hq62
  have hl6 : Hid ((L ++ x1).length = m + l1) := Lib.hid (by rw [List.length_append, HM.out, HN1.out])
  rw [hl6.out] at hq61 ⊢
  have R6 := Lib.hid row6
  clear own6 row6 own5 hg6 R1
  go_wp2_with fail
  refine (Get11_any A6 (m + l1) q6 (L ++ x1) _ R6.out hl6.out (by omega) hq61 (by omega)).mono ?_
  rintro e w7 ⟨rfl, b7⟩
  rw [HEE.out, HXX.out]
  have bx7 := bx6.below b7
  clear bx6 bx5 b7 R6 hsz5
  obtain ⟨xk, xt, xg, xv, xi⟩ := X
  unfold rcV
  simp only
  have bx8 := bx7.alloc (.cells #[.int .i64 xk, .int .i64 xt, .string xg, .int .i64 xv, .int .i64 xi] 23)
  have hy8 := heap_alloc_new w7 (.cells #[.int .i64 xk, .int .i64 xt, .string xg, .int .i64 xv, .int .i64 xi] 23)
  obtain ⟨c0, c1, c2, c3, c4⟩ := bx8.five
  obtain ⟨d0, d1, d2, d3, d4⟩ := cells5 hy8
  rcases hc with ⟨hc1, rfl, hc3⟩ | ⟨hc1, rfl, hc3⟩
  · injection hc3 with e1 e2 e3 e4 e5
    subst e1 e2 e3 e4 e5 hc1
    go_wp2_with fail
    refine (known11_yes _).mono ?_
    rintro e w9 ⟨rfl, b9⟩
    go_wp2
    go_ret
    exact ⟨rfl, (bx8.below b9).2⟩
  · injection hc3 with e1 e2 e3 e4 e5
    subst e1 e2 e3 e4 e5
    have hl0 : ((l1 : Int) == 0) = false := beq_false_of_ne (by omega)
    have hl00 : ¬ l1 = 0 := by omega
    go_wp2_with fail
    refine (known11_yes _).mono ?_
    rintro e w9 ⟨rfl, b9⟩
    go_wp2
    go_ret
    exact ⟨rfl, (bx8.below b9).2⟩
theorem walk_RecordEnds (r : Rc) (a1 : Option Addr) (l1 q1 : Nat) (x1 : List Int) (z : Int) (w : World) (hok : Rc.Ok r) (w1 : Row .u8 w w.heap.size a1 x1) (n1 : x1.length = l1) (s1 : l1 ≤ q1) (m1 : q1 ≤ 140737488351232) (hz : (Lit.int .i64 z).wf = true) :
    Calls Try.prog 7 #[rcV r, .slice a1 l1 q1, .int .i64 z] w fun e w' => e = .returned (.bool true) ∧ Below w.heap.size w w' := by
  obtain ⟨k, t, g, v, i⟩ := r
  by_cases h : chkRc ⟨k, t, g, v, i⟩ = 0
  · by_cases hl : (l1 : Int) > 65536
    · exact ends11_long k t g v i a1 l1 q1 z w hok.1 h hl
    · refine ends11_good k t g v i a1 l1 q1 x1 z w hok h w1 n1 hl hz _ rfl _ rfl ?_
      by_cases h0 : l1 = 0
      · left
        have hx : x1 = [] := List.eq_nil_of_length_eq_zero (by omega)
        subst hx
        rw [List.append_nil]
        exact ⟨h0, (rc_back hok h).1, (rc_back hok h).2.1⟩
      · right
        have he := rc_more h x1 (by omega)
        exact ⟨by omega, he, by rw [rcGot, if_neg (by rw [he]; decide)]⟩
  · exact ends11_bad k t g v i a1 l1 q1 z w hok.1 h
end Go.Proofs.Ytemjcgmoacnnfaa
