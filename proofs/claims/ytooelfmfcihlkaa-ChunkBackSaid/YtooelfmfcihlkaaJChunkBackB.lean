/-
  The statement ChunkBack of outstationlaw13 holds: for every input that can be read, the call returns true, and each argument reads as it did. No condition of its own.
-/
import Derived.Test.YtooelfmfcihlkaaJChunkBackA
import Derived.IntWalk
import Derived.Lib.SlBytesConst
import Derived.Test.YtooelfmfcihlkaaRows
namespace Go.Proofs.Ytooelfmfcihlkaa
open Go.RowKit
set_option linter.unusedVariables false
set_option maxRecDepth 100000

theorem or_u8 (x y : Int) (hx : 0 ≤ x ∧ x < 256) (hy : 0 ≤ y ∧ y < 256) : bits .or .i64 (x * 256) y = x * 256 + y := by
  have orw : ∀ x y : Nat, y < 256 → (x * 256) ||| y = x * 256 + y := fun x y hy => by
    have h := Nat.two_pow_add_eq_or_of_lt (i := 8) (b := y) (by omega) x
    rw [Nat.mul_comm x 256]
    exact h.symm
  obtain ⟨a, rfl⟩ := Int.eq_ofNat_of_zero_le hx.1
  obtain ⟨b, rfl⟩ := Int.eq_ofNat_of_zero_le hy.1
  show IntKind.i64.wrap ((BitVec.ofInt 64 ((a : Int) * 256) ||| BitVec.ofInt 64 (b : Int)).toNat : Int) = _
  have e1 : (a : Int) * 256 = ((a * 256 : Nat) : Int) := by omega
  have f1 : (BitVec.ofInt 64 ((a * 256 : Nat) : Int)).toNat = a * 256 := by rw [BitVec.ofInt_natCast, BitVec.toNat_ofNat]; exact Nat.mod_eq_of_lt (by omega)
  have f2 : (BitVec.ofInt 64 ((b : Nat) : Int)).toNat = b := by rw [BitVec.ofInt_natCast, BitVec.toNat_ofNat]; exact Nat.mod_eq_of_lt (by omega)
  rw [e1, BitVec.toNat_or, f1, f2, orw a b (by omega)]
  exact IntWalk.i64_in _ (by omega)
/-- What bytes say, case by case. -/
theorem ckE_1 {b : List Int} (h : b.length < 6) : ckE b = 1 := if_pos h
theorem ckE_2 {b : List Int} (h : ¬ b.length < 6) (h2 : 1024 < ckN b) : ckE b = 2 := by unfold ckE; rw [if_neg h, if_pos h2]
theorem ckE_3 {b : List Int} (h : ¬ b.length < 6) (h2 : ¬ 1024 < ckN b) (h3 : b.length < 6 + ckN b) : ckE b = 1 := by unfold ckE; rw [if_neg h, if_neg h2, if_pos h3]
theorem ckE_4 {b : List Int} (h : ¬ b.length < 6) (h2 : ¬ 1024 < ckN b) (h3 : ¬ b.length < 6 + ckN b) (h4 : (b.drop 2).take 4 = be4 (ckS (ckP b))) : ckE b = 0 := by unfold ckE; rw [if_neg h, if_neg h2, if_neg h3, if_pos h4]
theorem ckE_5 {b : List Int} (h : ¬ b.length < 6) (h2 : ¬ 1024 < ckN b) (h3 : ¬ b.length < 6 + ckN b) (h4 : ¬ (b.drop 2).take 4 = be4 (ckS (ckP b))) : ckE b = 5 := by unfold ckE; rw [if_neg h, if_neg h2, if_neg h3, if_neg h4]
theorem ckG_no {b : List Int} (h : ¬ ckE b = 0) : ckG b = [] := if_neg h
theorem ckM_no {b : List Int} (h : ¬ ckE b = 0) : ckM b = 0 := if_neg h
theorem ckG_yes {b : List Int} (h : ckE b = 0) : ckG b = ckP b := if_pos h
theorem ckM_yes {b : List Int} (h : ckE b = 0) : ckM b = 6 + ckN b := if_pos h
theorem ckP_has {b : List Int} (h3 : 6 + ckN b ≤ b.length) : (ckP b).length = ckN b := by
  unfold ckP
  rw [List.length_take, List.length_drop]
  omega
/-- The head that bytes begin with is right just if their sum is. -/
theorem ck_head {b : List Int} (hb : ∀ x ∈ b, (Lit.int .u8 x).wf = true) (h1 : 6 ≤ b.length) (h3 : 6 + ckN b ≤ b.length) : b.take 6 = ckH (ckP b).length ++ be4 (ckS (ckP b)) ↔ (b.drop 2).take 4 = be4 (ckS (ckP b)) := by
  rw [ckP_has h3]
  generalize be4 (ckS (ckP b)) = z
  match b, h1, hb with
  | b0 :: b1 :: t, h1, hb =>
    have w0 := wf_u8 (hb b0 (by simp))
    have w1 := wf_u8 (hb b1 (by simp))
    have hn : ckN (b0 :: b1 :: t) = b0.toNat * 256 + b1.toNat := rfl
    have e0 : (((b0.toNat * 256 + b1.toNat) / 256 : Nat) : Int) = b0 := by omega
    have e1 : (((b0.toNat * 256 + b1.toNat) % 256 : Nat) : Int) = b1 := by omega
    have hH : ckH (ckN (b0 :: b1 :: t)) = [b0, b1] := by rw [hn]; unfold ckH; rw [e0, e1]
    rw [hH]
    simp
theorem ckE_small (b : List Int) : 0 ≤ ckE b ∧ ckE b ≤ 5 := by
  unfold ckE
  repeat' split
  all_goals omega
theorem ckM_le (b : List Int) : ckM b ≤ b.length := by
  by_cases h : ckE b = 0
  · rw [ckM_yes h]; exact (ckE_zero.1 h).2.2.1
  · rw [ckM_no h]; exact Nat.zero_le _
theorem ckG_len (b : List Int) : (ckG b).length ≤ 1024 := by
  by_cases h : ckE b = 0
  · rw [ckG_yes h, ckP_len h]; exact (ckE_zero.1 h).2.1
  · rw [ckG_no h]; simp
theorem ckG_wf {b : List Int} (hb : ∀ x ∈ b, (Lit.int .u8 x).wf = true) : ∀ x ∈ ckG b, (Lit.int .u8 x).wf = true := by
  by_cases h : ckE b = 0
  · rw [ckG_yes h]; intro x hx; exact hb x (List.mem_of_mem_drop (List.mem_of_mem_take hx))
  · rw [ckG_no h]; intro x hx; cases hx

/-- A call returns the payload, in a list of its own, known whole, how many bytes the chunk has, and an error. -/
def ChGot (w : World) (b : List Int) (e : Ending) (w' : World) : Prop := ∃ v, e = .returned (.tuple #[v, .int .i64 (ckM b : Nat), .int .i64 (ckE b)]) ∧ KOwn .u8 5 w' w.heap.size v (ckG b) ∧ Below w.heap.size w w'
theorem ChGot.none_ {w w' : World} {b : List Int} {E : Int} (h : ckE b = E) (h0 : E ≠ 0) (hb : Below w.heap.size w w') : ChGot w b (.returned (.tuple #[.slice none 0 0, .int .i64 0, .int .i64 E])) w' := by
  have hn : ¬ ckE b = 0 := by rw [h]; exact h0
  exact ⟨_, by rw [ckM_no hn, h]; rfl, by rw [ckG_no hn]; exact KOwn.nil _ _ _ _, hb⟩
theorem bel_dn (w : World) (m : Nat) : Below w.heap.size w (w.drewN m) := ⟨rfl, rfl, rfl, Nat.le_refl _, fun _ _ => rfl⟩

set_option maxHeartbeats 2000000 in
theorem chGet_any (A : Option Addr) (n c : Nat) (b : List Int) (w : World) (hr : Row .u8 w w.heap.size A b) (hn : b.length = n) (hc : n ≤ c) (hm : n ≤ 140737488355328) :
    Calls Try.prog 13 #[.slice A n c] w (ChGot w b) := by
  by_cases h6 : n < 6
  · have HE : Hid (ckE b = 1) := Lib.hid (ckE_1 (by omega))
    have i1 : (n : Int) < 6 := by omega
    clear hr hn
    go_enter Try.func13, Try.ntmps13
    go_wp2
    go_ret3
    exact ChGot.none_ HE.out (by decide) (Below.refl _ _)
  · obtain ⟨b0, o0, rfl, _, c0⟩ := hr.at_ (i := 0) (by omega)
    obtain ⟨b1, o1, e1, _, c1⟩ := hr.at_ (i := 1) (by omega)
    injection e1 with e1
    injection e1 with e11 e12
    subst e11 e12
    have x0 := wf_u8 (hr.wf_at (i := 0) (by omega))
    have x1 := wf_u8 (hr.wf_at (i := 1) (by omega))
    have hor := or_u8 _ _ x0 x1
    have hN : nth b 0 * 256 + nth b 1 = ((ckN b : Nat) : Int) := by unfold ckN; omega
    rw [hN] at hor
    have hNb : ckN b < 65536 := by omega
    rw [Nat.add_zero] at c0
    have HR := Lib.hid hr
    have HN := Lib.hid hn
    obtain ⟨N, hNN⟩ : ∃ N, Hid (ckN b = N) := ⟨_, Lib.hid rfl⟩
    rw [hNN.out] at hor hNb
    clear hN
    generalize nth b 0 = x at *
    generalize nth b 1 = y at *
    have ew : IntKind.i64.wrap (x * 256) = x * 256 := IntWalk.i64_in _ (by omega)
    have t0 : (0 : Int) < (n : Int) := by omega
    have t1 : (1 : Int) < (n : Int) := by omega
    have t6 : ¬ (n : Int) < 6 := by omega
    clear hr hn
    by_cases hbig : 1024 < N
    · have HE : Hid (ckE b = 2) := Lib.hid (ckE_2 (by rw [HN.out]; exact h6) (by rw [hNN.out]; exact hbig))
      have i2 : (N : Int) > 1024 := by omega
      go_enter Try.func13, Try.ntmps13
      go_wp2
      go_quiet (fail)
      go_wp2
      go_ret3
      exact ChGot.none_ HE.out (by decide) (bel_dn _ _)
    by_cases hsh : n < 6 + N
    · have HE : Hid (ckE b = 1) := Lib.hid (ckE_3 (by rw [HN.out]; exact h6) (by rw [hNN.out]; exact hbig) (by rw [HN.out, hNN.out]; exact hsh))
      have i2 : ¬ (N : Int) > 1024 := by omega
      have i3 : (n : Int) < 6 + (N : Int) := by omega
      go_enter Try.func13, Try.ntmps13
      go_wp2
      go_quiet (fail)
      go_wp2
      go_ret3
      exact ChGot.none_ HE.out (by decide) (bel_dn _ _)
    have i2 : ¬ (N : Int) > 1024 := by omega
    have i3 : ¬ (n : Int) < 6 + (N : Int) := by omega
    have j1 : (6 : Int) ≤ 6 + (N : Int) := by omega
    have j2 : (6 : Int) + (N : Int) ≤ (c : Int) := by omega
    have j3 : 6 + N ≤ c := by omega
    have j4 : ((6 : Int) + (N : Int)).toNat = 6 + N := by omega
    have j5 : (6 : Int) ≤ (c : Int) := by omega
    have hpl : Hid ((ckP b).length = N) := Lib.hid (by rw [ckP_has (by rw [hNN.out, HN.out]; omega), hNN.out])
    have hh := ck_head HR.out.1 (by rw [HN.out]; omega) (by rw [hNN.out, HN.out]; omega)
    have HP : Hid (Row .u8 w w.heap.size (some ⟨b0, o0 + 6, none⟩) (ckP b)) := Lib.hid (by have := (HR.out.drop 6).front N; rw [← hNN.out] at this; exact this)
    have HT : Hid (Row .u8 w w.heap.size (some ⟨b0, o0, none⟩) (b.take 6)) := Lib.hid (HR.out.front 6)
    have HTL : Hid ((b.take 6).length = 6) := Lib.hid (by rw [List.length_take, HN.out]; omega)
    obtain ⟨P, hP⟩ : ∃ P, Hid (ckP b = P) := ⟨_, Lib.hid rfl⟩
    obtain ⟨T, hT⟩ : ∃ T, Hid (b.take 6 = T) := ⟨_, Lib.hid rfl⟩
    rw [hP.out] at hpl hh HP
    rw [hT.out] at hh HT HTL
    have HHL : Hid ((ckH P.length ++ be4 (ckS P)).length = 6) := Lib.hid (by simp [ckH, be4])
    have HHW : Hid (∀ x ∈ ckH P.length ++ be4 (ckS P), (Lit.int .u8 x).wf = true) := Lib.hid (wf_append (ckH_wf (by rw [hpl.out]; omega)) (be4_wf _))
    have k1 : Hid (¬ b.length < 6) := Lib.hid (by rw [HN.out]; exact h6)
    have k2 : Hid (¬ 1024 < ckN b) := Lib.hid (by rw [hNN.out]; exact hbig)
    have k3 : Hid (¬ b.length < 6 + ckN b) := Lib.hid (by rw [HN.out, hNN.out]; exact hsh)
    have HHd : Hid (∀ q ad cc, (0 < N → ad = some ⟨b0, o0 + 6, none⟩) → Calls Try.prog 25 #[.slice ad N cc] (w.drewN q) fun e w' => e = .returned (.slice (some ⟨w.heap.size, 0, none⟩) 6 6) ∧ Below w.heap.size w w' ∧ (∀ cc', Calls Try.prog 28 #[.slice (some ⟨b0, o0, none⟩) 6 cc', .slice (some ⟨w.heap.size, 0, none⟩) 6 6] w' fun e w'' => e = .returned (.bool (decide (T = ckH P.length ++ be4 (ckS P)))) ∧ w' = w'')) := Lib.hid (fun q ad cc had => by
      have hrow : Row .u8 (w.drewN q) (w.drewN q).heap.size ad P := by
        rcases Nat.eq_zero_or_pos N with h0 | h0
        · have : P = [] := List.eq_nil_of_length_eq_zero (by rw [hpl.out]; exact h0)
          rw [this]; exact Row.nil _ _ _ _
        · rw [had h0]; exact HP.out.drewN q
      refine (head_any ad N cc P _ hrow hpl.out (by omega)).mono fun e w1 ⟨he, hg, hb⟩ => ?_
      have hbel : Below w.heap.size w w1 := (bel_dn w q).trans hb
      refine ⟨he, hbel, fun cc' => ?_⟩
      have hT1 := HT.out.below hbel
      have hH1 := Row.of_block hg _ HHW.out (List.prefix_refl _)
      by_cases heq : T = ckH P.length ++ be4 (ckS P)
      · rw [decide_eq_true heq]
        rw [← heq] at hH1
        exact equal_yes _ _ _ _ _ _ T _ _ _ hT1 hH1 HTL.out HTL.out
      · rw [decide_eq_false heq]
        exact equal_no _ _ _ _ _ _ T _ _ _ _ hT1 hH1 HTL.out HHL.out heq)
    have HCl : Hid (∀ w1 ad cc, (0 < N → ad = some ⟨b0, o0 + 6, none⟩) → Below w.heap.size w w1 → Calls Try.prog 29 #[.slice ad N cc] w1 fun e w' => ∃ v, e = .returned v ∧ KOwn .u8 5 w' w.heap.size v P ∧ Below w.heap.size w w') := Lib.hid (fun w1 ad cc had hb => by
      have hrow : Row .u8 w1 w1.heap.size ad P := by
        rcases Nat.eq_zero_or_pos N with h0 | h0
        · have : P = [] := List.eq_nil_of_length_eq_zero (by rw [hpl.out]; exact h0)
          rw [this]; exact Row.nil _ _ _ _
        · rw [had h0]; exact (HP.out.below hb).more hb.size
      refine (clone_any ad N cc P w1 hrow hpl.out (by omega)).mono fun e w2 ⟨v, he, hk, hb2⟩ => ⟨v, he, hk.mono hb.size, hb.trans (hb2.mono hb.size)⟩)
    by_cases heq : T = ckH P.length ++ be4 (ckS P)
    · have HE : Hid (ckE b = 0) := Lib.hid (ckE_4 k1.out k2.out k3.out (by rw [hP.out]; exact hh.1 heq))
      have HD : Hid (decide (T = ckH P.length ++ be4 (ckS P)) = true) := Lib.hid (decide_eq_true heq)
      rw [HD.out] at HHd
      clear heq hh HR HT HP HTL HHL HHW k1 k2 k3 HD hT
      have HM : Hid (∀ v : Value, (Ending.returned (.tuple #[v, .int .i64 (6 + (N : Int)), .int .i64 0])) = .returned (.tuple #[v, .int .i64 (ckM b : Nat), .int .i64 (ckE b)])) := Lib.hid (fun v => by rw [ckM_yes HE.out, HE.out, hNN.out]; rfl)
      have HG : Hid (ckG b = P) := Lib.hid (by rw [ckG_yes HE.out, hP.out])
      by_cases hc6 : c = 6
      all_goals
        (go_enter Try.func13, Try.ntmps13
         go_wp2
         go_quiet (fail)
         go_wp2
         go_region_with (first
           | (go_at_call 25; refine (HHd.out _ _ _ (fun h => by first | rfl | omega)).mono ?_; rintro e w1 ⟨rfl, hb1, heq⟩)
           | (go_at_call 28; refine (heq _).mono ?_; rintro e w2 ⟨rfl, rfl⟩))
         go_wp2_with (go_at_call 29; refine (HCl.out _ _ _ (fun h => by first | rfl | omega) hb1).mono ?_; rintro e w3 ⟨v3, rfl, hk3, hb3⟩)
         go_ret3
         exact ⟨v3, HM.out v3, by rw [HG.out]; exact hk3, hb3⟩)
    · have HE : Hid (ckE b = 5) := Lib.hid (ckE_5 k1.out k2.out k3.out (by rw [hP.out]; exact fun h => heq (hh.2 h)))
      have HD : Hid (decide (T = ckH P.length ++ be4 (ckS P)) = false) := Lib.hid (decide_eq_false heq)
      rw [HD.out] at HHd
      clear heq hh HR HT HP HTL HHL HHW k1 k2 k3 HD hT HCl
      by_cases hc6 : c = 6
      all_goals
        (go_enter Try.func13, Try.ntmps13
         go_wp2
         go_quiet (fail)
         go_wp2
         go_region_with (first
           | (go_at_call 25; refine (HHd.out _ _ _ (fun h => by first | rfl | omega)).mono ?_; rintro e w1 ⟨rfl, hb1, heq⟩)
           | (go_at_call 28; refine (heq _).mono ?_; rintro e w2 ⟨rfl, rfl⟩))
         go_wp2
         go_ret3
         exact ChGot.none_ HE.out (by decide) hb1)
end Go.Proofs.Ytooelfmfcihlkaa
namespace Go.Proofs.Ytooelfmfcihlkaa
open Go.RowKit
set_option linter.unusedVariables false
set_option maxRecDepth 100000

def abc13 : List Int := [97, 98, 99]
def bad13 : List Int := [0, 1, 0, 0, 0, 0, 5]
theorem abc13_wf : ∀ x ∈ abc13, (Lit.int .u8 x).wf = true := by decide
theorem bad13_wf : ∀ x ∈ bad13, (Lit.int .u8 x).wf = true := by decide
theorem bad13_err : ckE bad13 = 5 := by decide +kernel
theorem abc13_put : ckPut abc13 = ckL abc13 := ckPut_ok (by decide)
theorem abc13_ok : ckPE abc13 = 0 := ckPE_ok (by decide)

set_option maxHeartbeats 2000000 in
theorem known13_yes (w : World) : Calls Try.prog 21 #[] w fun e w' => e = .returned (.bool true) ∧ Below w.heap.size w w' := by
  obtain ⟨L, hL⟩ : ∃ L, Hid (ckL abc13 = L) := ⟨_, Lib.hid rfl⟩
  have hLl : Hid (L.length = 9) := Lib.hid (by rw [← hL.out, ckL_len]; rfl)
  have hLw : Hid (∀ x ∈ L, (Lit.int .u8 x).wf = true) := Lib.hid (by rw [← hL.out]; exact ckL_wf (by decide) abc13_wf)
  have hL0 : Hid (nth L 0 = 0) := Lib.hid (by rw [← hL.out]; rfl)
  have hL1 : Hid (nth L 1 = 3) := Lib.hid (by rw [← hL.out]; rfl)
  have hback := ck_back (p := abc13) (by decide) []
  rw [List.append_nil, hL.out] at hback
  have hE : Hid (ckE L = 0) := Lib.hid hback.1
  have hG : Hid (ckG L = abc13) := Lib.hid hback.2.1
  have hM : Hid (ckM L = 9) := Lib.hid hback.2.2
  clear hback
  have hcv := fun (W : World) (C : Array Value) (n c : Nat) => Lib.run_convert_bytes_const (P := Try.prog) W 22 5 C n c Try.underlying22 Try.underlying5
  go_enter Try.func21, Try.ntmps21
  go_wp2_with fail
  have b1 : Below w.heap.size w (w.alloc (.cells (blk .u8 abc13) 5 (3, 4))) := bel_alloc w _
  have g1 : (w.alloc (.cells (blk .u8 abc13) 5 (3, 4))).heap[w.heap.size]? = some (.cells (blk .u8 abc13) 5 (3, 4)) := heap_alloc_new w _
  show Calls _ _ _ (w.alloc (.cells (blk .u8 abc13) 5 (3, 4))) _
  generalize w.alloc (.cells (blk .u8 abc13) 5 (3, 4)) = w1 at *
  refine (chPut_any (some ⟨w.heap.size, 0, none⟩) 3 3 abc13 w1 ((Row.of_block g1 _ abc13_wf (List.prefix_refl _)).more (block_lt g1)) rfl (by omega)).mono ?_
  rintro e w2 ⟨v2, rfl, k2, d2⟩
  rw [abc13_put, hL.out] at k2
  rw [abc13_ok]
  have b2 := b1.trans (d2.mono b1.size)
  obtain ⟨A2, c2, rfl, r2, hc2, _⟩ := k2.row hLw.out
  rw [hLl.out] at hc2 ⊢
  have R2 := Lib.hid r2
  clear k2 d2 r2 b1 g1
  go_wp2_with fail
  refine (chGet_any A2 9 c2 L w2 R2.out hLl.out hc2 (by omega)).mono ?_
  rintro e w3 ⟨v3, rfl, k3, d3⟩
  rw [hG.out] at k3
  rw [hM.out, hE.out]
  have b3 := b2.trans (d3.mono b2.size)
  have R3 := Lib.hid ((R2.out.below d3).more d3.size)
  obtain ⟨A3, c3, rfl, r3, hc3, _⟩ := k3.row abc13_wf
  have P3 := Lib.hid r3
  clear k3 d3 r3 b2 R2
  go_wp2_with fail
  have b4 : Below w.heap.size w (w3.alloc (.cells (blk .u8 bad13) 5)) := b3.alloc b3.size _
  have g4 : (w3.alloc (.cells (blk .u8 bad13) 5)).heap[w3.heap.size]? = some (.cells (blk .u8 bad13) 5 (0, 0)) := heap_alloc_new w3 _
  have R4 := Lib.hid ((R3.out.below (bel_alloc w3 (.cells (blk .u8 bad13) 5))).more (bel_alloc w3 (.cells (blk .u8 bad13) 5)).size)
  have P4 := Lib.hid ((P3.out.below (bel_alloc w3 (.cells (blk .u8 bad13) 5))).more (bel_alloc w3 (.cells (blk .u8 bad13) 5)).size)
  show Calls _ _ _ (w3.alloc (.cells (blk .u8 bad13) 5)) _
  generalize w3.alloc (.cells (blk .u8 bad13) 5) = w4 at *
  refine (chGet_any (some ⟨w3.heap.size, 0, none⟩) 7 7 bad13 w4 ((Row.of_block g4 _ bad13_wf (List.prefix_refl _)).more (block_lt g4)) rfl (by omega) (by omega)).mono ?_
  rintro e w5 ⟨v5, rfl, k5, d5⟩
  have hbg : ckG bad13 = [] := ckG_no (by rw [bad13_err]; decide)
  have hbm : ckM bad13 = 0 := ckM_no (by rw [bad13_err]; decide)
  rw [hbg] at k5
  rw [hbm, bad13_err]
  obtain ⟨A5, c5, rfl, _⟩ := k5.form
  have b5 := b4.trans (d5.mono b4.size)
  have R5 := Lib.hid ((R4.out.below d5).more d5.size)
  have P5 := Lib.hid ((P4.out.below d5).more d5.size)
  clear k5 d5 b3 b4 g4 R3 P3 R4 P4 hbg hbm
  obtain ⟨bb, oo, rfl, _, q0⟩ := R5.out.at_ (i := 0) (by rw [hLl.out]; omega)
  obtain ⟨bb', oo', ee, _, q1⟩ := R5.out.at_ (i := 1) (by rw [hLl.out]; omega)
  injection ee with ee
  injection ee with e1 e2
  subst e1 e2
  rw [hL0.out, Nat.add_zero] at q0
  rw [hL1.out] at q1
  have HS : Hid (∀ c', Calls Try.prog 17 #[.slice A3 3 c3, .slice (some ⟨w5.heap.size, 0, none⟩) 3 c'] (w5.alloc (.cells #[.int .u8 97, .int .u8 98, .int .u8 99] 5 (3, 4))) fun e w' => e = .returned (.bool true) ∧ ∃ m, w' = (w5.alloc (.cells #[.int .u8 97, .int .u8 98, .int .u8 99] 5 (3, 4))).drewN m) := Lib.hid (fun c' => by
    have g6 : (w5.alloc (.cells (blk .u8 abc13) 5 (3, 4))).heap[w5.heap.size]? = some (.cells (blk .u8 abc13) 5 (3, 4)) := heap_alloc_new w5 _
    exact same_yes_u8 A3 _ 3 c3 c' abc13 _ _ _ (P5.out.below (bel_alloc w5 _)) (Row.of_block g6 _ abc13_wf (List.prefix_refl _)) rfl (by omega))
  have b6 : Below w.heap.size w (w5.alloc (.cells #[.int .u8 97, .int .u8 98, .int .u8 99] 5 (3, 4))) := b5.alloc b5.size _
  go_wp2_with fail
  refine (HS.out _).mono ?_
  rintro e w7 ⟨rfl, m7, rfl⟩
  have b7 := below_drewN b6 m7
  clear b6 HS
  go_wp2
  go_ret
  exact ⟨rfl, b7⟩
end Go.Proofs.Ytooelfmfcihlkaa
namespace Go.Proofs.Ytooelfmfcihlkaa
open Go.RowKit
set_option linter.unusedVariables false
set_option maxRecDepth 100000

set_option maxHeartbeats 4000000 in
theorem walk_ChunkBack (A : Option Addr) (n c : Nat) (x : List Int) (A1 : Option Addr) (n1 c1 : Nat) (x1 : List Int) (w : World) (hr : Row .u8 w w.heap.size A x) (hn : x.length = n) (hc : n ≤ c) (hm : c ≤ 140737488351232) (hr1 : Row .u8 w w.heap.size A1 x1) (hn1 : x1.length = n1) (hc1 : n1 ≤ c1) (hm1 : c1 ≤ 140737488351232) :
    Calls Try.prog 5 #[.slice A n c, .slice A1 n1 c1] w fun e w' => e = .returned (.bool true) ∧ Below w.heap.size w w' := by
  have HR := Lib.hid hr
  have HN := Lib.hid hn
  have HR1 := Lib.hid hr1
  have HN1 := Lib.hid hn1
  have hwf := Lib.hid hr.1
  have hwf1 := Lib.hid hr1.1
  clear hr hn hr1 hn1
  by_cases h0 : 65536 < n
  · have i0 : (n : Int) > 65536 := by omega
    go_enter Try.func5, Try.ntmps5
    go_wp2_with (go_at_call 21; refine (known13_yes _).mono ?_; rintro e w1 ⟨rfl, b1⟩)
    go_ret
    exact ⟨rfl, b1⟩
  by_cases h1 : 65536 < n1
  · have i0 : ¬ (n : Int) > 65536 := by omega
    have i1 : (n1 : Int) > 65536 := by omega
    go_enter Try.func5, Try.ntmps5
    go_wp2_with (go_at_call 21; refine (known13_yes _).mono ?_; rintro e w1 ⟨rfl, b1⟩)
    go_ret
    exact ⟨rfl, b1⟩
  have i0 : ¬ (n : Int) > 65536 := by omega
  have i1 : ¬ (n1 : Int) > 65536 := by omega
  by_cases h2 : 1024 < n
  · have i2 : (n : Int) > 1024 := by omega
    have HE : Hid (ckPE x = 2) := Lib.hid (ckPE_big (by rw [HN.out]; exact h2))
    have HP : Hid (ckPut x = []) := Lib.hid (ckPut_big (by rw [HN.out]; exact h2))
    go_enter Try.func5, Try.ntmps5
    go_wp2_with fail
    refine (chPut_any A n c x w HR.out HN.out (by omega)).mono ?_
    rintro e w1 ⟨v1, rfl, k1, b1⟩
    rw [HP.out] at k1
    rw [HE.out]
    obtain ⟨Av, cv, rfl, _⟩ := k1.form
    go_wp2_with (go_at_call 21; refine (known13_yes _).mono ?_; rintro e w2 ⟨rfl, b2⟩)
    go_ret
    exact ⟨rfl, b1.trans (b2.mono b1.size)⟩
  have i2 : ¬ (n : Int) > 1024 := by omega
  have HE : Hid (ckPE x = 0) := Lib.hid (ckPE_ok (by rw [HN.out]; omega))
  have HP : Hid (ckPut x = ckL x) := Lib.hid (ckPut_ok (by rw [HN.out]; omega))
  have hback := ck_back (p := x) (by rw [HN.out]; omega) x1
  have HLw : Hid (∀ y ∈ ckL x, (Lit.int .u8 y).wf = true) := Lib.hid (ckL_wf (by rw [HN.out]; omega) hwf.out)
  have HLl : Hid ((ckL x).length = 6 + n) := Lib.hid (by rw [ckL_len, HN.out])
  obtain ⟨L, hL⟩ : ∃ L, Hid (ckL x = L) := ⟨_, Lib.hid rfl⟩
  rw [hL.out] at HP hback HLw HLl
  rw [HN.out] at hback
  have E1 : Hid (ckE (L ++ x1) = 0) := Lib.hid hback.1
  have G1 : Hid (ckG (L ++ x1) = x) := Lib.hid hback.2.1
  have M1 : Hid (ckM (L ++ x1) = 6 + n) := Lib.hid hback.2.2
  have HAl : Hid ((L ++ x1).length = 6 + n + n1) := Lib.hid (by rw [List.length_append, HLl.out, HN1.out])
  have HAw : Hid (∀ y ∈ L ++ x1, (Lit.int .u8 y).wf = true) := Lib.hid (wf_append HLw.out hwf1.out)
  clear hback hL
  go_enter Try.func5, Try.ntmps5
  go_wp2_with fail
  refine (chPut_any A n c x w HR.out HN.out (by omega)).mono ?_
  rintro e w1 ⟨v1, rfl, k1, b1⟩
  rw [HP.out] at k1
  rw [HE.out]
  obtain ⟨Av, cv, rfl, r1, _⟩ := k1.row HLw.out
  rw [HLl.out]
  have R1 := Lib.hid r1
  clear k1 r1
  go_wp2_with fail
  refine (copy_u8 Av (6 + n) cv L w1 R1.out HLl.out (by omega)).mono ?_
  rintro e w2 ⟨v2, rfl, o2, d2⟩
  have b2 := b1.trans (d2.mono b1.size)
  have hd2 := d2.size
  have O2 := Lib.hid o2
  have RM := Lib.hid ((HR1.out.below b2).more b2.size)
  clear o2
  go_wp2_with (at_builtin; refine wpList_append_row _ rfl _ _ 22 rfl w1.heap.size .u8 5 1 Try.underlying22 info_u8 _ L rfl O2.out _ A1 n1 c1 x1 rfl RM.out HN1.out (by rw [HLl.out]; omega) (by rw [HLl.out]; simp only [maxLen]; omega) hd2 ?_; intro v3 w3 o3 g3)
  have b3 : Below w.heap.size w w3 := b2.grown g3 b2.size fun g e => Nat.le_trans b1.size (O2.out.block g e).1
  obtain ⟨A3, c3, rfl, r3, hc3, _⟩ := o3.row HAw.out
  rw [HAl.out] at hc3 ⊢
  refine (chGet_any A3 (6 + n + n1) c3 (L ++ x1) w3 r3 HAl.out hc3 (by omega)).mono ?_
  rintro e w4 ⟨v4, rfl, k4, d4⟩
  rw [G1.out] at k4
  rw [M1.out, E1.out]
  have b4 := b3.trans (d4.mono b3.size)
  obtain ⟨A4, c4, rfl, r4, _⟩ := k4.row hwf.out
  rw [HN.out]
  have R4 := Lib.hid r4
  have HX := Lib.hid ((HR.out.below b4).more b4.size)
  have t1 : (((6 + n : Nat) : Int) == 6 + (n : Int)) = true := by simp
  have t2 : (((6 + n : Nat) : Int) == ((6 + n : Nat) : Int)) = true := by simp
  clear O2 RM o3 g3 r3 k4 d4 d2 r4 R1
  go_wp2_with fail
  refine (same_yes_u8 A4 A n c4 c x w4 _ _ R4.out HX.out HN.out (by omega)).mono ?_
  rintro e w5 ⟨rfl, m5, rfl⟩
  have b5 := below_drewN b4 m5
  go_wp2_with (go_at_call 21; refine (known13_yes _).mono ?_; rintro e w6 ⟨rfl, b6⟩)
  go_ret
  exact ⟨rfl, b5.trans (b6.mono b5.size)⟩
end Go.Proofs.Ytooelfmfcihlkaa
namespace Go.Proofs.Ytooelfmfcihlkaa.chunkBack
open Go.ChangeShapes Go.WideShapes Go.ChangeAt Go.RowKit
open Go.ChangeMaps (open_string shut_string)
set_option linter.unusedVariables false

theorem own : ownKnob Try.prog.godebug = none := by kernel_rfl
theorem laidOut : laidOutB Try.prog = true := by kernel_rfl

set_option maxRecDepth 100000 in
theorem lifted (os : Os) (started : os.Started) (H : Type) (enc : TypeId × Value → H) :
    ReturnsInHanded {} Try.checked os 5 .any (Rows.chunkBackSpec.pre6 enc Try.prog Try.f5 Rows.chunkBackRow.domain false) (Rows.chunkBackSpec.post enc Try.prog Try.f5 false true false false) := by
  refine returnsInHanded_of_change_sized (C := Try.checked) own started (by kernel_rfl) Try.func5
    (ChangeSpec.witness6 (enc := enc) (C := Try.checked) false ⟨#[], #[.slice none 0 0, .slice none 0 0], []⟩ 8 (by kernel_rfl) (by kernel_rfl) (by kernel_rfl) (by kernel_rfl)) ?_
  intro W base args ds gs before hval0 hW hcnd hsz0 _
  have hsz : (DataW.weightsEach Try.prog (Try.f5.params.toList ++ Rows.chunkBackSpec.plain.varTypes Try.prog) (ds ++ gs)).all (· ≤ reachBytes) = true := hsz0
  clear hsz0
  have hval : ∀ (j : Nat) t v, Try.f5.params[j]? = some t → args[j]? = some v → Value.okWide Try.prog W .any base t v := hval0
  have hW' := hW
  obtain ⟨p, q, hA0, hV, rfl, hfz, hnd⟩ := hW
  have hA : DataW.TrodAll enc Try.prog W 0 (fun _ => true) true Try.f5.params.toList args.toList ds p := hA0
  rw [Try.params5] at hA hval hsz
  obtain ⟨v0, vs0, d0, ds0, p0, q0, hargs, rfl, rfl, h0, r0⟩ := trodAll_cons hA
  obtain ⟨v1, vs1, d1, ds1, p1, q1, rfl, rfl, rfl, h1, r1⟩ := trodAll_cons r0
  obtain ⟨rfl, rfl, rfl⟩ := trodAll_nil r1
  obtain rfl : args = #[v0, v1] := by cases args; simp_all
  obtain ⟨rfl, rfl⟩ := trodVars_none hV
  obtain ⟨a0, l0, c0, rfl⟩ := okWide_slice Try.underlying22 (hval 0 22 v0 rfl rfl)
  have k0 := h0
  have lt0 : ∀ x ∈ p0, x.block < W.heap.size := by obtain ⟨m, hm⟩ := k0; exact DataW.trod_lt m _ _ _ hm
  obtain ⟨x0, w0, n0, s0, r0d⟩ := row_in Try.underlying22 Try.underlying5 (by kernel_rfl) h0 lt0
  have m0 := reach_in hsz 0 rfl rfl Try.underlying22 (of_decide_eq_true (by kernel_rfl)) r0d
  obtain ⟨a1, l1, c1, rfl⟩ := okWide_slice Try.underlying22 (hval 1 22 v1 rfl rfl)
  have k1 := h1
  have lt1 : ∀ x ∈ p1, x.block < W.heap.size := by obtain ⟨m, hm⟩ := k1; exact DataW.trod_lt m _ _ _ hm
  obtain ⟨x1, w1, n1, s1, r1d⟩ := row_in Try.underlying22 Try.underlying5 (by kernel_rfl) h1 lt1
  have m1 := reach_in hsz 1 rfl rfl Try.underlying22 (of_decide_eq_true (by kernel_rfl)) r1d
  clear hA0 hval0
  refine (walk_ChunkBack a0 l0 c0 x0 a1 l1 c1 x1 W w0 n0 s0 m0 w1 n1 s1 m1).mono fun e W' ⟨he, bel⟩ => ?_
  subst he
  exact ⟨_, rfl, _, _, _, [], _, [], hW', trodAll_mk1 (shut_bool Try.underlying4 _), (trodAll_cons_mk (Below.trod laidOut (by kernel_rfl) (of_decide_eq_true (by kernel_rfl)) k0 bel lt0) (trodAll_cons_mk (Below.trod laidOut (by kernel_rfl) (of_decide_eq_true (by kernel_rfl)) k1 bel lt1) trodAll_mk0)), rfl, bel.frame _, fun h => by cases h⟩

theorem over : Rows.chunkBackRow.holds Try.pinned (OpenSpec.ofChange Rows.chunkBackSpec) :=
  OpenClaim.holds_of_wide 5 Try.f5 rfl rfl rfl rfl rfl rfl rfl ⟨rfl, rfl, rfl, rfl, rfl⟩ rfl rfl rfl rfl rfl (by kernel_rfl) Try.func5 (by kernel_rfl)
    (of_decide_eq_true (by kernel_rfl)) (by unfold Func.isWrapper; first | (rw [if_pos (by decide +kernel)]; kernel_rfl) | (rw [if_neg (by decide +kernel)]; exact ⟨rfl, rfl⟩))
    (fun os started H enc _ => lifted os started H enc)

theorem proved : Rows.ChunkBackSaid := over
#print axioms proved
end Go.Proofs.Ytooelfmfcihlkaa.chunkBack
