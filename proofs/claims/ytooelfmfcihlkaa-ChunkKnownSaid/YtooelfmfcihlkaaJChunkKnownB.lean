/-
  The statement ChunkKnown of outstationlaw13 holds: for every input that can be read, the call returns true, and each argument reads as it did. No condition of its own.
-/
import Derived.Test.YtooelfmfcihlkaaJChunkKnownA
import Derived.IntWalk
import Derived.Lib.SlBytesConst
import Derived.Laws.AppendOwn
import Derived.Deep.RegionLaw
import Derived.Test.YtooelfmfcihlkaaRows
namespace Go.Proofs.Ytooelfmfcihlkaa
open Go.RowKit
set_option linter.unusedVariables false
set_option maxRecDepth 100000

theorem or_u8 (x y : Int) (hx : 0 ≤ x ∧ x < 256) (hy : 0 ≤ y ∧ y < 256) : bits .or .i64 (x * 256) y = x * 256 + y := by
  have orw : ∀ x y : Nat, y < 256 → (x * 256) ||| y = x * 256 + y := fun x y hy => by
    have h := Nat.two_pow_add_eq_or_of_lt (i := 8) (b := y) (by omega) x
    rw [Nat.mul_comm x 256]
    exact h.symm
  obtain ⟨a, rfl⟩ := Int.eq_ofNat_of_zero_le hx.1
  obtain ⟨b, rfl⟩ := Int.eq_ofNat_of_zero_le hy.1
  show IntKind.i64.wrap ((BitVec.ofInt 64 ((a : Int) * 256) ||| BitVec.ofInt 64 (b : Int)).toNat : Int) = _
  have e1 : (a : Int) * 256 = ((a * 256 : Nat) : Int) := by omega
  have f1 : (BitVec.ofInt 64 ((a * 256 : Nat) : Int)).toNat = a * 256 := by rw [BitVec.ofInt_natCast, BitVec.toNat_ofNat]; exact Nat.mod_eq_of_lt (by omega)
  have f2 : (BitVec.ofInt 64 ((b : Nat) : Int)).toNat = b := by rw [BitVec.ofInt_natCast, BitVec.toNat_ofNat]; exact Nat.mod_eq_of_lt (by omega)
  rw [e1, BitVec.toNat_or, f1, f2, orw a b (by omega)]
  exact IntWalk.i64_in _ (by omega)
/-- What bytes say, case by case. -/
theorem ckE_1 {b : List Int} (h : b.length < 6) : ckE b = 1 := if_pos h
theorem ckE_2 {b : List Int} (h : ¬ b.length < 6) (h2 : 1024 < ckN b) : ckE b = 2 := by unfold ckE; rw [if_neg h, if_pos h2]
theorem ckE_3 {b : List Int} (h : ¬ b.length < 6) (h2 : ¬ 1024 < ckN b) (h3 : b.length < 6 + ckN b) : ckE b = 1 := by unfold ckE; rw [if_neg h, if_neg h2, if_pos h3]
theorem ckE_4 {b : List Int} (h : ¬ b.length < 6) (h2 : ¬ 1024 < ckN b) (h3 : ¬ b.length < 6 + ckN b) (h4 : (b.drop 2).take 4 = be4 (ckS (ckP b))) : ckE b = 0 := by unfold ckE; rw [if_neg h, if_neg h2, if_neg h3, if_pos h4]
theorem ckE_5 {b : List Int} (h : ¬ b.length < 6) (h2 : ¬ 1024 < ckN b) (h3 : ¬ b.length < 6 + ckN b) (h4 : ¬ (b.drop 2).take 4 = be4 (ckS (ckP b))) : ckE b = 5 := by unfold ckE; rw [if_neg h, if_neg h2, if_neg h3, if_neg h4]
theorem ckG_no {b : List Int} (h : ¬ ckE b = 0) : ckG b = [] := if_neg h
theorem ckM_no {b : List Int} (h : ¬ ckE b = 0) : ckM b = 0 := if_neg h
theorem ckG_yes {b : List Int} (h : ckE b = 0) : ckG b = ckP b := if_pos h
theorem ckM_yes {b : List Int} (h : ckE b = 0) : ckM b = 6 + ckN b := if_pos h
theorem ckP_has {b : List Int} (h3 : 6 + ckN b ≤ b.length) : (ckP b).length = ckN b := by
  unfold ckP
  rw [List.length_take, List.length_drop]
  omega
/-- The head that bytes begin with is right just if their sum is. -/
theorem ck_head {b : List Int} (hb : ∀ x ∈ b, (Lit.int .u8 x).wf = true) (h1 : 6 ≤ b.length) (h3 : 6 + ckN b ≤ b.length) : b.take 6 = ckH (ckP b).length ++ be4 (ckS (ckP b)) ↔ (b.drop 2).take 4 = be4 (ckS (ckP b)) := by
  rw [ckP_has h3]
  generalize be4 (ckS (ckP b)) = z
  match b, h1, hb with
  | b0 :: b1 :: t, h1, hb =>
    have w0 := wf_u8 (hb b0 (by simp))
    have w1 := wf_u8 (hb b1 (by simp))
    have hn : ckN (b0 :: b1 :: t) = b0.toNat * 256 + b1.toNat := rfl
    have e0 : (((b0.toNat * 256 + b1.toNat) / 256 : Nat) : Int) = b0 := by omega
    have e1 : (((b0.toNat * 256 + b1.toNat) % 256 : Nat) : Int) = b1 := by omega
    have hH : ckH (ckN (b0 :: b1 :: t)) = [b0, b1] := by rw [hn]; unfold ckH; rw [e0, e1]
    rw [hH]
    simp
theorem ckE_small (b : List Int) : 0 ≤ ckE b ∧ ckE b ≤ 5 := by
  unfold ckE
  repeat' split
  all_goals omega
theorem ckM_le (b : List Int) : ckM b ≤ b.length := by
  by_cases h : ckE b = 0
  · rw [ckM_yes h]; exact (ckE_zero.1 h).2.2.1
  · rw [ckM_no h]; exact Nat.zero_le _
theorem ckG_len (b : List Int) : (ckG b).length ≤ 1024 := by
  by_cases h : ckE b = 0
  · rw [ckG_yes h, ckP_len h]; exact (ckE_zero.1 h).2.1
  · rw [ckG_no h]; simp
theorem ckG_wf {b : List Int} (hb : ∀ x ∈ b, (Lit.int .u8 x).wf = true) : ∀ x ∈ ckG b, (Lit.int .u8 x).wf = true := by
  by_cases h : ckE b = 0
  · rw [ckG_yes h]; intro x hx; exact hb x (List.mem_of_mem_drop (List.mem_of_mem_take hx))
  · rw [ckG_no h]; intro x hx; cases hx

/-- A call returns the payload, in a list of its own, known whole, how many bytes the chunk has, and an error. -/
def ChGot (w : World) (b : List Int) (e : Ending) (w' : World) : Prop := ∃ v, e = .returned (.tuple #[v, .int .i64 (ckM b : Nat), .int .i64 (ckE b)]) ∧ KOwn .u8 5 w' w.heap.size v (ckG b) ∧ Below w.heap.size w w'
theorem ChGot.none_ {w w' : World} {b : List Int} {E : Int} (h : ckE b = E) (h0 : E ≠ 0) (hb : Below w.heap.size w w') : ChGot w b (.returned (.tuple #[.slice none 0 0, .int .i64 0, .int .i64 E])) w' := by
  have hn : ¬ ckE b = 0 := by rw [h]; exact h0
  exact ⟨_, by rw [ckM_no hn, h]; rfl, by rw [ckG_no hn]; exact KOwn.nil _ _ _ _, hb⟩
theorem bel_dn (w : World) (m : Nat) : Below w.heap.size w (w.drewN m) := ⟨rfl, rfl, rfl, Nat.le_refl _, fun _ _ => rfl⟩

set_option maxHeartbeats 2000000 in
theorem chGet_any (A : Option Addr) (n c : Nat) (b : List Int) (w : World) (hr : Row .u8 w w.heap.size A b) (hn : b.length = n) (hc : n ≤ c) (hm : n ≤ 140737488355328) :
    Calls Try.prog 13 #[.slice A n c] w (ChGot w b) := by
  by_cases h6 : n < 6
  · have HE : Hid (ckE b = 1) := Lib.hid (ckE_1 (by omega))
    have i1 : (n : Int) < 6 := by omega
    clear hr hn
    go_enter Try.func13, Try.ntmps13
    go_wp2
    go_ret3
    exact ChGot.none_ HE.out (by decide) (Below.refl _ _)
  · obtain ⟨b0, o0, rfl, _, c0⟩ := hr.at_ (i := 0) (by omega)
    obtain ⟨b1, o1, e1, _, c1⟩ := hr.at_ (i := 1) (by omega)
    injection e1 with e1
    injection e1 with e11 e12
    subst e11 e12
    have x0 := wf_u8 (hr.wf_at (i := 0) (by omega))
    have x1 := wf_u8 (hr.wf_at (i := 1) (by omega))
    have hor := or_u8 _ _ x0 x1
    have hN : nth b 0 * 256 + nth b 1 = ((ckN b : Nat) : Int) := by unfold ckN; omega
    rw [hN] at hor
    have hNb : ckN b < 65536 := by omega
    rw [Nat.add_zero] at c0
    have HR := Lib.hid hr
    have HN := Lib.hid hn
    obtain ⟨N, hNN⟩ : ∃ N, Hid (ckN b = N) := ⟨_, Lib.hid rfl⟩
    rw [hNN.out] at hor hNb
    clear hN
    generalize nth b 0 = x at *
    generalize nth b 1 = y at *
    have ew : IntKind.i64.wrap (x * 256) = x * 256 := IntWalk.i64_in _ (by omega)
    have t0 : (0 : Int) < (n : Int) := by omega
    have t1 : (1 : Int) < (n : Int) := by omega
    have t6 : ¬ (n : Int) < 6 := by omega
    clear hr hn
    by_cases hbig : 1024 < N
    · have HE : Hid (ckE b = 2) := Lib.hid (ckE_2 (by rw [HN.out]; exact h6) (by rw [hNN.out]; exact hbig))
      have i2 : (N : Int) > 1024 := by omega
      go_enter Try.func13, Try.ntmps13
      go_wp2
      go_quiet (fail)
      go_wp2
      go_ret3
      exact ChGot.none_ HE.out (by decide) (bel_dn _ _)
    by_cases hsh : n < 6 + N
    · have HE : Hid (ckE b = 1) := Lib.hid (ckE_3 (by rw [HN.out]; exact h6) (by rw [hNN.out]; exact hbig) (by rw [HN.out, hNN.out]; exact hsh))
      have i2 : ¬ (N : Int) > 1024 := by omega
      have i3 : (n : Int) < 6 + (N : Int) := by omega
      go_enter Try.func13, Try.ntmps13
      go_wp2
      go_quiet (fail)
      go_wp2
      go_ret3
      exact ChGot.none_ HE.out (by decide) (bel_dn _ _)
    have i2 : ¬ (N : Int) > 1024 := by omega
    have i3 : ¬ (n : Int) < 6 + (N : Int) := by omega
    have j1 : (6 : Int) ≤ 6 + (N : Int) := by omega
    have j2 : (6 : Int) + (N : Int) ≤ (c : Int) := by omega
    have j3 : 6 + N ≤ c := by omega
    have j4 : ((6 : Int) + (N : Int)).toNat = 6 + N := by omega
    have j5 : (6 : Int) ≤ (c : Int) := by omega
    have hpl : Hid ((ckP b).length = N) := Lib.hid (by rw [ckP_has (by rw [hNN.out, HN.out]; omega), hNN.out])
    have hh := ck_head HR.out.1 (by rw [HN.out]; omega) (by rw [hNN.out, HN.out]; omega)
    have HP : Hid (Row .u8 w w.heap.size (some ⟨b0, o0 + 6, none⟩) (ckP b)) := Lib.hid (by have := (HR.out.drop 6).front N; rw [← hNN.out] at this; exact this)
    have HT : Hid (Row .u8 w w.heap.size (some ⟨b0, o0, none⟩) (b.take 6)) := Lib.hid (HR.out.front 6)
    have HTL : Hid ((b.take 6).length = 6) := Lib.hid (by rw [List.length_take, HN.out]; omega)
    obtain ⟨P, hP⟩ : ∃ P, Hid (ckP b = P) := ⟨_, Lib.hid rfl⟩
    obtain ⟨T, hT⟩ : ∃ T, Hid (b.take 6 = T) := ⟨_, Lib.hid rfl⟩
    rw [hP.out] at hpl hh HP
    rw [hT.out] at hh HT HTL
    have HHL : Hid ((ckH P.length ++ be4 (ckS P)).length = 6) := Lib.hid (by simp [ckH, be4])
    have HHW : Hid (∀ x ∈ ckH P.length ++ be4 (ckS P), (Lit.int .u8 x).wf = true) := Lib.hid (wf_append (ckH_wf (by rw [hpl.out]; omega)) (be4_wf _))
    have k1 : Hid (¬ b.length < 6) := Lib.hid (by rw [HN.out]; exact h6)
    have k2 : Hid (¬ 1024 < ckN b) := Lib.hid (by rw [hNN.out]; exact hbig)
    have k3 : Hid (¬ b.length < 6 + ckN b) := Lib.hid (by rw [HN.out, hNN.out]; exact hsh)
    have HHd : Hid (∀ q ad cc, (0 < N → ad = some ⟨b0, o0 + 6, none⟩) → Calls Try.prog 25 #[.slice ad N cc] (w.drewN q) fun e w' => e = .returned (.slice (some ⟨w.heap.size, 0, none⟩) 6 6) ∧ Below w.heap.size w w' ∧ (∀ cc', Calls Try.prog 28 #[.slice (some ⟨b0, o0, none⟩) 6 cc', .slice (some ⟨w.heap.size, 0, none⟩) 6 6] w' fun e w'' => e = .returned (.bool (decide (T = ckH P.length ++ be4 (ckS P)))) ∧ w' = w'')) := Lib.hid (fun q ad cc had => by
      have hrow : Row .u8 (w.drewN q) (w.drewN q).heap.size ad P := by
        rcases Nat.eq_zero_or_pos N with h0 | h0
        · have : P = [] := List.eq_nil_of_length_eq_zero (by rw [hpl.out]; exact h0)
          rw [this]; exact Row.nil _ _ _ _
        · rw [had h0]; exact HP.out.drewN q
      refine (head_any ad N cc P _ hrow hpl.out (by omega)).mono fun e w1 ⟨he, hg, hb⟩ => ?_
      have hbel : Below w.heap.size w w1 := (bel_dn w q).trans hb
      refine ⟨he, hbel, fun cc' => ?_⟩
      have hT1 := HT.out.below hbel
      have hH1 := Row.of_block hg _ HHW.out (List.prefix_refl _)
      by_cases heq : T = ckH P.length ++ be4 (ckS P)
      · rw [decide_eq_true heq]
        rw [← heq] at hH1
        exact equal_yes _ _ _ _ _ _ T _ _ _ hT1 hH1 HTL.out HTL.out
      · rw [decide_eq_false heq]
        exact equal_no _ _ _ _ _ _ T _ _ _ _ hT1 hH1 HTL.out HHL.out heq)
    have HCl : Hid (∀ w1 ad cc, (0 < N → ad = some ⟨b0, o0 + 6, none⟩) → Below w.heap.size w w1 → Calls Try.prog 29 #[.slice ad N cc] w1 fun e w' => ∃ v, e = .returned v ∧ KOwn .u8 5 w' w.heap.size v P ∧ Below w.heap.size w w') := Lib.hid (fun w1 ad cc had hb => by
      have hrow : Row .u8 w1 w1.heap.size ad P := by
        rcases Nat.eq_zero_or_pos N with h0 | h0
        · have : P = [] := List.eq_nil_of_length_eq_zero (by rw [hpl.out]; exact h0)
          rw [this]; exact Row.nil _ _ _ _
        · rw [had h0]; exact (HP.out.below hb).more hb.size
      refine (clone_any ad N cc P w1 hrow hpl.out (by omega)).mono fun e w2 ⟨v, he, hk, hb2⟩ => ⟨v, he, hk.mono hb.size, hb.trans (hb2.mono hb.size)⟩)
    by_cases heq : T = ckH P.length ++ be4 (ckS P)
    · have HE : Hid (ckE b = 0) := Lib.hid (ckE_4 k1.out k2.out k3.out (by rw [hP.out]; exact hh.1 heq))
      have HD : Hid (decide (T = ckH P.length ++ be4 (ckS P)) = true) := Lib.hid (decide_eq_true heq)
      rw [HD.out] at HHd
      clear heq hh HR HT HP HTL HHL HHW k1 k2 k3 HD hT
      have HM : Hid (∀ v : Value, (Ending.returned (.tuple #[v, .int .i64 (6 + (N : Int)), .int .i64 0])) = .returned (.tuple #[v, .int .i64 (ckM b : Nat), .int .i64 (ckE b)])) := Lib.hid (fun v => by rw [ckM_yes HE.out, HE.out, hNN.out]; rfl)
      have HG : Hid (ckG b = P) := Lib.hid (by rw [ckG_yes HE.out, hP.out])
      by_cases hc6 : c = 6
      all_goals
        (go_enter Try.func13, Try.ntmps13
         go_wp2
         go_quiet (fail)
         go_wp2
         go_region_with (first
           | (go_at_call 25; refine (HHd.out _ _ _ (fun h => by first | rfl | omega)).mono ?_; rintro e w1 ⟨rfl, hb1, heq⟩)
           | (go_at_call 28; refine (heq _).mono ?_; rintro e w2 ⟨rfl, rfl⟩))
         go_wp2_with (go_at_call 29; refine (HCl.out _ _ _ (fun h => by first | rfl | omega) hb1).mono ?_; rintro e w3 ⟨v3, rfl, hk3, hb3⟩)
         go_ret3
         exact ⟨v3, HM.out v3, by rw [HG.out]; exact hk3, hb3⟩)
    · have HE : Hid (ckE b = 5) := Lib.hid (ckE_5 k1.out k2.out k3.out (by rw [hP.out]; exact fun h => heq (hh.2 h)))
      have HD : Hid (decide (T = ckH P.length ++ be4 (ckS P)) = false) := Lib.hid (decide_eq_false heq)
      rw [HD.out] at HHd
      clear heq hh HR HT HP HTL HHL HHW k1 k2 k3 HD hT HCl
      by_cases hc6 : c = 6
      all_goals
        (go_enter Try.func13, Try.ntmps13
         go_wp2
         go_quiet (fail)
         go_wp2
         go_region_with (first
           | (go_at_call 25; refine (HHd.out _ _ _ (fun h => by first | rfl | omega)).mono ?_; rintro e w1 ⟨rfl, hb1, heq⟩)
           | (go_at_call 28; refine (heq _).mono ?_; rintro e w2 ⟨rfl, rfl⟩))
         go_wp2
         go_ret3
         exact ChGot.none_ HE.out (by decide) hb1)
end Go.Proofs.Ytooelfmfcihlkaa
namespace Go.Proofs.Ytooelfmfcihlkaa
open Go.RowKit
set_option linter.unusedVariables false
set_option maxRecDepth 100000

def abc13 : List Int := [97, 98, 99]
def bad13 : List Int := [0, 1, 0, 0, 0, 0, 5]
theorem abc13_wf : ∀ x ∈ abc13, (Lit.int .u8 x).wf = true := by decide
theorem bad13_wf : ∀ x ∈ bad13, (Lit.int .u8 x).wf = true := by decide
theorem bad13_err : ckE bad13 = 5 := by decide +kernel
theorem abc13_put : ckPut abc13 = ckL abc13 := ckPut_ok (by decide)
theorem abc13_ok : ckPE abc13 = 0 := ckPE_ok (by decide)

set_option maxHeartbeats 2000000 in
theorem known13_yes (w : World) : Calls Try.prog 21 #[] w fun e w' => e = .returned (.bool true) ∧ Below w.heap.size w w' := by
  obtain ⟨L, hL⟩ : ∃ L, Hid (ckL abc13 = L) := ⟨_, Lib.hid rfl⟩
  have hLl : Hid (L.length = 9) := Lib.hid (by rw [← hL.out, ckL_len]; rfl)
  have hLw : Hid (∀ x ∈ L, (Lit.int .u8 x).wf = true) := Lib.hid (by rw [← hL.out]; exact ckL_wf (by decide) abc13_wf)
  have hL0 : Hid (nth L 0 = 0) := Lib.hid (by rw [← hL.out]; rfl)
  have hL1 : Hid (nth L 1 = 3) := Lib.hid (by rw [← hL.out]; rfl)
  have hback := ck_back (p := abc13) (by decide) []
  rw [List.append_nil, hL.out] at hback
  have hE : Hid (ckE L = 0) := Lib.hid hback.1
  have hG : Hid (ckG L = abc13) := Lib.hid hback.2.1
  have hM : Hid (ckM L = 9) := Lib.hid hback.2.2
  clear hback
  have hcv := fun (W : World) (C : Array Value) (n c : Nat) => Lib.run_convert_bytes_const (P := Try.prog) W 22 5 C n c Try.underlying22 Try.underlying5
  go_enter Try.func21, Try.ntmps21
  go_wp2_with fail
  have b1 : Below w.heap.size w (w.alloc (.cells (blk .u8 abc13) 5 (3, 4))) := bel_alloc w _
  have g1 : (w.alloc (.cells (blk .u8 abc13) 5 (3, 4))).heap[w.heap.size]? = some (.cells (blk .u8 abc13) 5 (3, 4)) := heap_alloc_new w _
  show Calls _ _ _ (w.alloc (.cells (blk .u8 abc13) 5 (3, 4))) _
  generalize w.alloc (.cells (blk .u8 abc13) 5 (3, 4)) = w1 at *
  refine (chPut_any (some ⟨w.heap.size, 0, none⟩) 3 3 abc13 w1 ((Row.of_block g1 _ abc13_wf (List.prefix_refl _)).more (block_lt g1)) rfl (by omega)).mono ?_
  rintro e w2 ⟨v2, rfl, k2, d2⟩
  rw [abc13_put, hL.out] at k2
  rw [abc13_ok]
  have b2 := b1.trans (d2.mono b1.size)
  obtain ⟨A2, c2, rfl, r2, hc2, _⟩ := k2.row hLw.out
  rw [hLl.out] at hc2 ⊢
  have R2 := Lib.hid r2
  clear k2 d2 r2 b1 g1
  go_wp2_with fail
  refine (chGet_any A2 9 c2 L w2 R2.out hLl.out hc2 (by omega)).mono ?_
  rintro e w3 ⟨v3, rfl, k3, d3⟩
  rw [hG.out] at k3
  rw [hM.out, hE.out]
  have b3 := b2.trans (d3.mono b2.size)
  have R3 := Lib.hid ((R2.out.below d3).more d3.size)
  obtain ⟨A3, c3, rfl, r3, hc3, _⟩ := k3.row abc13_wf
  have P3 := Lib.hid r3
  clear k3 d3 r3 b2 R2
  go_wp2_with fail
  have b4 : Below w.heap.size w (w3.alloc (.cells (blk .u8 bad13) 5)) := b3.alloc b3.size _
  have g4 : (w3.alloc (.cells (blk .u8 bad13) 5)).heap[w3.heap.size]? = some (.cells (blk .u8 bad13) 5 (0, 0)) := heap_alloc_new w3 _
  have R4 := Lib.hid ((R3.out.below (bel_alloc w3 (.cells (blk .u8 bad13) 5))).more (bel_alloc w3 (.cells (blk .u8 bad13) 5)).size)
  have P4 := Lib.hid ((P3.out.below (bel_alloc w3 (.cells (blk .u8 bad13) 5))).more (bel_alloc w3 (.cells (blk .u8 bad13) 5)).size)
  show Calls _ _ _ (w3.alloc (.cells (blk .u8 bad13) 5)) _
  generalize w3.alloc (.cells (blk .u8 bad13) 5) = w4 at *
  refine (chGet_any (some ⟨w3.heap.size, 0, none⟩) 7 7 bad13 w4 ((Row.of_block g4 _ bad13_wf (List.prefix_refl _)).more (block_lt g4)) rfl (by omega) (by omega)).mono ?_
  rintro e w5 ⟨v5, rfl, k5, d5⟩
  have hbg : ckG bad13 = [] := ckG_no (by rw [bad13_err]; decide)
  have hbm : ckM bad13 = 0 := ckM_no (by rw [bad13_err]; decide)
  rw [hbg] at k5
  rw [hbm, bad13_err]
  obtain ⟨A5, c5, rfl, _⟩ := k5.form
  have b5 := b4.trans (d5.mono b4.size)
  have R5 := Lib.hid ((R4.out.below d5).more d5.size)
  have P5 := Lib.hid ((P4.out.below d5).more d5.size)
  clear k5 d5 b3 b4 g4 R3 P3 R4 P4 hbg hbm
  obtain ⟨bb, oo, rfl, _, q0⟩ := R5.out.at_ (i := 0) (by rw [hLl.out]; omega)
  obtain ⟨bb', oo', ee, _, q1⟩ := R5.out.at_ (i := 1) (by rw [hLl.out]; omega)
  injection ee with ee
  injection ee with e1 e2
  subst e1 e2
  rw [hL0.out, Nat.add_zero] at q0
  rw [hL1.out] at q1
  have HS : Hid (∀ c', Calls Try.prog 17 #[.slice A3 3 c3, .slice (some ⟨w5.heap.size, 0, none⟩) 3 c'] (w5.alloc (.cells #[.int .u8 97, .int .u8 98, .int .u8 99] 5 (3, 4))) fun e w' => e = .returned (.bool true) ∧ ∃ m, w' = (w5.alloc (.cells #[.int .u8 97, .int .u8 98, .int .u8 99] 5 (3, 4))).drewN m) := Lib.hid (fun c' => by
    have g6 : (w5.alloc (.cells (blk .u8 abc13) 5 (3, 4))).heap[w5.heap.size]? = some (.cells (blk .u8 abc13) 5 (3, 4)) := heap_alloc_new w5 _
    exact same_yes_u8 A3 _ 3 c3 c' abc13 _ _ _ (P5.out.below (bel_alloc w5 _)) (Row.of_block g6 _ abc13_wf (List.prefix_refl _)) rfl (by omega))
  have b6 : Below w.heap.size w (w5.alloc (.cells #[.int .u8 97, .int .u8 98, .int .u8 99] 5 (3, 4))) := b5.alloc b5.size _
  go_wp2_with fail
  refine (HS.out _).mono ?_
  rintro e w7 ⟨rfl, m7, rfl⟩
  have b7 := below_drewN b6 m7
  clear b6 HS
  go_wp2
  go_ret
  exact ⟨rfl, b7⟩
end Go.Proofs.Ytooelfmfcihlkaa
namespace Go.Proofs.Ytooelfmfcihlkaa
open Go.RowKit
set_option linter.unusedVariables false
set_option maxRecDepth 100000

theorem info_l8 : (Try.prog.info? 22).map (fun i => (i.zero, i.size, i.bytes)) = some (some (.slice none 0 0), 1, 24) := by kernel_rfl
/-- The i-th list, behind a name that the walk's simp does not open. -/
def nthB (l : List (List Int)) (i : Nat) : List Int := l.getD i []
theorem nthB_eq (l : List (List Int)) (i : Nat) (h : i < l.length) : nthB l i = l[i] := by simp [nthB, List.getD_eq_getElem?_getD, List.getElem?_eq_getElem h]
theorem nthB_mem (l : List (List Int)) (i : Nat) (h : i < l.length) : nthB l i ∈ l := by rw [nthB_eq l i h]; exact List.getElem_mem h
theorem takeB_step (l : List (List Int)) (i : Nat) (h : i < l.length) : l.take (i + 1) = l.take i ++ [nthB l i] := by
  rw [List.take_succ_eq_append_getElem h, nthB_eq l i h]
/-- A slice at A that reads as the lists ls. -/
def BRow (w : World) (B : Nat) (A : Option Addr) (ls : List (List Int)) : Prop :=
  0 < ls.length → ∃ b o, A = some ⟨b, o, none⟩ ∧ b < B ∧ ∀ i, i < ls.length → ∃ Ai ci, w.cell? ⟨b, o + i, none⟩ = some (.slice Ai (nthB ls i).length ci) ∧ Row .u8 w B Ai (nthB ls i) ∧ (nthB ls i).length ≤ ci ∧ ci ≤ maxLen
theorem BRow.nil (w : World) (B : Nat) (A : Option Addr) : BRow w B A [] := fun h => absurd h (by simp)
theorem BRow.below {w w' : World} {B : Nat} {A : Option Addr} {ls : List (List Int)} (h : BRow w B A ls) (hb : Below B w w') : BRow w' B A ls := fun h0 => by
  obtain ⟨b, o, e, hlt, hc⟩ := h h0
  refine ⟨b, o, e, hlt, fun i hi => ?_⟩
  obtain ⟨Ai, ci, h1, h2, h3⟩ := hc i hi
  exact ⟨Ai, ci, (hb.cell (p := ⟨b, o + i, none⟩) hlt).trans h1, h2.below hb, h3⟩
theorem BRow.more {w : World} {B B' : Nat} {A : Option Addr} {ls : List (List Int)} (h : BRow w B A ls) (hB : B ≤ B') : BRow w B' A ls := fun h0 => by
  obtain ⟨b, o, e, hlt, hc⟩ := h h0
  refine ⟨b, o, e, by omega, fun i hi => ?_⟩
  obtain ⟨Ai, ci, h1, h2, h3⟩ := hc i hi
  exact ⟨Ai, ci, h1, h2.more hB, h3⟩
theorem BRow.drewN {w : World} {B : Nat} {A : Option Addr} {ls : List (List Int)} (h : BRow w B A ls) (n : Nat) : BRow (w.drewN n) B A ls := h
theorem BRow.at_ {w : World} {B : Nat} {A : Option Addr} {ls : List (List Int)} (h : BRow w B A ls) {i : Nat} (hi : i < ls.length) :
    ∃ b o Ai ci, A = some ⟨b, o, none⟩ ∧ b < B ∧ w.cell? ⟨b, o + i, none⟩ = some (.slice Ai (nthB ls i).length ci) ∧ Row .u8 w B Ai (nthB ls i) ∧ (nthB ls i).length ≤ ci ∧ ci ≤ maxLen := by
  obtain ⟨b, o, hA, hb, hc⟩ := h (by omega)
  obtain ⟨Ai, ci, h1, h2, h3⟩ := hc i hi
  exact ⟨b, o, Ai, ci, hA, hb, h1, h2, h3⟩
theorem BRow.wf {w : World} {B : Nat} {A : Option Addr} {ls : List (List Int)} (h : BRow w B A ls) : ∀ xs ∈ ls, ∀ x ∈ xs, (Lit.int .u8 x).wf = true := by
  intro xs hxs
  obtain ⟨i, hi, rfl⟩ := List.mem_iff_getElem.1 hxs
  obtain ⟨b, o, _, _, hc⟩ := h (by omega)
  obtain ⟨Ai, ci, _, h2, _⟩ := hc i hi
  rw [nthB_eq ls i hi] at h2
  exact h2.1
/-- A beginning of a list of lists. -/
theorem BRow.front {w : World} {B : Nat} {A : Option Addr} {ls : List (List Int)} (h : BRow w B A ls) (m : Nat) : BRow w B A (ls.take m) := fun h0 => by
  rw [List.length_take] at h0
  obtain ⟨b, o, e, hlt, hc⟩ := h (by omega)
  refine ⟨b, o, e, hlt, fun i hi => ?_⟩
  rw [List.length_take] at hi
  have he : nthB (ls.take m) i = nthB ls i := by
    rw [nthB_eq _ _ (by rw [List.length_take]; omega), nthB_eq _ _ (by omega), List.getElem_take]
  rw [he]
  exact hc i (by omega)

/-- The slice v owns the lists ls, each of which is a slice of the call's own whose block is known whole. -/
def LOwn (w : World) (base : Nat) (v : Value) (ls : List (List Int)) : Prop :=
  ∃ L : List (List Int × Value), L.map Prod.fst = ls ∧ w.ownsRow base 22 1 v L.length (L.map Prod.snd) ∧ ∀ p ∈ L, KOwn .u8 5 w base p.2 p.1
theorem LOwn.nil (w : World) (base : Nat) : LOwn w base (.slice none 0 0) [] := ⟨[], rfl, World.ownsRow_nil _ _ _ _, fun p hp => by cases hp⟩
theorem rowL_below {w w' : World} {base B n : Nat} {v : Value} {xs : List Value} (h : w.ownsRow base 22 1 v n xs) (hb : Below B w w') (hB : w.heap.size ≤ B) : w'.ownsRow base 22 1 v n xs := by
  refine h.kept (row := none) ⟨hb.os, hb.tape, hb.output, hb.size, fun i hi _ => hb.block i (by omega)⟩ ?_
  cases hv : v.ownBlock with
  | none => exact .inl rfl
  | some g => exact .inr (by simp)
theorem LOwn.below {w w' : World} {base B : Nat} {v : Value} {ls : List (List Int)} (h : LOwn w base v ls) (hb : Below B w w') (hB : w.heap.size ≤ B) : LOwn w' base v ls := by
  obtain ⟨L, h1, h2, h3⟩ := h
  exact ⟨L, h1, rowL_below h2 hb hB, fun p hp => (h3 p hp).below hb hB⟩
theorem LOwn.drewN {w : World} {base : Nat} {v : Value} {ls : List (List Int)} (h : LOwn w base v ls) (n : Nat) : LOwn (w.drewN n) base v ls := h
theorem LOwn.alloc {w : World} {base : Nat} {v : Value} {ls : List (List Int)} (h : LOwn w base v ls) (o : Obj) : LOwn (w.alloc o) base v ls := h.below ((Below.refl _ _).alloc (Nat.le_refl _) o) (Nat.le_refl _)
theorem LOwn.mono {w : World} {base base' : Nat} {v : Value} {ls : List (List Int)} (h : LOwn w base v ls) (hb : base' ≤ base) : LOwn w base' v ls := by
  obtain ⟨L, h1, h2, h3⟩ := h
  refine ⟨L, h1, ⟨h2.1, ?_⟩, fun p hp => (h3 p hp).mono hb⟩
  rcases h2.2 with h0 | ⟨g, cap, cur, hv, h1, r⟩
  · exact .inl h0
  · exact .inr ⟨g, cap, cur, hv, by omega, r⟩
theorem LOwn.block {w : World} {base : Nat} {v : Value} {ls : List (List Int)} (h : LOwn w base v ls) : ∀ g, v.ownBlock = some g → base ≤ g ∧ g < w.heap.size := by
  obtain ⟨L, h1, h2, h3⟩ := h
  exact World.ownsRow.lt h2
/-- The block of a list of lists is none of its lists' own. -/
theorem list8_far {w : World} {base base' : Nat} {v u : Value} {n : Nat} {xs : List Value} {ys : List Int} (h : w.ownsRow base 22 1 v n xs) (k : KOwn .u8 5 w base' u ys) : u.ownBlock = none ∨ u.ownBlock ≠ v.ownBlock := by
  rcases k with ⟨rfl, _⟩ | ⟨g, m, cap, r, rfl, _, _, hg, _⟩
  · exact .inl rfl
  · refine .inr fun e => ?_
    rcases h.2 with ⟨rfl, _⟩ | ⟨g', cap', cur, rfl, _, hg', _⟩
    · cases e
    · have e : some g = some g' := e
      injection e with e
      subst e
      rw [hg] at hg'
      injection hg' with hg'
      injection hg' with _ ht
      exact absurd ht (by decide)
theorem LOwn.len {w : World} {base : Nat} {v : Value} {ls : List (List Int)} (h : LOwn w base v ls) : ∃ A c, v = .slice A ls.length c ∧ ls.length ≤ c ∧ c ≤ maxLen := by
  obtain ⟨L, rfl, h2, h3⟩ := h
  rw [List.length_map]
  rcases h2.2 with ⟨rfl, h0⟩ | ⟨g, cap, cur, rfl, _, _, h4, h5, _⟩
  · rw [h0]; exact ⟨none, 0, rfl, Nat.le_refl _, Nat.zero_le _⟩
  · exact ⟨_, cap, rfl, h4, h5⟩
/-- One list of such a list. -/
theorem LOwn.at_ {w : World} {base : Nat} {A : Option Addr} {n c : Nat} {ls : List (List Int)} (h : LOwn w base (.slice A n c) ls) {i : Nat} (hi : i < ls.length) :
    ∃ g u, A = some ⟨g, 0, none⟩ ∧ base ≤ g ∧ g < w.heap.size ∧ w.cell? ⟨g, i, none⟩ = some u ∧ KOwn .u8 5 w base u (nthB ls i) ∧ ∃ cs, w.heap[g]? = some (.cells cs 22 (0, 0)) := by
  obtain ⟨L, rfl, h2, h3⟩ := h
  rw [List.length_map] at hi
  rcases h2.2 with ⟨e, h9⟩ | ⟨g, cap, cur, e, hb, hg, h4, h5, h6, h7⟩
  · omega
  · injection e with e1 e2 e3
    subst e1 e2 e3
    refine ⟨g, (L[i]).2, rfl, hb, block_lt hg, ?_, ?_, _, hg⟩
    · rw [cell_of_row w g i cur _ _ hg, ← Array.getElem?_toList]
      have : (cur.toList.take (L.length * 1))[i]? = (L.map Prod.snd)[i]? := by rw [h7]
      rw [List.getElem?_take_of_lt (by omega)] at this
      rw [this, List.getElem?_map, List.getElem?_eq_getElem hi]
      rfl
    · have hf : nthB (L.map Prod.fst) i = (L[i]).1 := by rw [nthB_eq _ _ (by simpa using hi)]; simp
      rw [hf]
      exact h3 _ (List.getElem_mem hi)
/-- As a list of lists that is read. -/
theorem LOwn.brow {w : World} {base : Nat} {A : Option Addr} {n c : Nat} {ls : List (List Int)} (h : LOwn w base (.slice A n c) ls) (hw : ∀ xs ∈ ls, ∀ x ∈ xs, (Lit.int .u8 x).wf = true) : BRow w w.heap.size A ls := by
  intro h0
  obtain ⟨g, _, rfl, _, hg, _⟩ := h.at_ h0
  refine ⟨g, 0, rfl, hg, fun i hi => ?_⟩
  obtain ⟨g', u, e, _, _, hc, hk, _⟩ := h.at_ hi
  injection e with e
  injection e with e
  subst e
  obtain ⟨Ai, ci, rfl, hr, h1, h2⟩ := hk.row (hw _ (nthB_mem _ _ hi))
  exact ⟨Ai, ci, by rw [Nat.zero_add]; exact hc, hr, h1, h2⟩
theorem Below.lown {w0 w w' : World} {base B : Nat} {v : Value} {ls : List (List Int)} (hb : Below B w0 w) (hB : B ≤ w.heap.size) (h : LOwn w base v ls) (hBB : B ≤ base) (hg : w.grownBy w' v.ownBlock) : Below B w0 w' :=
  hb.grown hg hB fun g e => Nat.le_trans hBB (h.block g e).1

section
variable {P : Program}
/-- 'append(v, xs)' of a list of bytes in a box. -/
theorem wpList_append_l8 {ops : Array Oper} {rest : List Oper} {o : Oper} {a : Act} {Q : Exit → Act → World → Prop} (w : World) (hgd : o.guard = none) (s x : Operand) (t : TypeId)
    (ho : o.op = .call { callee := .builtin .append, args := #[s, x], argTypes := #[t, t] }) (base : Nat) (ht : P.underlying t = some (.slice 22)) (hi : (P.info? 22).map (fun i => (i.zero, i.size, i.bytes)) = some (some (.slice none 0 0), 1, 24))
    (v : Value) (ls : List (List Int)) (hs : a.eval s = v) (hown : LOwn w base v ls) (ad : Addr) (c : Nat) (xs : List Int) (A : Option Addr) (m cc : Nat) (hx : a.eval x = .slice (some ad) 1 c)
    (hk : KOwn .u8 5 w base (.slice A m cc) xs) (hnews : ∀ j u, [Value.slice A m cc][j]? = some u → w.cell? (ad.add j) = some u) (hb : ls.length ≤ 1073741824) (hbase : base ≤ w.heap.size)
    (h : ∀ v' w', LOwn w' base v' (ls ++ [xs]) → w.grownBy w' v.ownBlock → wpList P ops Q rest (a.put o.dst v') w') : wpList P ops Q (o :: rest) a w := by
  obtain ⟨i, hi1, hz, hsz, hby⟩ := info_parts hi
  obtain ⟨L, rfl, h2, h3⟩ := hown
  rw [List.length_map] at hb
  refine wpList_append_own w hgd s x t ho base 22 i _ 1 24 ht hi1 hz hsz hby rfl (by omega) v L.length (L.map Prod.snd) hs h2 ad 1 c [.slice A m cc] hx rfl hnews (by simp [Value.oneCell']) (by simp only [maxLen]; omega) (by omega) hbase fun v' w' h4 h5 _ => h v' w' ?_ h5
  refine ⟨L ++ [(xs, .slice A m cc)], by simp, ?_, fun p hp => ?_⟩
  · rw [List.map_append, List.length_append]
    exact h4
  · rcases List.mem_append.1 hp with hp | hp
    · exact (h3 p hp).kept h5 (list8_far h2 (h3 p hp))
    · simp only [List.mem_singleton] at hp
      subst hp
      exact hk.kept h5 (list8_far h2 hk)
end
/-- The cell of a list in a new box. -/
theorem box_l8 (w : World) (t : TypeId) (x : Value) : ∀ j u, [x][j]? = some u → (w.alloc (.cells #[x] t)).cell? ((⟨w.heap.size, 0, none⟩ : Addr).add j) = some u := by
  intro j u hu
  rw [Go.WideShapes.add_plain, Nat.zero_add, World.cell?_alloc_at _ _ _ _ rfl]
  simpa using hu
end Go.Proofs.Ytooelfmfcihlkaa
namespace Go.Proofs.Ytooelfmfcihlkaa
open Go.RowKit
set_option linter.unusedVariables false
set_option maxRecDepth 100000

/-- What is scanned of bytes, as far as it goes. -/
def ckScan (b : List Int) : List (List Int) × Nat := ckSc (b.length + 1) b
/-- What is scanned so far. -/
def ScPre (b : List Int) (ls : List (List Int)) (k : Nat) : Prop := 6 * ls.length ≤ k ∧ ∀ f, ckSc (f + ls.length) b = (ls ++ (ckSc f (b.drop k)).1, k + (ckSc f (b.drop k)).2)
theorem ScPre.zero (b : List Int) : ScPre b [] 0 := ⟨by simp, fun f => by simp⟩
theorem ScPre.step {b : List Int} {ls : List (List Int)} {k : Nat} (h : ScPre b ls k) (h0 : ckE (b.drop k) = 0) : ScPre b (ls ++ [ckG (b.drop k)]) (k + ckM (b.drop k)) := by
  rw [ckG_yes h0, ckM_yes h0]
  refine ⟨by have := h.1; simp; omega, fun f => ?_⟩
  have h2 := h.2 (f + 1)
  rw [show f + (ls ++ [ckP (b.drop k)]).length = f + 1 + ls.length by simp; omega, h2]
  rw [ckSc, if_pos h0, List.drop_drop]
  simp [Nat.add_assoc]
theorem ScPre.stop {b : List Int} {ls : List (List Int)} {k : Nat} (h : ScPre b ls k) (hk : k ≤ b.length) (h0 : ckE (b.drop k) ≠ 0) : ckScan b = (ls, k) := by
  have h2 := h.2 (b.length + 1 - ls.length)
  rw [show b.length + 1 - ls.length + ls.length = b.length + 1 by have := h.1; omega] at h2
  unfold ckScan
  rw [h2, show b.length + 1 - ls.length = (b.length - ls.length) + 1 by have := h.1; omega, ckSc, if_neg h0]
  simp
/-- A call returns what is scanned. -/
def ChScans (w : World) (b : List Int) (e : Ending) (w' : World) : Prop :=
  ∃ v, e = .returned (.tuple #[v, .int .i64 ((ckScan b).2 : Nat)]) ∧ LOwn w' w.heap.size v (ckScan b).1 ∧ Below w.heap.size w w'
theorem ChScans.of {w w' : World} {b : List Int} {v : Value} {ls : List (List Int)} {k : Nat} (h : ckScan b = (ls, k)) (h1 : LOwn w' w.heap.size v ls) (h2 : Below w.heap.size w w') : ChScans w b (.returned (.tuple #[v, .int .i64 (k : Nat)])) w' := by
  unfold ChScans
  rw [h]
  exact ⟨v, rfl, h1, h2⟩
/-- Get of what is left. -/
theorem chGet_left (A : Option Addr) (n c k cc : Nat) (b : List Int) (w W : World) (hr : Row .u8 w w.heap.size A b) (hn : b.length = n) (hc : n ≤ c) (hm : n ≤ 140737488355328) (hk : k ≤ n) (hB : Below w.heap.size w W) (A' : Option Addr) (hA : k < n → ∃ b0 o0, A = some ⟨b0, o0, none⟩ ∧ A' = some ⟨b0, o0 + k, none⟩) (hcc : n - k ≤ cc) :
    Calls Try.prog 13 #[.slice A' (n - k) cc] W (ChGot W (b.drop k)) := by
  refine chGet_any A' (n - k) cc (b.drop k) W ?_ (by rw [List.length_drop, hn]) hcc (by omega)
  by_cases hlt : k < n
  · obtain ⟨b0, o0, rfl, rfl⟩ := hA hlt
    exact ((hr.drop k).below hB).more hB.size
  · rw [List.drop_of_length_le (by omega)]
    exact Row.nil _ _ _ _
theorem ckGot_len {b : List Int} (h0 : ckE b = 0) : 6 ≤ ckM b ∧ ckM b ≤ b.length := ⟨by rw [ckM_yes h0]; omega, ckM_le b⟩

set_option maxHeartbeats 4000000 in
theorem chScan_any (A : Option Addr) (n c : Nat) (b : List Int) (w : World) (hr : Row .u8 w w.heap.size A b) (hn : b.length = n) (hc : n ≤ c) (hm : n ≤ 1073741824) :
    Calls Try.prog 15 #[.slice A n c] w (ChScans w b) := by
  have HR := Lib.hid hr
  have HN := Lib.hid hn
  clear hr hn
  go_enter Try.func15, Try.ntmps15
  go_wp2
  go_step3
  go_wp2
  go_step3
  go_wp2
  go_loopw [4, 5] (fun v q wr => ∃ (k : Nat) (ls : List (List Int)), k ≤ n ∧ q = .int .i64 k ∧ ScPre b ls k ∧ LOwn wr w.heap.size v ls ∧ Below w.heap.size w wr) (fun _ q _ => n + 1 - (intOf q).toNat)
  case atStart => exact ⟨0, [], by omega, rfl, ScPre.zero b, LOwn.nil _ _, Below.refl _ _⟩
  case round =>
    obtain ⟨k, ls, hk, rfl, pre, own, bel⟩ := hrel
    have HG : Hid (∀ A' cc, (k < n → ∃ b0 o0, A = some ⟨b0, o0, none⟩ ∧ A' = some ⟨b0, o0 + k, none⟩) → n - k ≤ cc → Calls Try.prog 13 #[.slice A' (n - k) cc] wr (ChGot wr (b.drop k))) := Lib.hid (fun A' cc hA hcc => chGet_left A n c k cc b w wr HR.out HN.out hc (by omega) hk bel A' hA hcc)
    have HA : Hid (k < n → ∃ b0 o0, A = some ⟨b0, o0, none⟩) := Lib.hid (fun hlt => by
      obtain ⟨b0, o0, rfl, _, _⟩ := HR.out.at_ (i := k) (by rw [HN.out]; exact hlt)
      exact ⟨_, _, rfl⟩)
    obtain ⟨E, hE⟩ : ∃ E, Hid (ckE (b.drop k) = E) := ⟨_, Lib.hid rfl⟩
    obtain ⟨M, hM⟩ : ∃ M, Hid (ckM (b.drop k) = M) := ⟨_, Lib.hid rfl⟩
    obtain ⟨G, hG⟩ : ∃ G, Hid (ckG (b.drop k) = G) := ⟨_, Lib.hid rfl⟩
    have hMl : M ≤ n - k := by rw [← hM.out]; have := ckM_le (b.drop k); rw [List.length_drop, HN.out] at this; exact this
    have PRE := Lib.hid pre
    have OWN := Lib.hid own
    have BEL := Lib.hid bel
    have hsz := bel.size
    have hls : ls.length ≤ 1073741824 := by have := pre.1; omega
    have i2 : (k : Int) ≤ (n : Int) := by omega
    have i3 : (k : Int) ≤ (c : Int) := by omega
    have i4 : (n : Int) ≤ (c : Int) := by omega
    clear pre own bel
    have HS : Hid (E ≠ 0 → ∀ w', Below wr.heap.size wr w' → ∀ v, LOwn wr w.heap.size v ls → ChScans w b (.returned (.tuple #[v, .int .i64 (k : Nat)])) w') := Lib.hid (fun h0 w' hb v hv => ChScans.of (PRE.out.stop (by rw [HN.out]; exact hk) (by rw [hE.out]; exact h0)) (hv.below hb (Nat.le_refl _)) (BEL.out.trans (hb.mono hsz)))
    have HG2 : Hid (∀ A' cc, (k < n → ∃ b0 o0, A = some ⟨b0, o0, none⟩ ∧ A' = some ⟨b0, o0 + k, none⟩) → n - k ≤ cc → Calls Try.prog 13 #[.slice A' (n - k) cc] wr fun e w' => ∃ A1 c1, e = .returned (.tuple #[.slice A1 G.length c1, .int .i64 (M : Nat), .int .i64 E]) ∧ KOwn .u8 5 w' wr.heap.size (.slice A1 G.length c1) G ∧ Below wr.heap.size wr w') := Lib.hid (fun A' cc hA hcc => (HG.out A' cc hA hcc).mono fun e w' ⟨v, he, hk, hb⟩ => by
      rw [hG.out] at hk
      rw [hM.out, hE.out] at he
      obtain ⟨A1, c1, rfl, _⟩ := hk.form
      exact ⟨A1, c1, he, hk, hb⟩)
    clear HG
    by_cases hlt : k < n
    · obtain ⟨b0, o0, rfl⟩ := HA.out hlt
      have hkc : ¬ c = k := by omega
      by_cases h0 : E = 0
      · have h06 : 6 ≤ M := by rw [← hM.out]; exact (ckGot_len (by rw [hE.out]; exact h0)).1
        have PRE2 : Hid (ScPre b (ls ++ [G]) (k + M)) := Lib.hid (by have := PRE.out.step (by rw [hE.out]; exact h0); rw [hG.out, hM.out] at this; exact this)
        subst h0
        go_wp2_with (first
          | (go_at_call 13; refine (HG2.out _ _ (fun _ => ⟨_, _, rfl, rfl⟩) (by omega)).mono ?_; rintro e w1 ⟨A1, c1, rfl, k1, b1⟩; have K1 := Lib.hid k1; have B1 := Lib.hid b1; have OWN1 := Lib.hid (OWN.out.below b1 (Nat.le_refl _)); have hs1 := b1.size; clear k1 b1)
          | (at_builtin; refine wpList_append_l8 _ rfl _ _ 29 rfl w.heap.size Try.underlying29 info_l8 _ ls rfl (OWN1.out.alloc _) ⟨w1.heap.size, 0, none⟩ 1 G A1 G.length c1 rfl ((K1.out.mono hsz).below (bel_alloc w1 _) (Nat.le_refl _)) (box_l8 _ _ _) hls (by simp; omega) ?_; intro v2 w2 own4 g4))
        have bel4 := Below.lown ((BEL.out.trans (B1.out.mono hsz)).alloc (by omega) _) (by simp; omega) (OWN1.out.alloc _) (Nat.le_refl _) g4
        go_roundw
        case rel => exact ⟨k + M, ls ++ [G], by omega, by go_num, PRE2.out, own4, bel4⟩
        case measure => simp [intOf]; omega
      · have e1 : (E == 0) = false := by simpa using h0
        have e2 : (E != 0) = true := by simpa using h0
        have HS2 := Lib.hid (HS.out h0)
        clear h0
        go_wp2_with (go_at_call 13; refine (HG2.out _ _ (fun _ => ⟨_, _, rfl, rfl⟩) (by omega)).mono ?_; rintro e w1 ⟨A1, c1, rfl, k1, b1⟩; have B1 := Lib.hid b1; clear k1 b1)
        (try rw [Exit.noGoto_ret])
        go_ret2
        exact HS2.out _ B1.out _ OWN.out
    · obtain rfl : k = n := by omega
      have h0 : E ≠ 0 := by
        rw [← hE.out, List.drop_of_length_le (by rw [HN.out]; exact Nat.le_refl _)]
        decide
      have e1 : (E == 0) = false := by simpa using h0
      have e2 : (E != 0) = true := by simpa using h0
      have HS2 := Lib.hid (HS.out h0)
      have e3 : k - k = 0 := by omega
      rw [e3] at HG2
      clear h0 HS
      rcases A with _ | ⟨ab, ao, asp⟩
      all_goals
        by_cases hkc : c = k
        all_goals
          (go_wp2_with (go_at_call 13; refine (HG2.out _ _ (fun h => absurd h (by omega)) (by omega)).mono ?_; rintro e w1 ⟨A1, c1, rfl, k1, b1⟩; have B1 := Lib.hid b1; clear k1 b1)
           (try rw [Exit.noGoto_ret])
           go_ret2
           exact HS2.out _ B1.out _ OWN.out)
end Go.Proofs.Ytooelfmfcihlkaa
namespace Go.Proofs.Ytooelfmfcihlkaa
open Go.RowKit
set_option linter.unusedVariables false
set_option maxRecDepth 100000

theorem ckSc_mem (f : Nat) (b : List Int) (hb : ∀ x ∈ b, (Lit.int .u8 x).wf = true) : ∀ p ∈ (ckSc f b).1, p.length ≤ 1024 ∧ ∀ x ∈ p, (Lit.int .u8 x).wf = true := by
  induction f generalizing b with
  | zero => intro p hp; cases hp
  | succ f ih =>
    unfold ckSc
    split
    · rename_i h
      intro p hp
      rcases List.mem_cons.1 hp with rfl | hp
      · exact ⟨by rw [ckP_len h]; exact (ckE_zero.1 h).2.1, fun x hx => hb x (List.mem_of_mem_drop (List.mem_of_mem_take hx))⟩
      · exact ih _ (fun x hx => hb x (List.mem_of_mem_drop hx)) p hp
    · intro p hp; cases hp
theorem ckScan_mem {b : List Int} (hb : ∀ x ∈ b, (Lit.int .u8 x).wf = true) : ∀ p ∈ (ckScan b).1, p.length ≤ 1024 ∧ ∀ x ∈ p, (Lit.int .u8 x).wf = true := ckSc_mem _ _ hb
theorem ckScan_all {b : List Int} (hb : ∀ x ∈ b, (Lit.int .u8 x).wf = true) : ckAll (ckScan b).1 = b.take (ckScan b).2 := ckSc_all _ _ hb
theorem ckScan_end (b : List Int) : ckE (b.drop (ckScan b).2) ≠ 0 := ckSc_end _ _ (by omega)
theorem ckScan_le (b : List Int) : (ckScan b).2 ≤ b.length := ckSc_len _ _
theorem ckAll_step (ls : List (List Int)) (k : Nat) (h : k < ls.length) : ckAll (ls.take (k + 1)) = ckAll (ls.take k) ++ ckL (nthB ls k) := by
  rw [takeB_step ls k h, ckAll_app]
  congr 1
  simp [ckAll]
theorem ckAll_take_le (ls : List (List Int)) (k : Nat) : (ckAll (ls.take k)).length ≤ (ckAll ls).length := by
  conv => rhs; rw [← List.take_append_drop k ls, ckAll_app, List.length_append]
  omega
theorem ckAll_wf {ls : List (List Int)} (h : ∀ p ∈ ls, p.length ≤ 1024 ∧ ∀ x ∈ p, (Lit.int .u8 x).wf = true) : ∀ x ∈ ckAll ls, (Lit.int .u8 x).wf = true := by
  intro x hx
  obtain ⟨p, hp, hx⟩ := List.mem_flatMap.1 hx
  exact ckL_wf (by have := (h p hp).1; omega) (h p hp).2 x hx
/-- So many chunks take so many bytes at the least. -/
theorem ckScan_few (b : List Int) : 6 * (ckScan b).1.length ≤ (ckScan b).2 := by
  unfold ckScan
  generalize b.length + 1 = f
  induction f generalizing b with
  | zero => simp [ckSc]
  | succ f ih =>
    unfold ckSc
    split
    · have := ih (b.drop (6 + ckN b))
      simp only [List.length_cons]
      omega
    · simp
theorem ckAll_len_le (ls : List (List Int)) (h : ∀ p ∈ ls, p.length ≤ 1024) : (ckAll ls).length ≤ 1030 * ls.length := by
  induction ls with
  | nil => simp [ckAll]
  | cons p ls ih =>
    have h1 := ih (fun q hq => h q (by simp [hq]))
    have h2 := h p (by simp)
    have e : ckAll (p :: ls) = ckL p ++ ckAll ls := by unfold ckAll; rw [List.flatMap_cons]
    rw [e, List.length_append, ckL_len, List.length_cons]
    omega
theorem ckAll_len_ge (ls : List (List Int)) : 6 * ls.length ≤ (ckAll ls).length := by
  induction ls with
  | nil => simp [ckAll]
  | cons p ls ih =>
    have e : ckAll (p :: ls) = ckL p ++ ckAll ls := by unfold ckAll; rw [List.flatMap_cons]
    rw [e, List.length_append, ckL_len, List.length_cons]
    omega
/-- What is scanned of chunks that were cut off. -/
theorem ckScan_cut (ls : List (List Int)) (hl : ∀ p ∈ ls, p.length ≤ 1024) (j cut : Nat) (hj : j ≤ ls.length) (hc : cut ≤ (ckAll ls).length) (h1 : (ckAll (ls.take j)).length ≤ cut) (h2 : j < ls.length → cut < (ckAll (ls.take (j + 1))).length) : ckScan ((ckAll ls).take cut) = (ls.take j, (ckAll (ls.take j)).length) := by
  unfold ckScan
  refine ckSc_cut ls hl j cut hj h1 h2 _ ?_
  have := ckAll_len_ge (ls.take j)
  rw [List.length_take] at this
  rw [List.length_take]
  omega
theorem ckScan_whole (ls : List (List Int)) (hl : ∀ p ∈ ls, p.length ≤ 1024) : ckScan (ckAll ls) = (ls, (ckAll ls).length) := by
  have h := ckScan_cut ls hl ls.length (ckAll ls).length (Nat.le_refl _) (Nat.le_refl _) (by rw [List.take_length]; exact Nat.le_refl _) (fun h => absurd h (by omega))
  rw [List.take_length, List.take_length] at h
  exact h
/-- Where the chunks end. -/
def endsL (ls : List (List Int)) (k : Nat) : List Int := (List.range k).map fun j => ((ckAll (ls.take (j + 1))).length : Int)
theorem endsL_len (ls : List (List Int)) (k : Nat) : (endsL ls k).length = k := by simp [endsL]
theorem endsL_step (ls : List (List Int)) (k : Nat) : endsL ls (k + 1) = endsL ls k ++ [((ckAll (ls.take (k + 1))).length : Int)] := by simp [endsL, List.range_succ]
theorem endsL_at (ls : List (List Int)) (k j : Nat) (h : j < k) : nth (endsL ls k) j = ((ckAll (ls.take (j + 1))).length : Int) := by
  rw [nth_eq _ _ (by rw [endsL_len]; exact h)]; simp [endsL]
theorem wf_len (n : Nat) (h : n ≤ 1000000000) : (Lit.int .i64 (n : Int)).wf = true := by
  simp [Lit.wf, IntKind.min, IntKind.max, IntKind.signed, IntKind.bits]; omega
theorem endsL_wf (ls : List (List Int)) (k : Nat) (h : (ckAll ls).length ≤ 1000000000) : ∀ x ∈ endsL ls k, (Lit.int .i64 x).wf = true := by
  intro x hx
  obtain ⟨j, _, rfl⟩ := List.mem_map.1 hx
  exact wf_len _ (Nat.le_trans (ckAll_take_le ls (j + 1)) h)
/-- Two lists of the call's own of different types lie in different blocks. -/
theorem own_far {k k' : IntKind} {e e' : TypeId} {w : World} {b b' : Nat} {v u : Value} {xs ys : List Int} (h : Own k e w b v xs) (h' : Own k' e' w b' u ys) (hne : e' ≠ e) : u.ownBlock = none ∨ u.ownBlock ≠ v.ownBlock := by
  rcases h'.2 with ⟨rfl, _⟩ | ⟨g, cap, cur0, rfl, _, hg, _⟩
  · exact .inl rfl
  · refine .inr fun ee => ?_
    rcases h.2 with ⟨rfl, _⟩ | ⟨g', cap', cur, rfl, _, hg', _⟩
    · cases ee
    · have ee : some g = some g' := ee
      injection ee with ee
      subst ee
      rw [hg] at hg'
      injection hg' with hg'
      injection hg' with _ ht
      exact absurd ht hne
end Go.Proofs.Ytooelfmfcihlkaa
namespace Go.Proofs.Ytooelfmfcihlkaa
open Go.RowKit
set_option linter.unusedVariables false

set_option maxHeartbeats 1000000 in
theorem SameRows_yes (A A' : Option Addr) (n c c' : Nat) (ls : List (List Int)) (w : World) (B B' : Nat) (hr : BRow w B A ls) (hr' : BRow w B' A' ls) (hn : ls.length = n) (hb : n ≤ 1073741824) (hl : ∀ i, i < n → (nthB ls i).length ≤ 70368744177664) :
    Calls Try.prog 18 #[.slice A n c, .slice A' n c'] w fun e w' => e = .returned (.bool true) ∧ ∃ m, w' = w.drewN m := by
  have HR := Lib.hid hr
  have HR' := Lib.hid hr'
  have HN := Lib.hid hn
  have HL := Lib.hid hl
  have t0 : ((n : Int) != (n : Int)) = false := by simp
  clear hr hr' hn hl
  go_enter Try.func18, Try.ntmps18
  go_wp2
  go_loopw [5] (fun i wr => ∃ k m : Nat, k ≤ n ∧ i = .int .i64 k ∧ wr = w.drewN m) (fun i _ => n - (intOf i).toNat)
  case atStart => exact ⟨0, 0, by omega, rfl, rfl⟩
  case round =>
    obtain ⟨k, m, hk, rfl, hw0⟩ := hrel
    have HW := Lib.hid hw0
    have HRw := Lib.hid (show BRow wr B A ls by rw [hw0]; exact HR.out.drewN m)
    have HRw' := Lib.hid (show BRow wr B' A' ls by rw [hw0]; exact HR'.out.drewN m)
    clear hw0
    by_cases hlt : k < n
    · obtain ⟨b, o, Ai, ci, rfl, hb1, hc1, r1, _⟩ := HRw.out.at_ (i := k) (by have := HN.out; omega)
      obtain ⟨b', o', Ai', ci', rfl, hb1', hc1', r1', _⟩ := HRw'.out.at_ (i := k) (by have := HN.out; omega)
      have hlen := HL.out k hlt
      obtain ⟨xs, hxs⟩ : ∃ xs, nthB ls k = xs := ⟨_, rfl⟩
      rw [hxs] at hc1 hc1' r1 r1' hlen
      obtain ⟨z, hz⟩ : ∃ z, Hid (xs.length = z) := ⟨_, Lib.hid rfl⟩
      rw [hz.out] at hc1 hc1' hlen
      clear hxs
      have HS : Hid (∀ p, Calls Try.prog 17 #[.slice Ai z ci, .slice Ai' z ci'] (wr.drewN p) fun e w' => e = .returned (.bool true) ∧ ∃ n, w' = (wr.drewN p).drewN n) := Lib.hid (fun p => same_yes_u8 _ _ _ _ _ xs _ _ _ (r1.drewN p) (r1'.drewN p) hz.out (by omega))
      go_wp2_with fail
      go_quiet ((go_at_call 17; refine Calls.quiet_of (HS.out _)))
      go_wp2
      go_roundw
      case rel => exact ⟨k + 1, m + nq, by omega, by go_num, by rw [HW.out, World.drewN_drewN]⟩
      case measure => simp [intOf]; omega
    · obtain rfl : k = n := by omega
      go_wp2
      go_ret
      exact ⟨rfl, m, HW.out⟩
end Go.Proofs.Ytooelfmfcihlkaa
namespace Go.Proofs.Ytooelfmfcihlkaa
open Go.RowKit
set_option linter.unusedVariables false
set_option maxRecDepth 100000

def zr (n : Nat) : List Int := List.replicate n 0
theorem zr_wf (n : Nat) : ∀ x ∈ zr n, (Lit.int .u8 x).wf = true := fun x hx => by rw [List.eq_of_mem_replicate hx]; decide
theorem zr_len (n : Nat) : (zr n).length = n := by simp [zr]
/-- A block that is as it was. -/
theorem blk_keep {w w' : World} {g : Nat} {l : List Int} (h : Bk w g l) (hb : Below w.heap.size w w') : Bk w' g l := h.below hb
/-- Put of so many noughts that a call has just made. -/
theorem put_zr (n : Nat) (hn : n ≤ 2000) (w : World) :
    Calls Try.prog 11 #[.slice (some ⟨w.heap.size, 0, none⟩) n n] (w.alloc (.cells (blk .u8 (zr n)) 5)) fun e w' => ∃ v, e = .returned (.tuple #[v, .int .i64 (ckPE (zr n))]) ∧ KOwn .u8 5 w' w.heap.size v (ckPut (zr n)) ∧ Below w.heap.size w w' := by
  have g1 : (w.alloc (.cells (blk .u8 (zr n)) 5)).heap[w.heap.size]? = some (.cells (blk .u8 (zr n)) 5 (0, 0)) := heap_alloc_new w _
  refine (chPut_any (some ⟨w.heap.size, 0, none⟩) n n (zr n) _ ((Row.of_block g1 _ (zr_wf n) (List.prefix_refl _)).more (block_lt g1)) (zr_len n) (by omega)).mono fun e w' ⟨v, he, hk, hb⟩ => ⟨v, he, hk.mono (by simp), (bel_alloc w _).trans (hb.mono (by simp))⟩
/-- Get of a list that a call has just made, and that is none. -/
theorem get_lit (l : List Int) (n : Nat) (E : Int) (hn : l.length = n) (hw : ∀ x ∈ l, (Lit.int .u8 x).wf = true) (hE : ckE l = E) (h0 : E ≠ 0) (hb : n ≤ 1000) (w : World) :
    Calls Try.prog 13 #[.slice (some ⟨w.heap.size, 0, none⟩) n n] (w.alloc (.cells (blk .u8 l) 5)) fun e w' => ∃ A c, e = .returned (.tuple #[.slice A 0 c, .int .i64 0, .int .i64 E]) ∧ Below w.heap.size w w' := by
  have g1 : (w.alloc (.cells (blk .u8 l) 5)).heap[w.heap.size]? = some (.cells (blk .u8 l) 5 (0, 0)) := heap_alloc_new w _
  have h1 : ¬ ckE l = 0 := by rw [hE]; exact h0
  refine (chGet_any (some ⟨w.heap.size, 0, none⟩) n n l _ ((Row.of_block g1 _ hw (List.prefix_refl _)).more (block_lt g1)) hn (Nat.le_refl _) (by omega)).mono fun e w' ⟨v, he, hk, hb⟩ => ?_
  rw [ckG_no h1] at hk
  rw [ckM_no h1, hE] at he
  obtain ⟨A, c, rfl, _⟩ := hk.form
  exact ⟨A, c, he, (bel_alloc w _).trans (hb.mono (by simp))⟩
/-- Put of a text that a call has just made. -/
theorem put_text (l : List Int) (n : Nat) (hn : l.length = n) (hw : ∀ x ∈ l, (Lit.int .u8 x).wf = true) (hb : n ≤ 1000) (w : World) :
    Calls Try.prog 11 #[.slice (some ⟨w.heap.size, 0, none⟩) n n] (w.alloc (.cells (blk .u8 l) 5 (n, n + 1))) fun e w' => ∃ A c, e = .returned (.tuple #[.slice A (6 + n) c, .int .i64 0]) ∧ Row .u8 w' w'.heap.size A (ckL l) ∧ 6 + n ≤ c ∧ Below w.heap.size w w' := by
  have g1 : (w.alloc (.cells (blk .u8 l) 5 (n, n + 1))).heap[w.heap.size]? = some (.cells (blk .u8 l) 5 (n, n + 1)) := heap_alloc_new w _
  refine (chPut_any (some ⟨w.heap.size, 0, none⟩) n n l _ ((Row.of_block g1 _ hw (List.prefix_refl _)).more (block_lt g1)) hn (by omega)).mono fun e w' ⟨v, he, hk, hb⟩ => ?_
  rw [ckPE_ok (by omega)] at he
  rw [ckPut_ok (by omega)] at hk
  obtain ⟨A, c, rfl, hr, hc, _⟩ := hk.row (ckL_wf (by omega) hw)
  rw [ckL_len, hn] at he hc
  exact ⟨A, c, he, hr, hc, (bel_alloc w _).trans (hb.mono (by simp))⟩
/-- An append of a row to a list of the call's own, as an equation. -/
theorem run_app_row (w0 w W : World) (base : Nat) (v : Value) (xs : List Int) (h : Own .u8 5 w base v xs) (hW : Below w.heap.size w W) (hb : Below base w0 w) (hbase : base ≤ w.heap.size) (A : Option Addr) (m c : Nat) (ys : List Int) (hr : Row .u8 w0 base A ys) (hm : ys.length = m) (h1 : 1 ≤ m) (hx : ∀ x ∈ xs, (Lit.int .u8 x).wf = true) (hl : xs.length + m ≤ 1000) :
    ∃ A' c' w', (∀ ty, (Builtin.append_ #[22, 22] ty #[v, .slice A m c]).run Try.prog W = .ok (.slice A' (xs.length + m) c') w') ∧ Own .u8 5 w' base (.slice A' (xs.length + m) c') (xs ++ ys) ∧ Below base w0 w' ∧ base ≤ w'.heap.size := by
  obtain ⟨i, hi1, hz, hsz, hby⟩ := info_parts info_u8
  have hbW : Below base w0 W := hb.trans (hW.mono hbase)
  have hW2 : base ≤ W.heap.size := Nat.le_trans hbase hW.size
  have hOW : Own .u8 5 W base v xs := h.below hW (Nat.le_refl _)
  obtain ⟨b, o, rfl, _, hc⟩ := (hr.below hbW).2 (by omega)
  have hnews : ∀ j u, (ys.map (Value.int .u8))[j]? = some u → W.cell? ((⟨b, o, none⟩ : Addr).add j) = some u := by
    intro j u hu
    rw [List.getElem?_map] at hu
    by_cases hj : j < ys.length
    · rw [List.getElem?_eq_getElem hj] at hu
      rw [Go.WideShapes.add_plain, hc j hj, nth_eq ys j hj]
      exact hu
    · rw [List.getElem?_eq_none (by omega)] at hu
      cases hu
  obtain ⟨v', w', hrun, r1, r2, _⟩ := run_append_own (P := Try.prog) W base 22 0 5 i _ 1 1 Try.underlying22 hi1 hz hsz hby rfl (by omega) v xs.length (xs.map (Value.int .u8)) hOW ⟨b, o, none⟩ m c (ys.map (Value.int .u8)) (by simp [hm]) hnews (ints_oneCell _ _) (by unfold maxLen; omega) (by omega) hW2
  have hown : Own .u8 5 w' base v' (xs ++ ys) := by
    unfold Own
    rw [List.map_append, List.length_append, hm]
    exact r1
  have hbel : Below base w0 w' := hbW.grown r2 hW2 fun q e => (hOW.block q e).1
  obtain ⟨A', c', e, _⟩ := hown.row (wf_append hx hr.1)
  rw [List.length_append, hm] at e
  rw [e] at hown
  exact ⟨A', c', w', fun ty => by rw [← e]; exact hrun, hown, hbel, Nat.le_trans hW2 r2.size⟩
def tA : List Int := [97]
def tB : List Int := [98, 99]
theorem tA_wf : ∀ x ∈ tA, (Lit.int .u8 x).wf = true := by decide
theorem tB_wf : ∀ x ∈ tB, (Lit.int .u8 x).wf = true := by decide
theorem two_chunks : ckScan (ckL tA ++ ckL tB ++ (ckL tB).take 4) = ([tA, tB], 15) := by
  have h := ckSc_back [tA, tB] (by decide) ((ckL tB).take 4) (by decide +kernel) ((ckL tA ++ ckL tB ++ (ckL tB).take 4).length + 1) (by decide)
  have e : ckAll [tA, tB] = ckL tA ++ ckL tB := by simp [ckAll]
  rw [e] at h
  exact h
theorem spoilt_chunk : ckE ((ckL tA).set 6 98 ++ ckL tB) = 5 := by decide +kernel
theorem spoilt_scan : ckScan ((ckL tA).set 6 98 ++ ckL tB) = ([], 0) := by
  rw [ckScan, ckSc, if_neg (by rw [spoilt_chunk]; decide)]
theorem ch_five : ckE [0, 0, 0, 0, 0] = 1 := by decide +kernel
theorem ch_long : ckE [4, 1, 0, 0, 0, 0] = 2 := by decide +kernel
theorem ch_short : ckE [0, 1, 0, 0, 0, 0] = 1 := by decide +kernel

/-- Two texts that were scanned are those of a list that a call has just made. -/
theorem same_two (w : World) (base : Nat) (A : Option Addr) (c : Nat) (hL : LOwn w base (.slice A 2 c) [tA, tB]) :
    Calls Try.prog 18 #[.slice A 2 c, .slice (some ⟨w.heap.size + 1 + 1, 0, none⟩) 2 2] (((w.alloc (.cells #[.int .u8 97] 5 (1, 2))).alloc (.cells #[.int .u8 98, .int .u8 99] 5 (2, 3))).alloc (.cells #[.slice (some ⟨w.heap.size, 0, none⟩) 1 1, .slice (some ⟨w.heap.size + 1, 0, none⟩) 2 2] 22)) fun e w' => e = .returned (.bool true) ∧ Below w.heap.size w w' := by
  obtain ⟨W1, hW1⟩ : ∃ W1 : World, w.alloc (.cells #[.int .u8 97] 5 (1, 2)) = W1 := ⟨_, rfl⟩
  have z1 : W1.heap.size = w.heap.size + 1 := by rw [← hW1]; simp
  have a1 : W1.heap[w.heap.size]? = some (.cells (blk .u8 tA) 5 (1, 2)) := by rw [← hW1]; exact heap_alloc_new w _
  have d1 : Below w.heap.size w W1 := by rw [← hW1]; exact bel_alloc w _
  rw [hW1]
  obtain ⟨W2, hW2⟩ : ∃ W2 : World, W1.alloc (.cells #[.int .u8 98, .int .u8 99] 5 (2, 3)) = W2 := ⟨_, rfl⟩
  have z2 : W2.heap.size = w.heap.size + 1 + 1 := by rw [← hW2]; simp [z1]
  have a2 : W2.heap[w.heap.size]? = some (.cells (blk .u8 tA) 5 (1, 2)) := by rw [← hW2]; exact (heap_alloc_old W1 _ (by omega)).trans a1
  have c2 : W2.heap[w.heap.size + 1]? = some (.cells (blk .u8 tB) 5 (2, 3)) := by rw [← hW2, ← z1]; exact heap_alloc_new W1 _
  have d2 : Below w.heap.size w W2 := by rw [← hW2]; exact d1.alloc (by omega) _
  rw [hW2]
  obtain ⟨W3, hW3⟩ : ∃ W3 : World, W2.alloc (.cells #[.slice (some ⟨w.heap.size, 0, none⟩) 1 1, .slice (some ⟨w.heap.size + 1, 0, none⟩) 2 2] 22) = W3 := ⟨_, rfl⟩
  have a3 : W3.heap[w.heap.size]? = some (.cells (blk .u8 tA) 5 (1, 2)) := by rw [← hW3]; exact (heap_alloc_old W2 _ (by omega)).trans a2
  have c3 : W3.heap[w.heap.size + 1]? = some (.cells (blk .u8 tB) 5 (2, 3)) := by rw [← hW3]; exact (heap_alloc_old W2 _ (by omega)).trans c2
  have e3 : W3.heap[w.heap.size + 1 + 1]? = some (.cells #[.slice (some ⟨w.heap.size, 0, none⟩) 1 1, .slice (some ⟨w.heap.size + 1, 0, none⟩) 2 2] 22 (0, 0)) := by rw [← hW3, ← z2]; exact heap_alloc_new W2 _
  have d3 : Below w.heap.size w W3 := by rw [← hW3]; exact d2.alloc (by omega) _
  rw [hW3]
  have hwf : ∀ xs ∈ [tA, tB], ∀ x ∈ xs, (Lit.int .u8 x).wf = true := by decide
  have br : BRow W3 W3.heap.size (some ⟨w.heap.size + 1 + 1, 0, none⟩) [tA, tB] := fun _ => by
    refine ⟨_, _, rfl, block_lt e3, fun i hi => ?_⟩
    have h2 : i = 0 ∨ i = 1 := by simp at hi; omega
    rcases h2 with rfl | rfl
    · exact ⟨some ⟨w.heap.size, 0, none⟩, 1, cell_of_row W3 _ 0 _ _ _ e3, (Row.of_block a3 _ tA_wf (List.prefix_refl _)).more (block_lt a3), by decide, by decide⟩
    · exact ⟨some ⟨w.heap.size + 1, 0, none⟩, 2, cell_of_row W3 _ 1 _ _ _ e3, (Row.of_block c3 _ tB_wf (List.prefix_refl _)).more (block_lt c3), by decide, by decide⟩
  refine (SameRows_yes A _ 2 c 2 [tA, tB] W3 _ _ ((hL.brow hwf).below d3) br rfl (by omega) (fun i hi => ?_)).mono fun e w' ⟨he, m, hm⟩ => ⟨he, by rw [hm]; exact ⟨d3.os, d3.tape, d3.output, d3.size, d3.block⟩⟩
  have h2 : i = 0 ∨ i = 1 := by omega
  rcases h2 with rfl | rfl <;> decide
set_option maxHeartbeats 8000000 in
theorem walk_ChunkKnown (w : World) : Calls Try.prog 9 #[] w fun e w' => e = .returned (.bool true) ∧ Below w.heap.size w w' := by
  have mk1 : ∀ W : World, (Instr.makeSlice 22 (.int .i64 1025) (.int .i64 1025)).run Try.prog W = .ok (.slice (some ⟨W.heap.size, 0, none⟩) 1025 1025) (W.alloc (.cells (blk .u8 (zr 1025)) 5)) := make_u8 1025 (by omega)
  have mk2 : ∀ W : World, (Instr.makeSlice 22 (.int .i64 1024) (.int .i64 1024)).run Try.prog W = .ok (.slice (some ⟨W.heap.size, 0, none⟩) 1024 1024) (W.alloc (.cells (blk .u8 (zr 1024)) 5)) := make_u8 1024 (by omega)
  have hcv := fun (W : World) (C : Array Value) (n c : Nat) => Lib.run_convert_bytes_const (P := Try.prog) W 22 5 C n c Try.underlying22 Try.underlying5
  obtain ⟨N, hN⟩ : ∃ N, Hid (ckL [] = N) := ⟨_, Lib.hid rfl⟩
  have hNl : Hid (N.length = 6) := Lib.hid (by rw [← hN.out, ckL_len]; rfl)
  have hNw : Hid (∀ x ∈ N, (Lit.int .u8 x).wf = true) := Lib.hid (by rw [← hN.out]; exact ckL_wf (by decide) (by simp))
  have hN0 : Hid (nth N 0 = 0) := Lib.hid (by rw [← hN.out]; rfl)
  have hN1 : Hid (nth N 1 = 0) := Lib.hid (by rw [← hN.out]; rfl)
  obtain ⟨Z, hZ⟩ : ∃ Z, Hid (ckL (zr 1024) = Z) := ⟨_, Lib.hid rfl⟩
  have hZl : Hid (Z.length = 1030) := Lib.hid (by rw [← hZ.out, ckL_len, zr_len])
  have hZw : Hid (∀ x ∈ Z, (Lit.int .u8 x).wf = true) := Lib.hid (by rw [← hZ.out]; exact ckL_wf (by rw [zr_len]; omega) (zr_wf _))
  have hZ0 : Hid (nth Z 0 = 4) := Lib.hid (by rw [← hZ.out]; show (((zr 1024).length / 256 : Nat) : Int) = 4; rw [zr_len]; rfl)
  have pN : Hid (ckPut [] = N) := Lib.hid (by rw [← hN.out]; exact ckPut_ok (by decide))
  have pNE : Hid (ckPE [] = 0) := Lib.hid (ckPE_ok (by decide))
  have pB : Hid (ckPE (zr 1025) = 2) := Lib.hid (ckPE_big (by rw [zr_len]; omega))
  have pBP : Hid (ckPut (zr 1025) = []) := Lib.hid (ckPut_big (by rw [zr_len]; omega))
  have pZ : Hid (ckPE (zr 1024) = 0) := Lib.hid (ckPE_ok (by rw [zr_len]; omega))
  have pZP : Hid (ckPut (zr 1024) = Z) := Lib.hid (by rw [← hZ.out]; exact ckPut_ok (by rw [zr_len]; omega))
  go_enter Try.func9, Try.ntmps9
  go_wp2_with fail
  refine (chPut_any none 0 0 [] w (Row.nil _ _ _ _) rfl (by omega)).mono ?_
  rintro e w1 ⟨v1, rfl, k1, b1⟩
  rw [pN.out] at k1
  rw [pNE.out]
  obtain ⟨A1, c1, rfl, r1, _⟩ := k1.row hNw.out
  rw [hNl.out]
  have R1 := Lib.hid r1
  clear k1 r1
  go_wp2_with fail
  refine (put_zr 1025 (by omega) w1).mono ?_
  rintro e w2 ⟨v2, rfl, k2, d2⟩
  rw [pBP.out] at k2
  rw [pB.out]
  obtain ⟨A2, c2, rfl, _⟩ := k2.form
  have b2 := b1.trans (d2.mono b1.size)
  have R2 := Lib.hid ((R1.out.below d2).more d2.size)
  clear k2 d2 b1 R1 mk1
  go_wp2_with fail
  refine (put_zr 1024 (by omega) w2).mono ?_
  rintro e w3 ⟨v3, rfl, k3, d3⟩
  rw [pZP.out] at k3
  rw [pZ.out]
  obtain ⟨A3, c3, rfl, r3, _⟩ := k3.row hZw.out
  rw [hZl.out]
  have b3 := b2.trans (d3.mono b2.size)
  have R3 := Lib.hid ((R2.out.below d3).more d3.size)
  have Z3 := Lib.hid r3
  clear k3 d3 r3 b2 R2 mk2
  go_wp2_with fail
  refine (get_lit [0, 0, 0, 0, 0] 5 1 rfl (by decide) ch_five (by decide) (by omega) w3).mono ?_
  rintro e w4 ⟨A4, c4, rfl, d4⟩
  have b4 := b3.trans (d4.mono b3.size)
  have R4 := Lib.hid ((R3.out.below d4).more d4.size)
  have Z4 := Lib.hid ((Z3.out.below d4).more d4.size)
  clear d4 b3 R3 Z3
  go_wp2_with fail
  refine (get_lit [4, 1, 0, 0, 0, 0] 6 2 rfl (by decide) ch_long (by decide) (by omega) w4).mono ?_
  rintro e w5 ⟨A5, c5, rfl, d5⟩
  have b5 := b4.trans (d5.mono b4.size)
  have R5 := Lib.hid ((R4.out.below d5).more d5.size)
  have Z5 := Lib.hid ((Z4.out.below d5).more d5.size)
  clear d5 b4 R4 Z4
  go_wp2_with fail
  refine (get_lit [0, 1, 0, 0, 0, 0] 6 1 rfl (by decide) ch_short (by decide) (by omega) w5).mono ?_
  rintro e w6 ⟨A6, c6, rfl, d6⟩
  have b6 := b5.trans (d6.mono b5.size)
  obtain ⟨g1, o1, rfl, _, q10⟩ := ((R5.out.below d6).more d6.size).at_ (i := 0) (by rw [hNl.out]; omega)
  obtain ⟨g1', o1', e1, _, q11⟩ := ((R5.out.below d6).more d6.size).at_ (i := 1) (by rw [hNl.out]; omega)
  obtain ⟨g3, o3, rfl, _, q30⟩ := ((Z5.out.below d6).more d6.size).at_ (i := 0) (by rw [hZl.out]; omega)
  injection e1 with e1
  injection e1 with e11 e12
  subst e11 e12
  rw [hN0.out, Nat.add_zero] at q10
  rw [hN1.out] at q11
  rw [hZ0.out, Nat.add_zero] at q30
  clear d6 b5 R5 Z5
  go_wp2_with fail
  clear q10 q11 q30 hN0 hN1 hNl hNw hN pN pNE pB pBP pZ pZP hZ0 hZw hZl hZ
  have LAl : Hid ((ckL tA).length = 7) := Lib.hid (by rw [ckL_len]; rfl)
  have LBl : Hid ((ckL tB).length = 8) := Lib.hid (by rw [ckL_len]; rfl)
  have LAw : Hid (∀ x ∈ ckL tA, (Lit.int .u8 x).wf = true) := Lib.hid (ckL_wf (by decide) tA_wf)
  have LBw : Hid (∀ x ∈ ckL tB, (Lit.int .u8 x).wf = true) := Lib.hid (ckL_wf (by decide) tB_wf)
  have HS1 := Lib.hid two_chunks
  have HS2 := Lib.hid spoilt_scan
  refine (put_text tA 1 rfl tA_wf (by omega) w6).mono ?_
  rintro e w7 ⟨A7, c7, rfl, r7, hc7, d7⟩
  have b7 := b6.trans (d7.mono b6.size)
  have RA7 := Lib.hid r7
  clear r7 d7 b6
  go_wp2_with fail
  refine (put_text tB 2 rfl tB_wf (by omega) w7).mono ?_
  rintro e w8 ⟨A8, c8, rfl, r8, hc8, d8⟩
  have b8 := b7.trans (d8.mono b7.size)
  have RA8 := Lib.hid ((RA7.out.below d8).more d8.size)
  have RB8 := Lib.hid r8
  clear r8 d8 b7 RA7
  obtain ⟨LA, hLA⟩ : ∃ L, Hid (ckL tA = L) := ⟨_, Lib.hid rfl⟩
  obtain ⟨LB, hLB⟩ : ∃ L, Hid (ckL tB = L) := ⟨_, Lib.hid rfl⟩
  rw [hLA.out] at LAl LAw HS1 HS2 RA8
  rw [hLB.out] at LBl LBw HS1 HS2 RB8
  have HCP : Hid (∀ q, Calls Try.prog 22 #[.slice A7 7 c7] (w8.drewN q) fun e w' => ∃ v, e = .returned v ∧ Own .u8 5 w' w8.heap.size v LA ∧ Below w8.heap.size w8 w' ∧ w8.heap.size ≤ w'.heap.size) := Lib.hid (fun q => (copy_u8 A7 7 c7 LA (w8.drewN q) (RA8.out.drewN q) LAl.out (by omega)).mono fun e w' ⟨v, he, ho, hb⟩ => ⟨v, he, ho, (bel_dn w8 q).trans hb, hb.size⟩)
  have HTK : Hid ((LB.take 4).length = 4) := Lib.hid (by rw [List.length_take, LBl.out]; rfl)
  have HSC : Hid (∀ A c w', Own .u8 5 w' w8.heap.size (.slice A 19 c) (LA ++ LB ++ LB.take 4) → Below w8.heap.size w8 w' → w8.heap.size ≤ w'.heap.size → ∀ W, (∃ q, W = w'.drewN q) → Calls Try.prog 15 #[.slice A 19 c] W fun e w'' => ∃ v, e = .returned (.tuple #[v, .int .i64 15]) ∧ LOwn w'' w8.heap.size v [tA, tB] ∧ Below w8.heap.size w8 w'') := Lib.hid (fun A c w' ho hb hs W ⟨q, hq⟩ => by
    subst hq
    have hw3 : ∀ x ∈ LA ++ LB ++ LB.take 4, (Lit.int .u8 x).wf = true := wf_append (wf_append LAw.out LBw.out) (fun x hx => LBw.out x (List.mem_of_mem_take hx))
    have hl3 : (LA ++ LB ++ LB.take 4).length = 19 := by rw [List.length_append, List.length_append, LAl.out, LBl.out, HTK.out]
    obtain ⟨A', c', e, r, hcc, _⟩ := ho.row hw3
    rw [hl3] at e hcc
    injection e with e1 e2 e3
    subst e1 e3
    have h := chScan_any A 19 c (LA ++ LB ++ LB.take 4) (w'.drewN q) (r.drewN q) hl3 hcc (by omega)
    refine h.mono fun e w'' ⟨v, he, hl, hb2⟩ => ?_
    rw [HS1.out] at hl he
    exact ⟨v, he, hl.mono hs, (hb.trans (bel_dn w' q |>.mono hs)).trans (hb2.mono hs)⟩)
  have i8 : (4 : Int) ≤ (c8 : Int) := by omega
  have i9 : 4 ≤ c8 := by omega
  have HB4 : Hid (Row .u8 w8 w8.heap.size A8 (LB.take 4)) := Lib.hid (RB8.out.front 4)
  go_wp2_with fail
  go_region_law (first
    | (go_simp; go_at_call 22; refine (HCP.out _).mono ?_; rintro e w9 ⟨v9, rfl, o9, b9, s9⟩)
    | (obtain ⟨A10, c10, w10, r10, o10, b10, s10⟩ := run_app_row w8 w9 (w9) w8.heap.size v9 LA o9 (Below.refl w9.heap.size w9) b9 s9 A8 8 c8 LB RB8.out LBl.out (by omega) LAw.out (by rw [LAl.out]; omega); rw [LAl.out] at r10 o10; refine step_append_run (w9) rfl (.tmp 121) (.tmp 122) 22 rfl v9 (.slice A8 8 c8) (.slice A10 (7 + 8) c10) w10 rfl rfl r10 ?_)
    | (obtain ⟨A10, c10, w10, r10, o10, b10, s10⟩ := run_app_row w8 w9 (w9.drew) w8.heap.size v9 LA o9 (below_drew (Below.refl w9.heap.size w9)) b9 s9 A8 8 c8 LB RB8.out LBl.out (by omega) LAw.out (by rw [LAl.out]; omega); rw [LAl.out] at r10 o10; refine step_append_run (w9.drew) rfl (.tmp 121) (.tmp 122) 22 rfl v9 (.slice A8 8 c8) (.slice A10 (7 + 8) c10) w10 rfl rfl r10 ?_)
    | (obtain ⟨A10, c10, w10, r10, o10, b10, s10⟩ := run_app_row w8 w9 (w9.drew.drew) w8.heap.size v9 LA o9 (below_drew (below_drew (Below.refl w9.heap.size w9))) b9 s9 A8 8 c8 LB RB8.out LBl.out (by omega) LAw.out (by rw [LAl.out]; omega); rw [LAl.out] at r10 o10; refine step_append_run (w9.drew.drew) rfl (.tmp 121) (.tmp 122) 22 rfl v9 (.slice A8 8 c8) (.slice A10 (7 + 8) c10) w10 rfl rfl r10 ?_)
    | (obtain ⟨A11, c11, w11, r11, o11, b11, s11⟩ := run_app_row w8 w10 (w10) w8.heap.size (.slice A10 (7 + 8) c10) (LA ++ LB) o10 (Below.refl w10.heap.size w10) b10 s10 A8 4 c8 (LB.take 4) HB4.out HTK.out (by omega) (wf_append LAw.out LBw.out) (by rw [List.length_append, LAl.out, LBl.out]; omega); rw [List.length_append, LAl.out, LBl.out] at r11 o11; refine step_append_run (w10) rfl (.tmp 123) (.tmp 125) 22 rfl (.slice A10 (7 + 8) c10) (.slice A8 4 c8) (.slice A11 (7 + 8 + 4) c11) w11 rfl rfl r11 ?_)
    | (obtain ⟨A11, c11, w11, r11, o11, b11, s11⟩ := run_app_row w8 w10 (w10.drew) w8.heap.size (.slice A10 (7 + 8) c10) (LA ++ LB) o10 (below_drew (Below.refl w10.heap.size w10)) b10 s10 A8 4 c8 (LB.take 4) HB4.out HTK.out (by omega) (wf_append LAw.out LBw.out) (by rw [List.length_append, LAl.out, LBl.out]; omega); rw [List.length_append, LAl.out, LBl.out] at r11 o11; refine step_append_run (w10.drew) rfl (.tmp 123) (.tmp 125) 22 rfl (.slice A10 (7 + 8) c10) (.slice A8 4 c8) (.slice A11 (7 + 8 + 4) c11) w11 rfl rfl r11 ?_)
    | (obtain ⟨A11, c11, w11, r11, o11, b11, s11⟩ := run_app_row w8 w10 (w10.drew.drew) w8.heap.size (.slice A10 (7 + 8) c10) (LA ++ LB) o10 (below_drew (below_drew (Below.refl w10.heap.size w10))) b10 s10 A8 4 c8 (LB.take 4) HB4.out HTK.out (by omega) (wf_append LAw.out LBw.out) (by rw [List.length_append, LAl.out, LBl.out]; omega); rw [List.length_append, LAl.out, LBl.out] at r11 o11; refine step_append_run (w10.drew.drew) rfl (.tmp 123) (.tmp 125) 22 rfl (.slice A10 (7 + 8) c10) (.slice A8 4 c8) (.slice A11 (7 + 8 + 4) c11) w11 rfl rfl r11 ?_)
    | (go_simp; go_at_call 15; refine (HSC.out A11 c11 w11 o11 b11 s11 _ (by first | exact ⟨0, rfl⟩ | exact ⟨1, rfl⟩ | exact ⟨_, rfl⟩)).mono ?_; rintro e w12 ⟨v12, rfl, l12, b12⟩; obtain ⟨A12, c12, rfl, _⟩ := l12.len)
    | fail)
  have b12w := b8.trans (b12.mono b8.size)
  have RA12 := Lib.hid ((RA8.out.below b12).more b12.size)
  have RB12 := Lib.hid ((RB8.out.below b12).more b12.size)
  have L12 := Lib.hid l12
  have HLAs : Hid ((LA.set 6 98).length = 7) := Lib.hid (by rw [List.length_set, LAl.out])
  have HLAw : Hid (∀ x ∈ LA.set 6 98, (Lit.int .u8 x).wf = true) := Lib.hid (fun x hx => by
    rcases List.mem_or_eq_of_mem_set hx with h | rfl
    · exact LAw.out x h
    · decide)
  clear HCP HSC HB4 HTK HS1 RA8 RB8 l12 b12 o9 b9 s9 o10 b10 s10 r10 o11 b11 s11 r11 b8 i8 i9
  go_wp2_with fail
  refine (copy_u8 A7 7 c7 LA w12 RA12.out LAl.out (by omega)).mono ?_
  rintro e w13 ⟨v13, rfl, o13, d13⟩
  obtain ⟨g13, cap13, rfl, hg13, hg13', hcp13, cc13, fz13, st13⟩ := o13.cells (by rw [LAl.out]; omega)
  have cc := cc13 6 (by rw [LAl.out]; omega)
  have fz := fz13 6
  have o14 := Lib.hid (st13 w13 6 98 rfl (by rw [LAl.out]; omega))
  have d14 := Lib.hid (d13.setCell hg13 (p := ⟨g13, 6, none⟩) (.int .u8 98))
  have hs14 : Hid ((w13.setCell ⟨g13, 6, none⟩ (.int .u8 98)).heap.size = w13.heap.size) := Lib.hid (by simp [World.setCell])
  rw [LAl.out] at o14 hcp13 ⊢
  clear cc13 fz13 st13 o13 RA12
  have hs13 : w12.heap.size ≤ (w13.setCell ⟨g13, 6, none⟩ (.int .u8 98)).heap.size := d14.out.size
  obtain ⟨A15, c15, w15, r15, o15, b15, s15⟩ := run_app_row w12 (w13.setCell ⟨g13, 6, none⟩ (.int .u8 98)) (w13.setCell ⟨g13, 6, none⟩ (.int .u8 98)) w12.heap.size (.slice (some ⟨g13, 0, none⟩) 7 cap13) (LA.set 6 98) o14.out (Below.refl _ _) d14.out hs13 A8 8 c8 LB RB12.out LBl.out (by omega) HLAw.out (by rw [HLAs.out]; omega)
  rw [HLAs.out] at r15 o15
  have R15 := Lib.hid r15
  have hVw : ∀ x ∈ LA.set 6 98 ++ LB, (Lit.int .u8 x).wf = true := wf_append HLAw.out LBw.out
  have hVl : (LA.set 6 98 ++ LB).length = 15 := by rw [List.length_append, HLAs.out, LBl.out]
  have HSC2 : Hid (Calls Try.prog 15 #[.slice A15 15 c15] w15 fun e w' => ∃ A c, e = .returned (.tuple #[.slice A 0 c, .int .i64 0]) ∧ Below w15.heap.size w15 w') := Lib.hid (by
    obtain ⟨A', c', e, r, hcc, _⟩ := o15.row hVw
    rw [hVl] at e hcc
    injection e with e1 e2 e3
    subst e1 e3
    refine (chScan_any A15 15 c15 (LA.set 6 98 ++ LB) w15 r hVl hcc (by omega)).mono fun e w'' ⟨v, he, hl, hb2⟩ => ?_
    rw [HS2.out] at hl he
    obtain ⟨A, c, rfl, _⟩ := hl.len
    exact ⟨A, c, he, hb2⟩)
  have B15 := Lib.hid (b12w.trans (b15.mono b12w.size))
  have D15 := Lib.hid b15
  clear r15 o15 b15 s15 hs13 o14 d14 d13 hcp13 hVw hVl HS2 HLAs HLAw hs14
  go_wp2_with (at_builtin; refine wpList_append_run _ rfl (.tmp 135) (.tmp 136) 22 rfl (.slice (some ⟨g13, 0, none⟩) 7 cap13) (.slice A8 8 c8) (.slice A15 (7 + 8) c15) w15 rfl rfl R15.out ?_)
  refine HSC2.out.mono ?_
  rintro e w16 ⟨A16, c16, rfl, d16⟩
  have b16 := B15.out.trans (d16.mono B15.out.size)
  have L16 := Lib.hid ((L12.out.below D15.out (Nat.le_refl _)).below d16 (Nat.le_refl _))
  clear R15 HSC2 d16 b12w L12 B15 D15 cc fz RB12
  have hcv2 : (convert 22 22 (.slice (some ⟨w16.heap.size + 1, 0, none⟩) 2 2)).run Try.prog ((w16.alloc (.cells #[.int .u8 97] 5 (1, 2))).alloc (.cells #[.int .u8 98, .int .u8 99] 5)) = .ok (.slice (some ⟨w16.heap.size + 1, 0, none⟩) 2 2) ((w16.alloc (.cells #[.int .u8 97] 5 (1, 2))).alloc (.cells #[.int .u8 98, .int .u8 99] 5 (2, 3))) := by
    have h := hcv (w16.alloc (.cells #[.int .u8 97] 5 (1, 2))) #[.int .u8 98, .int .u8 99] 2 2
    rw [show (w16.alloc (.cells #[.int .u8 97] 5 (1, 2))).heap.size = w16.heap.size + 1 by simp] at h
    exact h
  go_wp2_with fail
  refine (same_two w16 _ A12 c12 L16.out).mono ?_
  rintro e w17 ⟨rfl, d17⟩
  have b17 := b16.trans (d17.mono b16.size)
  clear d17 b16 L16
  go_wp2_with (go_at_call 21; refine (known13_yes _).mono ?_; rintro e w18 ⟨rfl, b18⟩)
  go_ret
  exact ⟨rfl, b17.trans (b18.mono b17.size)⟩
end Go.Proofs.Ytooelfmfcihlkaa
namespace Go.Proofs.Ytooelfmfcihlkaa.chunkKnown
open Go.ChangeShapes Go.WideShapes Go.ChangeAt Go.RowKit
open Go.ChangeMaps (open_string shut_string)
set_option linter.unusedVariables false

theorem own : ownKnob Try.prog.godebug = none := by kernel_rfl
theorem laidOut : laidOutB Try.prog = true := by kernel_rfl

set_option maxRecDepth 100000 in
theorem lifted (os : Os) (started : os.Started) (H : Type) (enc : TypeId × Value → H) :
    ReturnsInHanded {} Try.checked os 9 .any (Rows.chunkKnownSpec.pre6 enc Try.prog Try.f9 Rows.chunkKnownRow.domain false) (Rows.chunkKnownSpec.post enc Try.prog Try.f9 false true false false) := by
  refine returnsInHanded_of_change_sized (C := Try.checked) own started (by kernel_rfl) Try.func9
    (ChangeSpec.witness6 (enc := enc) (C := Try.checked) false ⟨#[], #[], []⟩ 8 (by kernel_rfl) (by kernel_rfl) (by kernel_rfl) (by kernel_rfl)) ?_
  intro W base args ds gs before hval0 hW hcnd hsz0 _
  have hsz : (DataW.weightsEach Try.prog (Try.f9.params.toList ++ Rows.chunkKnownSpec.plain.varTypes Try.prog) (ds ++ gs)).all (· ≤ reachBytes) = true := hsz0
  clear hsz0
  have hval : ∀ (j : Nat) t v, Try.f9.params[j]? = some t → args[j]? = some v → Value.okWide Try.prog W .any base t v := hval0
  have hW' := hW
  obtain ⟨p, q, hA0, hV, rfl, hfz, hnd⟩ := hW
  have hA : DataW.TrodAll enc Try.prog W 0 (fun _ => true) true Try.f9.params.toList args.toList ds p := hA0
  rw [Try.params9] at hA hval hsz
  obtain ⟨rfl, rfl, hargs⟩ := trodAll_none hA
  obtain ⟨rfl, rfl⟩ := trodVars_none hV
  clear hA0 hval0
  refine (walk_ChunkKnown  W ).mono fun e W' ⟨he, bel⟩ => ?_
  subst he
  exact ⟨_, rfl, _, _, _, [], _, [], hW', trodAll_mk1 (shut_bool Try.underlying4 _), trodAll_mk0, rfl, bel.frame _, fun h => by cases h⟩

theorem over : Rows.chunkKnownRow.holds Try.pinned (OpenSpec.ofChange Rows.chunkKnownSpec) :=
  OpenClaim.holds_of_wide 9 Try.f9 rfl rfl rfl rfl rfl rfl rfl ⟨rfl, rfl, rfl, rfl, rfl⟩ rfl rfl rfl rfl rfl (by kernel_rfl) Try.func9 (by kernel_rfl)
    (of_decide_eq_true (by kernel_rfl)) (by unfold Func.isWrapper; first | (rw [if_pos (by decide +kernel)]; kernel_rfl) | (rw [if_neg (by decide +kernel)]; exact ⟨rfl, rfl⟩))
    (fun os started H enc _ => lifted os started H enc)

theorem proved : Rows.ChunkKnownSaid := over
#print axioms proved
end Go.Proofs.Ytooelfmfcihlkaa.chunkKnown
