/-
  Texts of the proof of ChunkLaysUpto, joined.
-/
import Derived.Test.YtooelfmfcihlkaaJChunkLaysUptoA
import Derived.IntWalk
import Derived.Laws.AppendOwn
import Derived.Test.YtooelfmfcihlkaaProg
namespace Go.Proofs.Ytooelfmfcihlkaa
open Go.RowKit
set_option linter.unusedVariables false
set_option maxRecDepth 100000

theorem or_u8 (x y : Int) (hx : 0 ≤ x ∧ x < 256) (hy : 0 ≤ y ∧ y < 256) : bits .or .i64 (x * 256) y = x * 256 + y := by
  have orw : ∀ x y : Nat, y < 256 → (x * 256) ||| y = x * 256 + y := fun x y hy => by
    have h := Nat.two_pow_add_eq_or_of_lt (i := 8) (b := y) (by omega) x
    rw [Nat.mul_comm x 256]
    exact h.symm
  obtain ⟨a, rfl⟩ := Int.eq_ofNat_of_zero_le hx.1
  obtain ⟨b, rfl⟩ := Int.eq_ofNat_of_zero_le hy.1
  show IntKind.i64.wrap ((BitVec.ofInt 64 ((a : Int) * 256) ||| BitVec.ofInt 64 (b : Int)).toNat : Int) = _
  have e1 : (a : Int) * 256 = ((a * 256 : Nat) : Int) := by omega
  have f1 : (BitVec.ofInt 64 ((a * 256 : Nat) : Int)).toNat = a * 256 := by rw [BitVec.ofInt_natCast, BitVec.toNat_ofNat]; exact Nat.mod_eq_of_lt (by omega)
  have f2 : (BitVec.ofInt 64 ((b : Nat) : Int)).toNat = b := by rw [BitVec.ofInt_natCast, BitVec.toNat_ofNat]; exact Nat.mod_eq_of_lt (by omega)
  rw [e1, BitVec.toNat_or, f1, f2, orw a b (by omega)]
  exact IntWalk.i64_in _ (by omega)
/-- What bytes say, case by case. -/
theorem ckE_1 {b : List Int} (h : b.length < 6) : ckE b = 1 := if_pos h
theorem ckE_2 {b : List Int} (h : ¬ b.length < 6) (h2 : 1024 < ckN b) : ckE b = 2 := by unfold ckE; rw [if_neg h, if_pos h2]
theorem ckE_3 {b : List Int} (h : ¬ b.length < 6) (h2 : ¬ 1024 < ckN b) (h3 : b.length < 6 + ckN b) : ckE b = 1 := by unfold ckE; rw [if_neg h, if_neg h2, if_pos h3]
theorem ckE_4 {b : List Int} (h : ¬ b.length < 6) (h2 : ¬ 1024 < ckN b) (h3 : ¬ b.length < 6 + ckN b) (h4 : (b.drop 2).take 4 = be4 (ckS (ckP b))) : ckE b = 0 := by unfold ckE; rw [if_neg h, if_neg h2, if_neg h3, if_pos h4]
theorem ckE_5 {b : List Int} (h : ¬ b.length < 6) (h2 : ¬ 1024 < ckN b) (h3 : ¬ b.length < 6 + ckN b) (h4 : ¬ (b.drop 2).take 4 = be4 (ckS (ckP b))) : ckE b = 5 := by unfold ckE; rw [if_neg h, if_neg h2, if_neg h3, if_neg h4]
theorem ckG_no {b : List Int} (h : ¬ ckE b = 0) : ckG b = [] := if_neg h
theorem ckM_no {b : List Int} (h : ¬ ckE b = 0) : ckM b = 0 := if_neg h
theorem ckG_yes {b : List Int} (h : ckE b = 0) : ckG b = ckP b := if_pos h
theorem ckM_yes {b : List Int} (h : ckE b = 0) : ckM b = 6 + ckN b := if_pos h
theorem ckP_has {b : List Int} (h3 : 6 + ckN b ≤ b.length) : (ckP b).length = ckN b := by
  unfold ckP
  rw [List.length_take, List.length_drop]
  omega
/-- The head that bytes begin with is right just if their sum is. -/
theorem ck_head {b : List Int} (hb : ∀ x ∈ b, (Lit.int .u8 x).wf = true) (h1 : 6 ≤ b.length) (h3 : 6 + ckN b ≤ b.length) : b.take 6 = ckH (ckP b).length ++ be4 (ckS (ckP b)) ↔ (b.drop 2).take 4 = be4 (ckS (ckP b)) := by
  rw [ckP_has h3]
  generalize be4 (ckS (ckP b)) = z
  match b, h1, hb with
  | b0 :: b1 :: t, h1, hb =>
    have w0 := wf_u8 (hb b0 (by simp))
    have w1 := wf_u8 (hb b1 (by simp))
    have hn : ckN (b0 :: b1 :: t) = b0.toNat * 256 + b1.toNat := rfl
    have e0 : (((b0.toNat * 256 + b1.toNat) / 256 : Nat) : Int) = b0 := by omega
    have e1 : (((b0.toNat * 256 + b1.toNat) % 256 : Nat) : Int) = b1 := by omega
    have hH : ckH (ckN (b0 :: b1 :: t)) = [b0, b1] := by rw [hn]; unfold ckH; rw [e0, e1]
    rw [hH]
    simp
theorem ckE_small (b : List Int) : 0 ≤ ckE b ∧ ckE b ≤ 5 := by
  unfold ckE
  repeat' split
  all_goals omega
theorem ckM_le (b : List Int) : ckM b ≤ b.length := by
  by_cases h : ckE b = 0
  · rw [ckM_yes h]; exact (ckE_zero.1 h).2.2.1
  · rw [ckM_no h]; exact Nat.zero_le _
theorem ckG_len (b : List Int) : (ckG b).length ≤ 1024 := by
  by_cases h : ckE b = 0
  · rw [ckG_yes h, ckP_len h]; exact (ckE_zero.1 h).2.1
  · rw [ckG_no h]; simp
theorem ckG_wf {b : List Int} (hb : ∀ x ∈ b, (Lit.int .u8 x).wf = true) : ∀ x ∈ ckG b, (Lit.int .u8 x).wf = true := by
  by_cases h : ckE b = 0
  · rw [ckG_yes h]; intro x hx; exact hb x (List.mem_of_mem_drop (List.mem_of_mem_take hx))
  · rw [ckG_no h]; intro x hx; cases hx

/-- A call returns the payload, in a list of its own, known whole, how many bytes the chunk has, and an error. -/
def ChGot (w : World) (b : List Int) (e : Ending) (w' : World) : Prop := ∃ v, e = .returned (.tuple #[v, .int .i64 (ckM b : Nat), .int .i64 (ckE b)]) ∧ KOwn .u8 5 w' w.heap.size v (ckG b) ∧ Below w.heap.size w w'
theorem ChGot.none_ {w w' : World} {b : List Int} {E : Int} (h : ckE b = E) (h0 : E ≠ 0) (hb : Below w.heap.size w w') : ChGot w b (.returned (.tuple #[.slice none 0 0, .int .i64 0, .int .i64 E])) w' := by
  have hn : ¬ ckE b = 0 := by rw [h]; exact h0
  exact ⟨_, by rw [ckM_no hn, h]; rfl, by rw [ckG_no hn]; exact KOwn.nil _ _ _ _, hb⟩
theorem bel_dn (w : World) (m : Nat) : Below w.heap.size w (w.drewN m) := ⟨rfl, rfl, rfl, Nat.le_refl _, fun _ _ => rfl⟩

set_option maxHeartbeats 2000000 in
theorem chGet_any (A : Option Addr) (n c : Nat) (b : List Int) (w : World) (hr : Row .u8 w w.heap.size A b) (hn : b.length = n) (hc : n ≤ c) (hm : n ≤ 140737488355328) :
    Calls Try.prog 13 #[.slice A n c] w (ChGot w b) := by
  by_cases h6 : n < 6
  · have HE : Hid (ckE b = 1) := Lib.hid (ckE_1 (by omega))
    have i1 : (n : Int) < 6 := by omega
    clear hr hn
    go_enter Try.func13, Try.ntmps13
    go_wp2
    go_ret3
    exact ChGot.none_ HE.out (by decide) (Below.refl _ _)
  · obtain ⟨b0, o0, rfl, _, c0⟩ := hr.at_ (i := 0) (by omega)
    obtain ⟨b1, o1, e1, _, c1⟩ := hr.at_ (i := 1) (by omega)
    injection e1 with e1
    injection e1 with e11 e12
    subst e11 e12
    have x0 := wf_u8 (hr.wf_at (i := 0) (by omega))
    have x1 := wf_u8 (hr.wf_at (i := 1) (by omega))
    have hor := or_u8 _ _ x0 x1
    have hN : nth b 0 * 256 + nth b 1 = ((ckN b : Nat) : Int) := by unfold ckN; omega
    rw [hN] at hor
    have hNb : ckN b < 65536 := by omega
    rw [Nat.add_zero] at c0
    have HR := Lib.hid hr
    have HN := Lib.hid hn
    obtain ⟨N, hNN⟩ : ∃ N, Hid (ckN b = N) := ⟨_, Lib.hid rfl⟩
    rw [hNN.out] at hor hNb
    clear hN
    generalize nth b 0 = x at *
    generalize nth b 1 = y at *
    have ew : IntKind.i64.wrap (x * 256) = x * 256 := IntWalk.i64_in _ (by omega)
    have t0 : (0 : Int) < (n : Int) := by omega
    have t1 : (1 : Int) < (n : Int) := by omega
    have t6 : ¬ (n : Int) < 6 := by omega
    clear hr hn
    by_cases hbig : 1024 < N
    · have HE : Hid (ckE b = 2) := Lib.hid (ckE_2 (by rw [HN.out]; exact h6) (by rw [hNN.out]; exact hbig))
      have i2 : (N : Int) > 1024 := by omega
      go_enter Try.func13, Try.ntmps13
      go_wp2
      go_quiet (fail)
      go_wp2
      go_ret3
      exact ChGot.none_ HE.out (by decide) (bel_dn _ _)
    by_cases hsh : n < 6 + N
    · have HE : Hid (ckE b = 1) := Lib.hid (ckE_3 (by rw [HN.out]; exact h6) (by rw [hNN.out]; exact hbig) (by rw [HN.out, hNN.out]; exact hsh))
      have i2 : ¬ (N : Int) > 1024 := by omega
      have i3 : (n : Int) < 6 + (N : Int) := by omega
      go_enter Try.func13, Try.ntmps13
      go_wp2
      go_quiet (fail)
      go_wp2
      go_ret3
      exact ChGot.none_ HE.out (by decide) (bel_dn _ _)
    have i2 : ¬ (N : Int) > 1024 := by omega
    have i3 : ¬ (n : Int) < 6 + (N : Int) := by omega
    have j1 : (6 : Int) ≤ 6 + (N : Int) := by omega
    have j2 : (6 : Int) + (N : Int) ≤ (c : Int) := by omega
    have j3 : 6 + N ≤ c := by omega
    have j4 : ((6 : Int) + (N : Int)).toNat = 6 + N := by omega
    have j5 : (6 : Int) ≤ (c : Int) := by omega
    have hpl : Hid ((ckP b).length = N) := Lib.hid (by rw [ckP_has (by rw [hNN.out, HN.out]; omega), hNN.out])
    have hh := ck_head HR.out.1 (by rw [HN.out]; omega) (by rw [hNN.out, HN.out]; omega)
    have HP : Hid (Row .u8 w w.heap.size (some ⟨b0, o0 + 6, none⟩) (ckP b)) := Lib.hid (by have := (HR.out.drop 6).front N; rw [← hNN.out] at this; exact this)
    have HT : Hid (Row .u8 w w.heap.size (some ⟨b0, o0, none⟩) (b.take 6)) := Lib.hid (HR.out.front 6)
    have HTL : Hid ((b.take 6).length = 6) := Lib.hid (by rw [List.length_take, HN.out]; omega)
    obtain ⟨P, hP⟩ : ∃ P, Hid (ckP b = P) := ⟨_, Lib.hid rfl⟩
    obtain ⟨T, hT⟩ : ∃ T, Hid (b.take 6 = T) := ⟨_, Lib.hid rfl⟩
    rw [hP.out] at hpl hh HP
    rw [hT.out] at hh HT HTL
    have HHL : Hid ((ckH P.length ++ be4 (ckS P)).length = 6) := Lib.hid (by simp [ckH, be4])
    have HHW : Hid (∀ x ∈ ckH P.length ++ be4 (ckS P), (Lit.int .u8 x).wf = true) := Lib.hid (wf_append (ckH_wf (by rw [hpl.out]; omega)) (be4_wf _))
    have k1 : Hid (¬ b.length < 6) := Lib.hid (by rw [HN.out]; exact h6)
    have k2 : Hid (¬ 1024 < ckN b) := Lib.hid (by rw [hNN.out]; exact hbig)
    have k3 : Hid (¬ b.length < 6 + ckN b) := Lib.hid (by rw [HN.out, hNN.out]; exact hsh)
    have HHd : Hid (∀ q ad cc, (0 < N → ad = some ⟨b0, o0 + 6, none⟩) → Calls Try.prog 25 #[.slice ad N cc] (w.drewN q) fun e w' => e = .returned (.slice (some ⟨w.heap.size, 0, none⟩) 6 6) ∧ Below w.heap.size w w' ∧ (∀ cc', Calls Try.prog 28 #[.slice (some ⟨b0, o0, none⟩) 6 cc', .slice (some ⟨w.heap.size, 0, none⟩) 6 6] w' fun e w'' => e = .returned (.bool (decide (T = ckH P.length ++ be4 (ckS P)))) ∧ w' = w'')) := Lib.hid (fun q ad cc had => by
      have hrow : Row .u8 (w.drewN q) (w.drewN q).heap.size ad P := by
        rcases Nat.eq_zero_or_pos N with h0 | h0
        · have : P = [] := List.eq_nil_of_length_eq_zero (by rw [hpl.out]; exact h0)
          rw [this]; exact Row.nil _ _ _ _
        · rw [had h0]; exact HP.out.drewN q
      refine (head_any ad N cc P _ hrow hpl.out (by omega)).mono fun e w1 ⟨he, hg, hb⟩ => ?_
      have hbel : Below w.heap.size w w1 := (bel_dn w q).trans hb
      refine ⟨he, hbel, fun cc' => ?_⟩
      have hT1 := HT.out.below hbel
      have hH1 := Row.of_block hg _ HHW.out (List.prefix_refl _)
      by_cases heq : T = ckH P.length ++ be4 (ckS P)
      · rw [decide_eq_true heq]
        rw [← heq] at hH1
        exact equal_yes _ _ _ _ _ _ T _ _ _ hT1 hH1 HTL.out HTL.out
      · rw [decide_eq_false heq]
        exact equal_no _ _ _ _ _ _ T _ _ _ _ hT1 hH1 HTL.out HHL.out heq)
    have HCl : Hid (∀ w1 ad cc, (0 < N → ad = some ⟨b0, o0 + 6, none⟩) → Below w.heap.size w w1 → Calls Try.prog 29 #[.slice ad N cc] w1 fun e w' => ∃ v, e = .returned v ∧ KOwn .u8 5 w' w.heap.size v P ∧ Below w.heap.size w w') := Lib.hid (fun w1 ad cc had hb => by
      have hrow : Row .u8 w1 w1.heap.size ad P := by
        rcases Nat.eq_zero_or_pos N with h0 | h0
        · have : P = [] := List.eq_nil_of_length_eq_zero (by rw [hpl.out]; exact h0)
          rw [this]; exact Row.nil _ _ _ _
        · rw [had h0]; exact (HP.out.below hb).more hb.size
      refine (clone_any ad N cc P w1 hrow hpl.out (by omega)).mono fun e w2 ⟨v, he, hk, hb2⟩ => ⟨v, he, hk.mono hb.size, hb.trans (hb2.mono hb.size)⟩)
    by_cases heq : T = ckH P.length ++ be4 (ckS P)
    · have HE : Hid (ckE b = 0) := Lib.hid (ckE_4 k1.out k2.out k3.out (by rw [hP.out]; exact hh.1 heq))
      have HD : Hid (decide (T = ckH P.length ++ be4 (ckS P)) = true) := Lib.hid (decide_eq_true heq)
      rw [HD.out] at HHd
      clear heq hh HR HT HP HTL HHL HHW k1 k2 k3 HD hT
      have HM : Hid (∀ v : Value, (Ending.returned (.tuple #[v, .int .i64 (6 + (N : Int)), .int .i64 0])) = .returned (.tuple #[v, .int .i64 (ckM b : Nat), .int .i64 (ckE b)])) := Lib.hid (fun v => by rw [ckM_yes HE.out, HE.out, hNN.out]; rfl)
      have HG : Hid (ckG b = P) := Lib.hid (by rw [ckG_yes HE.out, hP.out])
      by_cases hc6 : c = 6
      all_goals
        (go_enter Try.func13, Try.ntmps13
         go_wp2
         go_quiet (fail)
         go_wp2
         go_region_with (first
           | (go_at_call 25; refine (HHd.out _ _ _ (fun h => by first | rfl | omega)).mono ?_; rintro e w1 ⟨rfl, hb1, heq⟩)
           | (go_at_call 28; refine (heq _).mono ?_; rintro e w2 ⟨rfl, rfl⟩))
         go_wp2_with (go_at_call 29; refine (HCl.out _ _ _ (fun h => by first | rfl | omega) hb1).mono ?_; rintro e w3 ⟨v3, rfl, hk3, hb3⟩)
         go_ret3
         exact ⟨v3, HM.out v3, by rw [HG.out]; exact hk3, hb3⟩)
    · have HE : Hid (ckE b = 5) := Lib.hid (ckE_5 k1.out k2.out k3.out (by rw [hP.out]; exact fun h => heq (hh.2 h)))
      have HD : Hid (decide (T = ckH P.length ++ be4 (ckS P)) = false) := Lib.hid (decide_eq_false heq)
      rw [HD.out] at HHd
      clear heq hh HR HT HP HTL HHL HHW k1 k2 k3 HD hT HCl
      by_cases hc6 : c = 6
      all_goals
        (go_enter Try.func13, Try.ntmps13
         go_wp2
         go_quiet (fail)
         go_wp2
         go_region_with (first
           | (go_at_call 25; refine (HHd.out _ _ _ (fun h => by first | rfl | omega)).mono ?_; rintro e w1 ⟨rfl, hb1, heq⟩)
           | (go_at_call 28; refine (heq _).mono ?_; rintro e w2 ⟨rfl, rfl⟩))
         go_wp2
         go_ret3
         exact ChGot.none_ HE.out (by decide) hb1)
end Go.Proofs.Ytooelfmfcihlkaa
namespace Go.Proofs.Ytooelfmfcihlkaa
open Go.RowKit
set_option linter.unusedVariables false
set_option maxRecDepth 100000

theorem info_l8 : (Try.prog.info? 22).map (fun i => (i.zero, i.size, i.bytes)) = some (some (.slice none 0 0), 1, 24) := by kernel_rfl
/-- The i-th list, behind a name that the walk's simp does not open. -/
def nthB (l : List (List Int)) (i : Nat) : List Int := l.getD i []
theorem nthB_eq (l : List (List Int)) (i : Nat) (h : i < l.length) : nthB l i = l[i] := by simp [nthB, List.getD_eq_getElem?_getD, List.getElem?_eq_getElem h]
theorem nthB_mem (l : List (List Int)) (i : Nat) (h : i < l.length) : nthB l i ∈ l := by rw [nthB_eq l i h]; exact List.getElem_mem h
theorem takeB_step (l : List (List Int)) (i : Nat) (h : i < l.length) : l.take (i + 1) = l.take i ++ [nthB l i] := by
  rw [List.take_succ_eq_append_getElem h, nthB_eq l i h]
/-- A slice at A that reads as the lists ls. -/
def BRow (w : World) (B : Nat) (A : Option Addr) (ls : List (List Int)) : Prop :=
  0 < ls.length → ∃ b o, A = some ⟨b, o, none⟩ ∧ b < B ∧ ∀ i, i < ls.length → ∃ Ai ci, w.cell? ⟨b, o + i, none⟩ = some (.slice Ai (nthB ls i).length ci) ∧ Row .u8 w B Ai (nthB ls i) ∧ (nthB ls i).length ≤ ci ∧ ci ≤ maxLen
theorem BRow.nil (w : World) (B : Nat) (A : Option Addr) : BRow w B A [] := fun h => absurd h (by simp)
theorem BRow.below {w w' : World} {B : Nat} {A : Option Addr} {ls : List (List Int)} (h : BRow w B A ls) (hb : Below B w w') : BRow w' B A ls := fun h0 => by
  obtain ⟨b, o, e, hlt, hc⟩ := h h0
  refine ⟨b, o, e, hlt, fun i hi => ?_⟩
  obtain ⟨Ai, ci, h1, h2, h3⟩ := hc i hi
  exact ⟨Ai, ci, (hb.cell (p := ⟨b, o + i, none⟩) hlt).trans h1, h2.below hb, h3⟩
theorem BRow.more {w : World} {B B' : Nat} {A : Option Addr} {ls : List (List Int)} (h : BRow w B A ls) (hB : B ≤ B') : BRow w B' A ls := fun h0 => by
  obtain ⟨b, o, e, hlt, hc⟩ := h h0
  refine ⟨b, o, e, by omega, fun i hi => ?_⟩
  obtain ⟨Ai, ci, h1, h2, h3⟩ := hc i hi
  exact ⟨Ai, ci, h1, h2.more hB, h3⟩
theorem BRow.drewN {w : World} {B : Nat} {A : Option Addr} {ls : List (List Int)} (h : BRow w B A ls) (n : Nat) : BRow (w.drewN n) B A ls := h
theorem BRow.at_ {w : World} {B : Nat} {A : Option Addr} {ls : List (List Int)} (h : BRow w B A ls) {i : Nat} (hi : i < ls.length) :
    ∃ b o Ai ci, A = some ⟨b, o, none⟩ ∧ b < B ∧ w.cell? ⟨b, o + i, none⟩ = some (.slice Ai (nthB ls i).length ci) ∧ Row .u8 w B Ai (nthB ls i) ∧ (nthB ls i).length ≤ ci ∧ ci ≤ maxLen := by
  obtain ⟨b, o, hA, hb, hc⟩ := h (by omega)
  obtain ⟨Ai, ci, h1, h2, h3⟩ := hc i hi
  exact ⟨b, o, Ai, ci, hA, hb, h1, h2, h3⟩
theorem BRow.wf {w : World} {B : Nat} {A : Option Addr} {ls : List (List Int)} (h : BRow w B A ls) : ∀ xs ∈ ls, ∀ x ∈ xs, (Lit.int .u8 x).wf = true := by
  intro xs hxs
  obtain ⟨i, hi, rfl⟩ := List.mem_iff_getElem.1 hxs
  obtain ⟨b, o, _, _, hc⟩ := h (by omega)
  obtain ⟨Ai, ci, _, h2, _⟩ := hc i hi
  rw [nthB_eq ls i hi] at h2
  exact h2.1
/-- A beginning of a list of lists. -/
theorem BRow.front {w : World} {B : Nat} {A : Option Addr} {ls : List (List Int)} (h : BRow w B A ls) (m : Nat) : BRow w B A (ls.take m) := fun h0 => by
  rw [List.length_take] at h0
  obtain ⟨b, o, e, hlt, hc⟩ := h (by omega)
  refine ⟨b, o, e, hlt, fun i hi => ?_⟩
  rw [List.length_take] at hi
  have he : nthB (ls.take m) i = nthB ls i := by
    rw [nthB_eq _ _ (by rw [List.length_take]; omega), nthB_eq _ _ (by omega), List.getElem_take]
  rw [he]
  exact hc i (by omega)

/-- The slice v owns the lists ls, each of which is a slice of the call's own whose block is known whole. -/
def LOwn (w : World) (base : Nat) (v : Value) (ls : List (List Int)) : Prop :=
  ∃ L : List (List Int × Value), L.map Prod.fst = ls ∧ w.ownsRow base 22 1 v L.length (L.map Prod.snd) ∧ ∀ p ∈ L, KOwn .u8 5 w base p.2 p.1
theorem LOwn.nil (w : World) (base : Nat) : LOwn w base (.slice none 0 0) [] := ⟨[], rfl, World.ownsRow_nil _ _ _ _, fun p hp => by cases hp⟩
theorem rowL_below {w w' : World} {base B n : Nat} {v : Value} {xs : List Value} (h : w.ownsRow base 22 1 v n xs) (hb : Below B w w') (hB : w.heap.size ≤ B) : w'.ownsRow base 22 1 v n xs := by
  refine h.kept (row := none) ⟨hb.os, hb.tape, hb.output, hb.size, fun i hi _ => hb.block i (by omega)⟩ ?_
  cases hv : v.ownBlock with
  | none => exact .inl rfl
  | some g => exact .inr (by simp)
theorem LOwn.below {w w' : World} {base B : Nat} {v : Value} {ls : List (List Int)} (h : LOwn w base v ls) (hb : Below B w w') (hB : w.heap.size ≤ B) : LOwn w' base v ls := by
  obtain ⟨L, h1, h2, h3⟩ := h
  exact ⟨L, h1, rowL_below h2 hb hB, fun p hp => (h3 p hp).below hb hB⟩
theorem LOwn.drewN {w : World} {base : Nat} {v : Value} {ls : List (List Int)} (h : LOwn w base v ls) (n : Nat) : LOwn (w.drewN n) base v ls := h
theorem LOwn.alloc {w : World} {base : Nat} {v : Value} {ls : List (List Int)} (h : LOwn w base v ls) (o : Obj) : LOwn (w.alloc o) base v ls := h.below ((Below.refl _ _).alloc (Nat.le_refl _) o) (Nat.le_refl _)
theorem LOwn.mono {w : World} {base base' : Nat} {v : Value} {ls : List (List Int)} (h : LOwn w base v ls) (hb : base' ≤ base) : LOwn w base' v ls := by
  obtain ⟨L, h1, h2, h3⟩ := h
  refine ⟨L, h1, ⟨h2.1, ?_⟩, fun p hp => (h3 p hp).mono hb⟩
  rcases h2.2 with h0 | ⟨g, cap, cur, hv, h1, r⟩
  · exact .inl h0
  · exact .inr ⟨g, cap, cur, hv, by omega, r⟩
theorem LOwn.block {w : World} {base : Nat} {v : Value} {ls : List (List Int)} (h : LOwn w base v ls) : ∀ g, v.ownBlock = some g → base ≤ g ∧ g < w.heap.size := by
  obtain ⟨L, h1, h2, h3⟩ := h
  exact World.ownsRow.lt h2
/-- The block of a list of lists is none of its lists' own. -/
theorem list8_far {w : World} {base base' : Nat} {v u : Value} {n : Nat} {xs : List Value} {ys : List Int} (h : w.ownsRow base 22 1 v n xs) (k : KOwn .u8 5 w base' u ys) : u.ownBlock = none ∨ u.ownBlock ≠ v.ownBlock := by
  rcases k with ⟨rfl, _⟩ | ⟨g, m, cap, r, rfl, _, _, hg, _⟩
  · exact .inl rfl
  · refine .inr fun e => ?_
    rcases h.2 with ⟨rfl, _⟩ | ⟨g', cap', cur, rfl, _, hg', _⟩
    · cases e
    · have e : some g = some g' := e
      injection e with e
      subst e
      rw [hg] at hg'
      injection hg' with hg'
      injection hg' with _ ht
      exact absurd ht (by decide)
theorem LOwn.len {w : World} {base : Nat} {v : Value} {ls : List (List Int)} (h : LOwn w base v ls) : ∃ A c, v = .slice A ls.length c ∧ ls.length ≤ c ∧ c ≤ maxLen := by
  obtain ⟨L, rfl, h2, h3⟩ := h
  rw [List.length_map]
  rcases h2.2 with ⟨rfl, h0⟩ | ⟨g, cap, cur, rfl, _, _, h4, h5, _⟩
  · rw [h0]; exact ⟨none, 0, rfl, Nat.le_refl _, Nat.zero_le _⟩
  · exact ⟨_, cap, rfl, h4, h5⟩
/-- One list of such a list. -/
theorem LOwn.at_ {w : World} {base : Nat} {A : Option Addr} {n c : Nat} {ls : List (List Int)} (h : LOwn w base (.slice A n c) ls) {i : Nat} (hi : i < ls.length) :
    ∃ g u, A = some ⟨g, 0, none⟩ ∧ base ≤ g ∧ g < w.heap.size ∧ w.cell? ⟨g, i, none⟩ = some u ∧ KOwn .u8 5 w base u (nthB ls i) ∧ ∃ cs, w.heap[g]? = some (.cells cs 22 (0, 0)) := by
  obtain ⟨L, rfl, h2, h3⟩ := h
  rw [List.length_map] at hi
  rcases h2.2 with ⟨e, h9⟩ | ⟨g, cap, cur, e, hb, hg, h4, h5, h6, h7⟩
  · omega
  · injection e with e1 e2 e3
    subst e1 e2 e3
    refine ⟨g, (L[i]).2, rfl, hb, block_lt hg, ?_, ?_, _, hg⟩
    · rw [cell_of_row w g i cur _ _ hg, ← Array.getElem?_toList]
      have : (cur.toList.take (L.length * 1))[i]? = (L.map Prod.snd)[i]? := by rw [h7]
      rw [List.getElem?_take_of_lt (by omega)] at this
      rw [this, List.getElem?_map, List.getElem?_eq_getElem hi]
      rfl
    · have hf : nthB (L.map Prod.fst) i = (L[i]).1 := by rw [nthB_eq _ _ (by simpa using hi)]; simp
      rw [hf]
      exact h3 _ (List.getElem_mem hi)
/-- As a list of lists that is read. -/
theorem LOwn.brow {w : World} {base : Nat} {A : Option Addr} {n c : Nat} {ls : List (List Int)} (h : LOwn w base (.slice A n c) ls) (hw : ∀ xs ∈ ls, ∀ x ∈ xs, (Lit.int .u8 x).wf = true) : BRow w w.heap.size A ls := by
  intro h0
  obtain ⟨g, _, rfl, _, hg, _⟩ := h.at_ h0
  refine ⟨g, 0, rfl, hg, fun i hi => ?_⟩
  obtain ⟨g', u, e, _, _, hc, hk, _⟩ := h.at_ hi
  injection e with e
  injection e with e
  subst e
  obtain ⟨Ai, ci, rfl, hr, h1, h2⟩ := hk.row (hw _ (nthB_mem _ _ hi))
  exact ⟨Ai, ci, by rw [Nat.zero_add]; exact hc, hr, h1, h2⟩
theorem Below.lown {w0 w w' : World} {base B : Nat} {v : Value} {ls : List (List Int)} (hb : Below B w0 w) (hB : B ≤ w.heap.size) (h : LOwn w base v ls) (hBB : B ≤ base) (hg : w.grownBy w' v.ownBlock) : Below B w0 w' :=
  hb.grown hg hB fun g e => Nat.le_trans hBB (h.block g e).1

section
variable {P : Program}
/-- 'append(v, xs)' of a list of bytes in a box. -/
theorem wpList_append_l8 {ops : Array Oper} {rest : List Oper} {o : Oper} {a : Act} {Q : Exit → Act → World → Prop} (w : World) (hgd : o.guard = none) (s x : Operand) (t : TypeId)
    (ho : o.op = .call { callee := .builtin .append, args := #[s, x], argTypes := #[t, t] }) (base : Nat) (ht : P.underlying t = some (.slice 22)) (hi : (P.info? 22).map (fun i => (i.zero, i.size, i.bytes)) = some (some (.slice none 0 0), 1, 24))
    (v : Value) (ls : List (List Int)) (hs : a.eval s = v) (hown : LOwn w base v ls) (ad : Addr) (c : Nat) (xs : List Int) (A : Option Addr) (m cc : Nat) (hx : a.eval x = .slice (some ad) 1 c)
    (hk : KOwn .u8 5 w base (.slice A m cc) xs) (hnews : ∀ j u, [Value.slice A m cc][j]? = some u → w.cell? (ad.add j) = some u) (hb : ls.length ≤ 1073741824) (hbase : base ≤ w.heap.size)
    (h : ∀ v' w', LOwn w' base v' (ls ++ [xs]) → w.grownBy w' v.ownBlock → wpList P ops Q rest (a.put o.dst v') w') : wpList P ops Q (o :: rest) a w := by
  obtain ⟨i, hi1, hz, hsz, hby⟩ := info_parts hi
  obtain ⟨L, rfl, h2, h3⟩ := hown
  rw [List.length_map] at hb
  refine wpList_append_own w hgd s x t ho base 22 i _ 1 24 ht hi1 hz hsz hby rfl (by omega) v L.length (L.map Prod.snd) hs h2 ad 1 c [.slice A m cc] hx rfl hnews (by simp [Value.oneCell']) (by simp only [maxLen]; omega) (by omega) hbase fun v' w' h4 h5 _ => h v' w' ?_ h5
  refine ⟨L ++ [(xs, .slice A m cc)], by simp, ?_, fun p hp => ?_⟩
  · rw [List.map_append, List.length_append]
    exact h4
  · rcases List.mem_append.1 hp with hp | hp
    · exact (h3 p hp).kept h5 (list8_far h2 (h3 p hp))
    · simp only [List.mem_singleton] at hp
      subst hp
      exact hk.kept h5 (list8_far h2 hk)
end
/-- The cell of a list in a new box. -/
theorem box_l8 (w : World) (t : TypeId) (x : Value) : ∀ j u, [x][j]? = some u → (w.alloc (.cells #[x] t)).cell? ((⟨w.heap.size, 0, none⟩ : Addr).add j) = some u := by
  intro j u hu
  rw [Go.WideShapes.add_plain, Nat.zero_add, World.cell?_alloc_at _ _ _ _ rfl]
  simpa using hu
end Go.Proofs.Ytooelfmfcihlkaa
namespace Go.Proofs.Ytooelfmfcihlkaa
open Go.RowKit
set_option linter.unusedVariables false
set_option maxRecDepth 100000

/-- What is scanned of bytes, as far as it goes. -/
def ckScan (b : List Int) : List (List Int) × Nat := ckSc (b.length + 1) b
/-- What is scanned so far. -/
def ScPre (b : List Int) (ls : List (List Int)) (k : Nat) : Prop := 6 * ls.length ≤ k ∧ ∀ f, ckSc (f + ls.length) b = (ls ++ (ckSc f (b.drop k)).1, k + (ckSc f (b.drop k)).2)
theorem ScPre.zero (b : List Int) : ScPre b [] 0 := ⟨by simp, fun f => by simp⟩
theorem ScPre.step {b : List Int} {ls : List (List Int)} {k : Nat} (h : ScPre b ls k) (h0 : ckE (b.drop k) = 0) : ScPre b (ls ++ [ckG (b.drop k)]) (k + ckM (b.drop k)) := by
  rw [ckG_yes h0, ckM_yes h0]
  refine ⟨by have := h.1; simp; omega, fun f => ?_⟩
  have h2 := h.2 (f + 1)
  rw [show f + (ls ++ [ckP (b.drop k)]).length = f + 1 + ls.length by simp; omega, h2]
  rw [ckSc, if_pos h0, List.drop_drop]
  simp [Nat.add_assoc]
theorem ScPre.stop {b : List Int} {ls : List (List Int)} {k : Nat} (h : ScPre b ls k) (hk : k ≤ b.length) (h0 : ckE (b.drop k) ≠ 0) : ckScan b = (ls, k) := by
  have h2 := h.2 (b.length + 1 - ls.length)
  rw [show b.length + 1 - ls.length + ls.length = b.length + 1 by have := h.1; omega] at h2
  unfold ckScan
  rw [h2, show b.length + 1 - ls.length = (b.length - ls.length) + 1 by have := h.1; omega, ckSc, if_neg h0]
  simp
/-- A call returns what is scanned. -/
def ChScans (w : World) (b : List Int) (e : Ending) (w' : World) : Prop :=
  ∃ v, e = .returned (.tuple #[v, .int .i64 ((ckScan b).2 : Nat)]) ∧ LOwn w' w.heap.size v (ckScan b).1 ∧ Below w.heap.size w w'
theorem ChScans.of {w w' : World} {b : List Int} {v : Value} {ls : List (List Int)} {k : Nat} (h : ckScan b = (ls, k)) (h1 : LOwn w' w.heap.size v ls) (h2 : Below w.heap.size w w') : ChScans w b (.returned (.tuple #[v, .int .i64 (k : Nat)])) w' := by
  unfold ChScans
  rw [h]
  exact ⟨v, rfl, h1, h2⟩
/-- Get of what is left. -/
theorem chGet_left (A : Option Addr) (n c k cc : Nat) (b : List Int) (w W : World) (hr : Row .u8 w w.heap.size A b) (hn : b.length = n) (hc : n ≤ c) (hm : n ≤ 140737488355328) (hk : k ≤ n) (hB : Below w.heap.size w W) (A' : Option Addr) (hA : k < n → ∃ b0 o0, A = some ⟨b0, o0, none⟩ ∧ A' = some ⟨b0, o0 + k, none⟩) (hcc : n - k ≤ cc) :
    Calls Try.prog 13 #[.slice A' (n - k) cc] W (ChGot W (b.drop k)) := by
  refine chGet_any A' (n - k) cc (b.drop k) W ?_ (by rw [List.length_drop, hn]) hcc (by omega)
  by_cases hlt : k < n
  · obtain ⟨b0, o0, rfl, rfl⟩ := hA hlt
    exact ((hr.drop k).below hB).more hB.size
  · rw [List.drop_of_length_le (by omega)]
    exact Row.nil _ _ _ _
theorem ckGot_len {b : List Int} (h0 : ckE b = 0) : 6 ≤ ckM b ∧ ckM b ≤ b.length := ⟨by rw [ckM_yes h0]; omega, ckM_le b⟩

set_option maxHeartbeats 4000000 in
theorem chScan_any (A : Option Addr) (n c : Nat) (b : List Int) (w : World) (hr : Row .u8 w w.heap.size A b) (hn : b.length = n) (hc : n ≤ c) (hm : n ≤ 1073741824) :
    Calls Try.prog 15 #[.slice A n c] w (ChScans w b) := by
  have HR := Lib.hid hr
  have HN := Lib.hid hn
  clear hr hn
  go_enter Try.func15, Try.ntmps15
  go_wp2
  go_step3
  go_wp2
  go_step3
  go_wp2
  go_loopw [4, 5] (fun v q wr => ∃ (k : Nat) (ls : List (List Int)), k ≤ n ∧ q = .int .i64 k ∧ ScPre b ls k ∧ LOwn wr w.heap.size v ls ∧ Below w.heap.size w wr) (fun _ q _ => n + 1 - (intOf q).toNat)
  case atStart => exact ⟨0, [], by omega, rfl, ScPre.zero b, LOwn.nil _ _, Below.refl _ _⟩
  case round =>
    obtain ⟨k, ls, hk, rfl, pre, own, bel⟩ := hrel
    have HG : Hid (∀ A' cc, (k < n → ∃ b0 o0, A = some ⟨b0, o0, none⟩ ∧ A' = some ⟨b0, o0 + k, none⟩) → n - k ≤ cc → Calls Try.prog 13 #[.slice A' (n - k) cc] wr (ChGot wr (b.drop k))) := Lib.hid (fun A' cc hA hcc => chGet_left A n c k cc b w wr HR.out HN.out hc (by omega) hk bel A' hA hcc)
    have HA : Hid (k < n → ∃ b0 o0, A = some ⟨b0, o0, none⟩) := Lib.hid (fun hlt => by
      obtain ⟨b0, o0, rfl, _, _⟩ := HR.out.at_ (i := k) (by rw [HN.out]; exact hlt)
      exact ⟨_, _, rfl⟩)
    obtain ⟨E, hE⟩ : ∃ E, Hid (ckE (b.drop k) = E) := ⟨_, Lib.hid rfl⟩
    obtain ⟨M, hM⟩ : ∃ M, Hid (ckM (b.drop k) = M) := ⟨_, Lib.hid rfl⟩
    obtain ⟨G, hG⟩ : ∃ G, Hid (ckG (b.drop k) = G) := ⟨_, Lib.hid rfl⟩
    have hMl : M ≤ n - k := by rw [← hM.out]; have := ckM_le (b.drop k); rw [List.length_drop, HN.out] at this; exact this
    have PRE := Lib.hid pre
    have OWN := Lib.hid own
    have BEL := Lib.hid bel
    have hsz := bel.size
    have hls : ls.length ≤ 1073741824 := by have := pre.1; omega
    have i2 : (k : Int) ≤ (n : Int) := by omega
    have i3 : (k : Int) ≤ (c : Int) := by omega
    have i4 : (n : Int) ≤ (c : Int) := by omega
    clear pre own bel
    have HS : Hid (E ≠ 0 → ∀ w', Below wr.heap.size wr w' → ∀ v, LOwn wr w.heap.size v ls → ChScans w b (.returned (.tuple #[v, .int .i64 (k : Nat)])) w') := Lib.hid (fun h0 w' hb v hv => ChScans.of (PRE.out.stop (by rw [HN.out]; exact hk) (by rw [hE.out]; exact h0)) (hv.below hb (Nat.le_refl _)) (BEL.out.trans (hb.mono hsz)))
    have HG2 : Hid (∀ A' cc, (k < n → ∃ b0 o0, A = some ⟨b0, o0, none⟩ ∧ A' = some ⟨b0, o0 + k, none⟩) → n - k ≤ cc → Calls Try.prog 13 #[.slice A' (n - k) cc] wr fun e w' => ∃ A1 c1, e = .returned (.tuple #[.slice A1 G.length c1, .int .i64 (M : Nat), .int .i64 E]) ∧ KOwn .u8 5 w' wr.heap.size (.slice A1 G.length c1) G ∧ Below wr.heap.size wr w') := Lib.hid (fun A' cc hA hcc => (HG.out A' cc hA hcc).mono fun e w' ⟨v, he, hk, hb⟩ => by
      rw [hG.out] at hk
      rw [hM.out, hE.out] at he
      obtain ⟨A1, c1, rfl, _⟩ := hk.form
      exact ⟨A1, c1, he, hk, hb⟩)
    clear HG
    by_cases hlt : k < n
    · obtain ⟨b0, o0, rfl⟩ := HA.out hlt
      have hkc : ¬ c = k := by omega
      by_cases h0 : E = 0
      · have h06 : 6 ≤ M := by rw [← hM.out]; exact (ckGot_len (by rw [hE.out]; exact h0)).1
        have PRE2 : Hid (ScPre b (ls ++ [G]) (k + M)) := Lib.hid (by have := PRE.out.step (by rw [hE.out]; exact h0); rw [hG.out, hM.out] at this; exact this)
        subst h0
        go_wp2_with (first
          | (go_at_call 13; refine (HG2.out _ _ (fun _ => ⟨_, _, rfl, rfl⟩) (by omega)).mono ?_; rintro e w1 ⟨A1, c1, rfl, k1, b1⟩; have K1 := Lib.hid k1; have B1 := Lib.hid b1; have OWN1 := Lib.hid (OWN.out.below b1 (Nat.le_refl _)); have hs1 := b1.size; clear k1 b1)
          | (at_builtin; refine wpList_append_l8 _ rfl _ _ 29 rfl w.heap.size Try.underlying29 info_l8 _ ls rfl (OWN1.out.alloc _) ⟨w1.heap.size, 0, none⟩ 1 G A1 G.length c1 rfl ((K1.out.mono hsz).below (bel_alloc w1 _) (Nat.le_refl _)) (box_l8 _ _ _) hls (by simp; omega) ?_; intro v2 w2 own4 g4))
        have bel4 := Below.lown ((BEL.out.trans (B1.out.mono hsz)).alloc (by omega) _) (by simp; omega) (OWN1.out.alloc _) (Nat.le_refl _) g4
        go_roundw
        case rel => exact ⟨k + M, ls ++ [G], by omega, by go_num, PRE2.out, own4, bel4⟩
        case measure => simp [intOf]; omega
      · have e1 : (E == 0) = false := by simpa using h0
        have e2 : (E != 0) = true := by simpa using h0
        have HS2 := Lib.hid (HS.out h0)
        clear h0
        go_wp2_with (go_at_call 13; refine (HG2.out _ _ (fun _ => ⟨_, _, rfl, rfl⟩) (by omega)).mono ?_; rintro e w1 ⟨A1, c1, rfl, k1, b1⟩; have B1 := Lib.hid b1; clear k1 b1)
        (try rw [Exit.noGoto_ret])
        go_ret2
        exact HS2.out _ B1.out _ OWN.out
    · obtain rfl : k = n := by omega
      have h0 : E ≠ 0 := by
        rw [← hE.out, List.drop_of_length_le (by rw [HN.out]; exact Nat.le_refl _)]
        decide
      have e1 : (E == 0) = false := by simpa using h0
      have e2 : (E != 0) = true := by simpa using h0
      have HS2 := Lib.hid (HS.out h0)
      have e3 : k - k = 0 := by omega
      rw [e3] at HG2
      clear h0 HS
      rcases A with _ | ⟨ab, ao, asp⟩
      all_goals
        by_cases hkc : c = k
        all_goals
          (go_wp2_with (go_at_call 13; refine (HG2.out _ _ (fun h => absurd h (by omega)) (by omega)).mono ?_; rintro e w1 ⟨A1, c1, rfl, k1, b1⟩; have B1 := Lib.hid b1; clear k1 b1)
           (try rw [Exit.noGoto_ret])
           go_ret2
           exact HS2.out _ B1.out _ OWN.out)
end Go.Proofs.Ytooelfmfcihlkaa
namespace Go.Proofs.Ytooelfmfcihlkaa
open Go.RowKit
set_option linter.unusedVariables false
set_option maxRecDepth 100000

theorem refChPut_any (A : Option Addr) (n c : Nat) (xs : List Int) (w : World) (hr : Row .u8 w w.heap.size A xs) (hn : xs.length = n) (hm : n ≤ 140737488355328) :
    Calls Try.prog 12 #[.slice A n c] w (ChMakes w (ckPut xs) (ckPE xs)) := by
  by_cases hlt : 1024 < n
  · rw [ckPut_big (by omega), ckPE_big (by omega)]
    have i1 : (n : Int) > 1024 := by omega
    clear hr hn
    go_enter Try.func12, Try.ntmps12
    go_wp2
    go_ret2
    exact ⟨_, rfl, KOwn.nil _ _ _ _, Below.refl _ _⟩
  · rw [ckPut_ok (by omega), ckPE_ok (by omega)]
    have i1 : ¬ (n : Int) > 1024 := by omega
    have HN := Lib.hid hn
    have HH : Hid (ckH n = [(n : Int) / 256, (n : Int) % 256]) := Lib.hid (by unfold ckH; congr 1)
    obtain ⟨W1, hW1⟩ : ∃ W1 : World, Hid (w.alloc (.cells #[.int .u8 ((n : Int) / 256), .int .u8 ((n : Int) % 256)] 5) = W1) := ⟨_, Lib.hid rfl⟩
    have hz1 : W1.heap.size = w.heap.size + 1 := by rw [← hW1.out]; simp
    have ha1 : Hid (W1.heap[w.heap.size]? = some (.cells (blk .u8 (ckH n)) 5 (0, 0))) := Lib.hid (by rw [← hW1.out, HH.out]; exact heap_alloc_new w _)
    have hB1 : Hid (Below w.heap.size w W1) := Lib.hid (by rw [← hW1.out]; exact bel_alloc w _)
    have hHw : Hid (∀ x ∈ ckH n, (Lit.int .u8 x).wf = true) := Lib.hid (ckH_wf (by omega))
    have hK1 : Hid (KOwn .u8 5 W1 w.heap.size (.slice (some ⟨w.heap.size, 0, none⟩) 2 2) (ckH n)) := Lib.hid (.inr ⟨w.heap.size, 2, 2, [], rfl, Nat.le_refl _, rfl, by rw [List.append_nil]; exact ha1.out, Nat.le_refl _, by unfold maxLen; omega, rfl, by simp⟩)
    have hL1 : Hid (Row .u8 W1 (w.heap.size + 1) (some ⟨w.heap.size, 0, none⟩) (ckH n)) := Lib.hid (Row.of_block ha1.out _ hHw.out (List.prefix_refl _))
    have hR1 : Hid (Row .u8 W1 w.heap.size A xs) := Lib.hid (hr.below hB1.out)
    have hcr : Hid (more32 0 (ckH n) < 4294967296) := Lib.hid (more32_lt _ _ (by omega) hHw.out)
    have hsl : ckS xs < 4294967296 := by unfold ckS; exact more32_lt _ _ (more32_lt _ _ (by omega) (ckH_wf (by omega))) hr.1
    have hsm : Hid (more32 (more32 0 (ckH n)) xs = ckS xs) := Lib.hid (by unfold ckS; rw [HN.out])
    have HCL : Hid (ckL xs = ckH n ++ be4 (ckS xs) ++ xs) := Lib.hid (by rw [ckL, HN.out, List.append_assoc])
    obtain ⟨s, hs⟩ : ∃ s, Hid (ckS xs = s) := ⟨_, Lib.hid rfl⟩
    rw [hs.out] at hsl hsm HCL
    obtain ⟨H, hH⟩ : ∃ H, Hid (ckH n = H) := ⟨_, Lib.hid rfl⟩
    have hHl : Hid (H.length = 2) := Lib.hid (by rw [← hH.out]; rfl)
    rw [hH.out] at ha1 hHw hK1 hL1 hcr hsm HCL
    have HS4 : Hid (be4 s = [(s : Int) / 16777216 % 256, (s : Int) / 65536 % 256, (s : Int) / 256 % 256, (s : Int) % 256]) := Lib.hid (by
      unfold be4
      congr 1)
    obtain ⟨W2, hW2⟩ : ∃ W2 : World, Hid (W1.alloc (.cells #[.int .u8 ((s : Int) / 16777216 % 256), .int .u8 ((s : Int) / 65536 % 256), .int .u8 ((s : Int) / 256 % 256), .int .u8 ((s : Int) % 256)] 5) = W2) := ⟨_, Lib.hid rfl⟩
    have hz2 : W2.heap.size = w.heap.size + 2 := by rw [← hW2.out]; simp [hz1]
    have ha2 : W2.heap[w.heap.size + 1]? = some (.cells (blk .u8 (be4 s)) 5 (0, 0)) := by rw [← hW2.out, HS4.out, ← hz1]; exact heap_alloc_new W1 _
    have hB2 : Below w.heap.size w W2 := by rw [← hW2.out]; exact hB1.out.alloc (by omega) _
    have hK2 : KOwn .u8 5 W2 w.heap.size (.slice (some ⟨w.heap.size, 0, none⟩) 2 2) H := hK1.out.below (by rw [← hW2.out]; exact bel_alloc W1 _) (Nat.le_refl _)
    obtain ⟨v3, w3, r3, k3, _, b3⟩ := run_append8 w W2 w.heap.size _ H hK2 _ _ 4 4 (be4 s) (Row.of_block ha2 _ (be4_wf _) (List.prefix_refl _)) rfl (by rw [hHl.out]; omega) (by omega) hB2
    obtain ⟨A3, c3, rfl, _⟩ := k3.form
    obtain ⟨v4, w4, r4, k4, _, b4⟩ := run_append8 w w3 w.heap.size _ _ k3 _ A n c xs (hr.below b3) HN.out (by rw [List.length_append, hHl.out]; show 2 + 4 + n ≤ _; omega) b3.size b3
    rw [← HCL.out] at k4
    obtain ⟨q3, hq3⟩ : ∃ q, Hid ((H ++ be4 s).length = q) := ⟨_, Lib.hid rfl⟩
    rw [hq3.out] at r3 r4
    rw [← hW2.out] at r3
    have R3 := Lib.hid r3
    have R4 := Lib.hid r4
    have K4 := Lib.hid k4
    obtain ⟨L, hL⟩ : ∃ L, Hid (ckL xs = L) := ⟨_, Lib.hid rfl⟩
    rw [hL.out] at K4 ⊢
    clear hr hn hz2 ha2 hB2 hK2 r3 k3 b3 r4 k4 hq3 hK1 HCL HS4 hsl hL
    go_enter Try.func12, Try.ntmps12
    go_wp2_with (first
      | (go_at_call 27; rw [hW1.out]; refine (refCrc_32 _ 2 _ H _ _ hL1.out hHl.out (by omega)).mono ?_; rintro e w1 ⟨rfl, rfl⟩)
      | (go_at_call 26; refine (refMore_32 _ _ _ _ xs hcr.out _ _ hR1.out HN.out (by omega)).mono ?_; rintro e w1 ⟨rfl, rfl⟩; rw [hsm.out])
      | (at_builtin; refine wpList_append_run _ rfl (.tmp 23) (.tmp 35) 22 rfl (.slice (some ⟨w.heap.size, 0, none⟩) 2 2) (.slice (some ⟨w.heap.size + 1, 0, none⟩) 4 4) (.slice A3 q3 c3) w3 rfl rfl R3.out ?_)
      | (at_builtin; refine wpList_append_run _ rfl (.tmp 37) (.tmp 38) 22 rfl (.slice A3 q3 c3) (.slice A n c) v4 w4 rfl rfl R4.out ?_))
    go_ret2
    exact ⟨_, rfl, K4.out, b4⟩
end Go.Proofs.Ytooelfmfcihlkaa
namespace Go.Proofs.Ytooelfmfcihlkaa
open Go.RowKit
set_option linter.unusedVariables false
set_option maxRecDepth 100000

theorem nth_take (xs : List Int) (m i : Nat) (h : i < m) : nth (xs.take m) i = nth xs i := by simp [nth, List.getD_eq_getElem?_getD, List.getElem?_take_of_lt h]
theorem ck_sum {b P : List Int} (h : 6 ≤ b.length) : (b.drop 2).take 4 = be4 (ckS P) ↔ ∀ q, q < 4 → nth b (2 + q) = nth (ckL P) (2 + q) := by
  have e : ∀ q, q < 4 → nth (ckL P) (2 + q) = nth (be4 (ckS P)) q := by
    intro q hq
    have h1 : nth (ckL P) ((ckH P.length).length + q) = nth (be4 (ckS P) ++ P) q := nth_right _ _ _
    rw [show 2 + q = (ckH P.length).length + q from rfl, h1]
    exact nth_left _ _ _ hq
  constructor
  · intro h1 q hq
    rw [e q hq, ← h1, nth_take _ _ _ hq, nth_drop]
  · intro h1
    refine ext_nth _ _ (by rw [List.length_take, List.length_drop]; show _ = 4; omega) fun q hq => ?_
    rw [List.length_take] at hq
    rw [nth_take _ _ _ (by omega), nth_drop, h1 q (by omega), e q (by omega)]

set_option maxHeartbeats 4000000 in
theorem refChGet_any (A : Option Addr) (n c : Nat) (b : List Int) (w : World) (hr : Row .u8 w w.heap.size A b) (hn : b.length = n) (hc : n ≤ c) (hm : n ≤ 140737488355328) :
    Calls Try.prog 14 #[.slice A n c] w (ChGot w b) := by
  by_cases h6 : n < 6
  · have HE : Hid (ckE b = 1) := Lib.hid (ckE_1 (by omega))
    have i1 : (n : Int) < 6 := by omega
    clear hr hn
    go_enter Try.func14, Try.ntmps14
    go_wp2
    go_ret3
    exact ChGot.none_ HE.out (by decide) (Below.refl _ _)
  · obtain ⟨b0, o0, rfl, _, c0⟩ := hr.at_ (i := 0) (by omega)
    obtain ⟨b1, o1, e1, _, c1⟩ := hr.at_ (i := 1) (by omega)
    injection e1 with e1
    injection e1 with e11 e12
    subst e11 e12
    have x0 := wf_u8 (hr.wf_at (i := 0) (by omega))
    have x1 := wf_u8 (hr.wf_at (i := 1) (by omega))
    have hN : nth b 0 * 256 + nth b 1 = ((ckN b : Nat) : Int) := by unfold ckN; omega
    have hNb : ckN b < 65536 := by omega
    rw [Nat.add_zero] at c0
    have HR := Lib.hid hr
    have HN := Lib.hid hn
    obtain ⟨N, hNN⟩ : ∃ N, Hid (ckN b = N) := ⟨_, Lib.hid rfl⟩
    rw [hNN.out] at hN hNb
    generalize nth b 0 = x at *
    generalize nth b 1 = y at *
    have ew : IntKind.i64.wrap (x * 256) = x * 256 := IntWalk.i64_in _ (by omega)
    have ew2 : IntKind.i64.wrap (x * 256 + y) = (N : Int) := by rw [hN]; exact IntWalk.i64_in _ (by omega)
    have t0 : (0 : Int) < (n : Int) := by omega
    have t1 : (1 : Int) < (n : Int) := by omega
    have t6 : ¬ (n : Int) < 6 := by omega
    clear hr hn
    by_cases hbig : 1024 < N
    · have HE : Hid (ckE b = 2) := Lib.hid (ckE_2 (by rw [HN.out]; exact h6) (by rw [hNN.out]; exact hbig))
      have i2 : (N : Int) > 1024 := by omega
      go_enter Try.func14, Try.ntmps14
      go_wp2
      go_quiet (fail)
      go_wp2
      go_ret3
      exact ChGot.none_ HE.out (by decide) (bel_dn _ _)
    by_cases hsh : n < 6 + N
    · have HE : Hid (ckE b = 1) := Lib.hid (ckE_3 (by rw [HN.out]; exact h6) (by rw [hNN.out]; exact hbig) (by rw [HN.out, hNN.out]; exact hsh))
      have i2 : ¬ (N : Int) > 1024 := by omega
      have i3 : (n : Int) - 6 < (N : Int) := by omega
      go_enter Try.func14, Try.ntmps14
      go_wp2
      go_quiet (fail)
      go_wp2
      go_ret3
      exact ChGot.none_ HE.out (by decide) (bel_dn _ _)
    have i2 : ¬ (N : Int) > 1024 := by omega
    have i3 : ¬ (n : Int) - 6 < (N : Int) := by omega
    have j1 : (6 : Int) ≤ 6 + (N : Int) := by omega
    have j2 : (6 : Int) + (N : Int) ≤ (c : Int) := by omega
    have j3 : 6 + N ≤ c := by omega
    have j4 : ((6 : Int) + (N : Int)).toNat = 6 + N := by omega
    have hpl : Hid ((ckP b).length = N) := Lib.hid (by rw [ckP_has (by rw [hNN.out, HN.out]; omega), hNN.out])
    have HP : Hid (Row .u8 w w.heap.size (some ⟨b0, o0 + 6, none⟩) (ckP b)) := Lib.hid (by have := (HR.out.drop 6).front N; rw [← hNN.out] at this; exact this)
    have hh := Lib.hid (ck_sum (b := b) (P := ckP b) (by rw [HN.out]; omega))
    have k1 : Hid (¬ b.length < 6) := Lib.hid (by rw [HN.out]; exact h6)
    have k2 : Hid (¬ 1024 < ckN b) := Lib.hid (by rw [hNN.out]; exact hbig)
    have k3 : Hid (¬ b.length < 6 + ckN b) := Lib.hid (by rw [HN.out, hNN.out]; exact hsh)
    obtain ⟨P, hP⟩ : ∃ P, Hid (ckP b = P) := ⟨_, Lib.hid rfl⟩
    rw [hP.out] at hpl HP hh
    have HAp : Hid (∀ q ad cc, (0 < N → ad = some ⟨b0, o0 + 6, none⟩) → ∃ A3 c3 w3, Hid (∀ ty, (Builtin.append_ #[22, 22] ty #[.slice (some ⟨w.heap.size, 0, none⟩) 0 0, .slice ad N cc]).run Try.prog ((w.drewN q).alloc (.cells #[] 5)) = .ok (.slice A3 N c3) w3) ∧ Hid (KOwn .u8 5 w3 w.heap.size (.slice A3 N c3) P ∧ Below w.heap.size w w3)) := Lib.hid (fun q ad cc had => by
      have hg : ((w.drewN q).alloc (.cells #[] 5)).heap[w.heap.size]? = some (.cells (blk .u8 ([] ++ [])) 5 (0, 0)) := heap_alloc_new (w.drewN q) _
      have hk : KOwn .u8 5 ((w.drewN q).alloc (.cells #[] 5)) w.heap.size (.slice (some ⟨w.heap.size, 0, none⟩) 0 0) [] := .inr ⟨w.heap.size, 0, 0, [], rfl, Nat.le_refl _, rfl, hg, Nat.le_refl _, Nat.zero_le _, rfl, by simp⟩
      have hb : Below w.heap.size w ((w.drewN q).alloc (.cells #[] 5)) := (bel_dn w q).alloc (Nat.le_refl _) _
      have hrow : Row .u8 ((w.drewN q).alloc (.cells #[] 5)) w.heap.size ad P := by
        rcases Nat.eq_zero_or_pos N with h0 | h0
        · have : P = [] := List.eq_nil_of_length_eq_zero (by rw [hpl.out]; exact h0)
          rw [this]; exact Row.nil _ _ _ _
        · rw [had h0]; exact HP.out.below hb
      obtain ⟨v3, w3, r3, g3, _, b3⟩ := run_append8 w _ w.heap.size _ [] hk _ ad N cc P hrow hpl.out (by show 0 + N ≤ _; omega) hb.size hb
      rw [List.nil_append] at g3
      obtain ⟨A3, c3, rfl, _⟩ := g3.form
      rw [hpl.out] at r3 g3
      exact ⟨A3, c3, w3, Lib.hid r3, Lib.hid ⟨g3, b3⟩⟩)
    have hPw : Hid (∀ x ∈ P, (Lit.int .u8 x).wf = true) := Lib.hid (by rw [← hP.out]; intro x hx; exact HR.out.1 x (List.mem_of_mem_drop (List.mem_of_mem_take hx)))
    have HPut : Hid (∀ A3 c3 w3, KOwn .u8 5 w3 w.heap.size (.slice A3 N c3) P → Calls Try.prog 12 #[.slice A3 N c3] w3 fun e w' => ∃ A5 c5, e = .returned (.tuple #[.slice A5 (6 + N) c5, .int .i64 0]) ∧ Hid (Row .u8 w' w'.heap.size A5 (ckL P)) ∧ Hid (Below w3.heap.size w3 w')) := Lib.hid (fun A3 c3 w3 hk => by
      obtain ⟨A4, c4, e4, r4, _⟩ := hk.row hPw.out
      injection e4 with e41 e42 e43
      subst e41 e43
      refine (refChPut_any A3 N c3 P w3 r4 hpl.out (by omega)).mono fun e w5 ⟨v5, he, k5, b5⟩ => ?_
      rw [ckPut_ok (by rw [hpl.out]; omega)] at k5
      rw [ckPE_ok (by rw [hpl.out]; omega)] at he
      obtain ⟨A5, c5, rfl, r5, _⟩ := k5.row (ckL_wf (by rw [hpl.out]; omega) hPw.out)
      rw [ckL_len, hpl.out] at he
      exact ⟨A5, c5, he, Lib.hid r5, Lib.hid b5⟩)
    obtain ⟨L, hL⟩ : ∃ L, Hid (ckL P = L) := ⟨_, Lib.hid rfl⟩
    rw [hL.out] at HPut hh
    have hLl : Hid (L.length = 6 + N) := Lib.hid (by rw [← hL.out, ckL_len, hpl.out])
    have H5 : Hid ((∃ q, q < 4 ∧ nth b (2 + q) ≠ nth L (2 + q)) → ckE b = 5) := Lib.hid (fun ⟨q, hq, hne⟩ => ckE_5 k1.out k2.out k3.out (by rw [hP.out]; exact fun h => hne (hh.out.1 h q hq)))
    have H0 : Hid ((∀ q, q < 4 → nth b (2 + q) = nth L (2 + q)) → ckE b = 0) := Lib.hid (fun h => ckE_4 k1.out k2.out k3.out (by rw [hP.out]; exact hh.out.2 h))
    have hL2 := hL
    clear hh k1 k2 k3 hL HP
    by_cases hc6 : c = 6
    · obtain rfl : N = 0 := by omega
      go_enter Try.func14, Try.ntmps14
      go_wp2
      go_quiet (fail)
      clear hN ew ew2 x0 x1 c0 c1
      obtain ⟨A3, c3, w3, r3, k3⟩ := HAp.out nq (some ⟨b0, o0, none⟩) (0) (fun h => absurd h (by omega))
      go_wp2_with (first
        | (at_builtin; go_loud (refine wpList_append_run _ rfl (.tmp 30) (.tmp 34) 22 rfl (.slice (some ⟨w.heap.size, 0, none⟩) 0 0) (.slice (some ⟨b0, o0, none⟩) 0 (0)) (.slice A3 0 c3) w3 rfl rfl r3.out ?_))
        | (go_at_call 12; refine (HPut.out A3 c3 w3 k3.out.1).mono ?_; rintro e w5 ⟨A5, c5, rfl, r5, b5⟩))
      have B5 : Hid (Below w.heap.size w w5) := Lib.hid (k3.out.2.trans (b5.out.mono k3.out.2.size))
      have K5 : Hid (KOwn .u8 5 w5 w.heap.size (.slice A3 0 c3) P) := Lib.hid (k3.out.1.below b5.out (Nat.le_refl _))
      have RB : Hid (Row .u8 w5 w5.heap.size (some ⟨b0, o0, none⟩) b) := Lib.hid ((HR.out.below B5.out).more B5.out.size)
      clear r3 k3 b5
      go_loopw [9] (fun i wr => ∃ j m : Nat, j ≤ 4 ∧ i = .int .i64 (2 + j : Nat) ∧ Hid (∀ q, q < j → nth b (2 + q) = nth L (2 + q)) ∧ wr = w5.drewN m) (fun i _ => 6 - (intOf i).toNat)
      case atStart => exact ⟨0, 0, by omega, rfl, Lib.hid (fun q hq => by omega), rfl⟩
      case round =>
        obtain ⟨j, m, hj, rfl, hs, hw0⟩ := hrel
        have HW := Lib.hid hw0
        have RBw : Hid (Row .u8 wr wr.heap.size (some ⟨b0, o0, none⟩) b) := Lib.hid (by rw [hw0]; exact RB.out.drewN m)
        have RLw : Hid (Row .u8 wr wr.heap.size A5 L) := Lib.hid (by rw [hw0]; exact r5.out.drewN m)
        clear hw0
        by_cases hlt : j < 4
        · obtain ⟨bb, oo, ee, _, cb⟩ := RBw.out.at_ (i := 2 + j) (by have := HN.out; omega)
          injection ee with ee
          injection ee with ee1 ee2
          subst ee1 ee2
          obtain ⟨bl, ol, rfl, _, cl⟩ := RLw.out.at_ (i := 2 + j) (by have := hLl.out; omega)
          have s1 : ((2 + j : Nat) : Int) < (n : Int) := by omega
          have s2 : ((2 + j : Nat) : Int) < 6 + ((0 : Nat) : Int) := by omega
          have s3 : ((2 + j : Nat) : Int) < 6 := by omega
          obtain ⟨xb, hxb⟩ : ∃ x, Hid (nth b (2 + j) = x) := ⟨_, Lib.hid rfl⟩
          obtain ⟨xl, hxl⟩ : ∃ x, Hid (nth L (2 + j) = x) := ⟨_, Lib.hid rfl⟩
          rw [hxb.out] at cb
          rw [hxl.out] at cl
          by_cases hxy : xb = xl
          · have u1 : (xb != xl) = false := by simp [hxy]
            have HXY := Lib.hid hxy
            clear hxy
            go_wp2
            go_quiet (fail)
            go_wp2
            go_roundw
            case rel => exact ⟨j + 1, m + nq, by omega, by go_num, Lib.hid (fun q hq => by
              rcases Nat.lt_succ_iff_lt_or_eq.1 hq with h | h
              · exact hs.out q h
              · subst h; rw [hxb.out, hxl.out]; exact HXY.out), by rw [HW.out, World.drewN_drewN]⟩
            case measure => simp [intOf]; omega
          · have u1 : (xb != xl) = true := by simpa using hxy
            have HE : Hid (ckE b = 5) := Lib.hid (H5.out ⟨j, hlt, by rw [hxb.out, hxl.out]; exact hxy⟩)
            clear hxy
            go_wp2
            go_quiet (fail)
            go_wp2
            go_ret3
            exact ChGot.none_ HE.out (by decide) (by rw [HW.out]; exact (B5.out.trans (bel_dn w5 m |>.mono B5.out.size)).trans (bel_dn _ _ |>.mono B5.out.size))
        · obtain rfl : j = 4 := by omega
          have HE : Hid (ckE b = 0) := Lib.hid (H0.out hs.out)
          have HM : Hid (∀ v : Value, (Ending.returned (.tuple #[v, .int .i64 (6 + ((0 : Nat) : Int)), .int .i64 0])) = .returned (.tuple #[v, .int .i64 (ckM b : Nat), .int .i64 (ckE b)])) := Lib.hid (fun v => by rw [ckM_yes HE.out, HE.out, hNN.out]; rfl)
          have HG : Hid (ckG b = P) := Lib.hid (by rw [ckG_yes HE.out, hP.out])
          go_wp2
          go_ret3
          exact ⟨_, HM.out _, by rw [HG.out, HW.out]; exact K5.out.drewN m, by rw [HW.out]; exact B5.out.trans (bel_dn w5 m |>.mono B5.out.size)⟩
    · go_enter Try.func14, Try.ntmps14
      go_wp2
      go_quiet (fail)
      clear hN ew ew2 x0 x1 c0 c1
      obtain ⟨A3, c3, w3, r3, k3⟩ := HAp.out nq (some ⟨b0, o0 + 6, none⟩) (c - 6) (fun _ => rfl)
      go_wp2_with (first
        | (at_builtin; go_loud (refine wpList_append_run _ rfl (.tmp 30) (.tmp 34) 22 rfl (.slice (some ⟨w.heap.size, 0, none⟩) 0 0) (.slice (some ⟨b0, o0 + 6, none⟩) N (c - 6)) (.slice A3 N c3) w3 rfl rfl r3.out ?_))
        | (go_at_call 12; refine (HPut.out A3 c3 w3 k3.out.1).mono ?_; rintro e w5 ⟨A5, c5, rfl, r5, b5⟩))
      have B5 : Hid (Below w.heap.size w w5) := Lib.hid (k3.out.2.trans (b5.out.mono k3.out.2.size))
      have K5 : Hid (KOwn .u8 5 w5 w.heap.size (.slice A3 N c3) P) := Lib.hid (k3.out.1.below b5.out (Nat.le_refl _))
      have RB : Hid (Row .u8 w5 w5.heap.size (some ⟨b0, o0, none⟩) b) := Lib.hid ((HR.out.below B5.out).more B5.out.size)
      clear r3 k3 b5
      go_loopw [9] (fun i wr => ∃ j m : Nat, j ≤ 4 ∧ i = .int .i64 (2 + j : Nat) ∧ Hid (∀ q, q < j → nth b (2 + q) = nth L (2 + q)) ∧ wr = w5.drewN m) (fun i _ => 6 - (intOf i).toNat)
      case atStart => exact ⟨0, 0, by omega, rfl, Lib.hid (fun q hq => by omega), rfl⟩
      case round =>
        obtain ⟨j, m, hj, rfl, hs, hw0⟩ := hrel
        have HW := Lib.hid hw0
        have RBw : Hid (Row .u8 wr wr.heap.size (some ⟨b0, o0, none⟩) b) := Lib.hid (by rw [hw0]; exact RB.out.drewN m)
        have RLw : Hid (Row .u8 wr wr.heap.size A5 L) := Lib.hid (by rw [hw0]; exact r5.out.drewN m)
        clear hw0
        by_cases hlt : j < 4
        · obtain ⟨bb, oo, ee, _, cb⟩ := RBw.out.at_ (i := 2 + j) (by have := HN.out; omega)
          injection ee with ee
          injection ee with ee1 ee2
          subst ee1 ee2
          obtain ⟨bl, ol, rfl, _, cl⟩ := RLw.out.at_ (i := 2 + j) (by have := hLl.out; omega)
          have s1 : ((2 + j : Nat) : Int) < (n : Int) := by omega
          have s2 : ((2 + j : Nat) : Int) < 6 + (N : Int) := by omega
          have s3 : ((2 + j : Nat) : Int) < 6 := by omega
          obtain ⟨xb, hxb⟩ : ∃ x, Hid (nth b (2 + j) = x) := ⟨_, Lib.hid rfl⟩
          obtain ⟨xl, hxl⟩ : ∃ x, Hid (nth L (2 + j) = x) := ⟨_, Lib.hid rfl⟩
          rw [hxb.out] at cb
          rw [hxl.out] at cl
          by_cases hxy : xb = xl
          · have u1 : (xb != xl) = false := by simp [hxy]
            have HXY := Lib.hid hxy
            clear hxy
            go_wp2
            go_quiet (fail)
            go_wp2
            go_roundw
            case rel => exact ⟨j + 1, m + nq, by omega, by go_num, Lib.hid (fun q hq => by
              rcases Nat.lt_succ_iff_lt_or_eq.1 hq with h | h
              · exact hs.out q h
              · subst h; rw [hxb.out, hxl.out]; exact HXY.out), by rw [HW.out, World.drewN_drewN]⟩
            case measure => simp [intOf]; omega
          · have u1 : (xb != xl) = true := by simpa using hxy
            have HE : Hid (ckE b = 5) := Lib.hid (H5.out ⟨j, hlt, by rw [hxb.out, hxl.out]; exact hxy⟩)
            clear hxy
            go_wp2
            go_quiet (fail)
            go_wp2
            go_ret3
            exact ChGot.none_ HE.out (by decide) (by rw [HW.out]; exact (B5.out.trans (bel_dn w5 m |>.mono B5.out.size)).trans (bel_dn _ _ |>.mono B5.out.size))
        · obtain rfl : j = 4 := by omega
          have HE : Hid (ckE b = 0) := Lib.hid (H0.out hs.out)
          have HM : Hid (∀ v : Value, (Ending.returned (.tuple #[v, .int .i64 (6 + (N : Int)), .int .i64 0])) = .returned (.tuple #[v, .int .i64 (ckM b : Nat), .int .i64 (ckE b)])) := Lib.hid (fun v => by rw [ckM_yes HE.out, HE.out, hNN.out]; rfl)
          have HG : Hid (ckG b = P) := Lib.hid (by rw [ckG_yes HE.out, hP.out])
          go_wp2
          go_ret3
          exact ⟨_, HM.out _, by rw [HG.out, HW.out]; exact K5.out.drewN m, by rw [HW.out]; exact B5.out.trans (bel_dn w5 m |>.mono B5.out.size)⟩
end Go.Proofs.Ytooelfmfcihlkaa
namespace Go.Proofs.Ytooelfmfcihlkaa
open Go.RowKit
set_option linter.unusedVariables false
set_option maxRecDepth 100000

/-- Get of what is left. -/
theorem refChGet_left (A : Option Addr) (n c k cc : Nat) (b : List Int) (w W : World) (hr : Row .u8 w w.heap.size A b) (hn : b.length = n) (hc : n ≤ c) (hm : n ≤ 140737488355328) (hk : k ≤ n) (hB : Below w.heap.size w W) (A' : Option Addr) (hA : k < n → ∃ b0 o0, A = some ⟨b0, o0, none⟩ ∧ A' = some ⟨b0, o0 + k, none⟩) (hcc : n - k ≤ cc) :
    Calls Try.prog 14 #[.slice A' (n - k) cc] W (ChGot W (b.drop k)) := by
  refine refChGet_any A' (n - k) cc (b.drop k) W ?_ (by rw [List.length_drop, hn]) hcc (by omega)
  by_cases hlt : k < n
  · obtain ⟨b0, o0, rfl, rfl⟩ := hA hlt
    exact ((hr.drop k).below hB).more hB.size
  · rw [List.drop_of_length_le (by omega)]
    exact Row.nil _ _ _ _
set_option maxHeartbeats 4000000 in
theorem refChScan_any (A : Option Addr) (n c : Nat) (b : List Int) (w : World) (hr : Row .u8 w w.heap.size A b) (hn : b.length = n) (hc : n ≤ c) (hm : n ≤ 1073741824) :
    Calls Try.prog 16 #[.slice A n c] w (ChScans w b) := by
  have HR := Lib.hid hr
  have HN := Lib.hid hn
  clear hr hn
  go_enter Try.func16, Try.ntmps16
  go_wp2
  go_loopw [4, 5] (fun v q wr => ∃ (k : Nat) (ls : List (List Int)), k ≤ n ∧ q = .int .i64 k ∧ ScPre b ls k ∧ LOwn wr w.heap.size v ls ∧ Below w.heap.size w wr) (fun _ q _ => n + 1 - (intOf q).toNat)
  case atStart => exact ⟨0, [], by omega, rfl, ScPre.zero b, LOwn.nil _ _, Below.refl _ _⟩
  case round =>
    obtain ⟨k, ls, hk, rfl, pre, own, bel⟩ := hrel
    have HG : Hid (∀ A' cc, (k < n → ∃ b0 o0, A = some ⟨b0, o0, none⟩ ∧ A' = some ⟨b0, o0 + k, none⟩) → n - k ≤ cc → Calls Try.prog 14 #[.slice A' (n - k) cc] wr (ChGot wr (b.drop k))) := Lib.hid (fun A' cc hA hcc => refChGet_left A n c k cc b w wr HR.out HN.out hc (by omega) hk bel A' hA hcc)
    have HA : Hid (k < n → ∃ b0 o0, A = some ⟨b0, o0, none⟩) := Lib.hid (fun hlt => by
      obtain ⟨b0, o0, rfl, _, _⟩ := HR.out.at_ (i := k) (by rw [HN.out]; exact hlt)
      exact ⟨_, _, rfl⟩)
    obtain ⟨E, hE⟩ : ∃ E, Hid (ckE (b.drop k) = E) := ⟨_, Lib.hid rfl⟩
    obtain ⟨M, hM⟩ : ∃ M, Hid (ckM (b.drop k) = M) := ⟨_, Lib.hid rfl⟩
    obtain ⟨G, hG⟩ : ∃ G, Hid (ckG (b.drop k) = G) := ⟨_, Lib.hid rfl⟩
    have hMl : M ≤ n - k := by rw [← hM.out]; have := ckM_le (b.drop k); rw [List.length_drop, HN.out] at this; exact this
    have PRE := Lib.hid pre
    have OWN := Lib.hid own
    have BEL := Lib.hid bel
    have hsz := bel.size
    have hls : ls.length ≤ 1073741824 := by have := pre.1; omega
    have i2 : (k : Int) ≤ (n : Int) := by omega
    have i3 : (k : Int) ≤ (c : Int) := by omega
    have i4 : (n : Int) ≤ (c : Int) := by omega
    clear pre own bel
    have HS : Hid (E ≠ 0 → ∀ w', Below wr.heap.size wr w' → ∀ v, LOwn wr w.heap.size v ls → ChScans w b (.returned (.tuple #[v, .int .i64 (k : Nat)])) w') := Lib.hid (fun h0 w' hb v hv => ChScans.of (PRE.out.stop (by rw [HN.out]; exact hk) (by rw [hE.out]; exact h0)) (hv.below hb (Nat.le_refl _)) (BEL.out.trans (hb.mono hsz)))
    have HG2 : Hid (∀ A' cc, (k < n → ∃ b0 o0, A = some ⟨b0, o0, none⟩ ∧ A' = some ⟨b0, o0 + k, none⟩) → n - k ≤ cc → Calls Try.prog 14 #[.slice A' (n - k) cc] wr fun e w' => ∃ A1 c1, e = .returned (.tuple #[.slice A1 G.length c1, .int .i64 (M : Nat), .int .i64 E]) ∧ KOwn .u8 5 w' wr.heap.size (.slice A1 G.length c1) G ∧ Below wr.heap.size wr w') := Lib.hid (fun A' cc hA hcc => (HG.out A' cc hA hcc).mono fun e w' ⟨v, he, hk, hb⟩ => by
      rw [hG.out] at hk
      rw [hM.out, hE.out] at he
      obtain ⟨A1, c1, rfl, _⟩ := hk.form
      exact ⟨A1, c1, he, hk, hb⟩)
    clear HG
    by_cases hlt : k < n
    · obtain ⟨b0, o0, rfl⟩ := HA.out hlt
      have hkc : ¬ c = k := by omega
      by_cases h0 : E = 0
      · have h06 : 6 ≤ M := by rw [← hM.out]; exact (ckGot_len (by rw [hE.out]; exact h0)).1
        have PRE2 : Hid (ScPre b (ls ++ [G]) (k + M)) := Lib.hid (by have := PRE.out.step (by rw [hE.out]; exact h0); rw [hG.out, hM.out] at this; exact this)
        subst h0
        go_wp2_with (first
          | (go_at_call 14; refine (HG2.out _ _ (fun _ => ⟨_, _, rfl, rfl⟩) (by omega)).mono ?_; rintro e w1 ⟨A1, c1, rfl, k1, b1⟩; have K1 := Lib.hid k1; have B1 := Lib.hid b1; have OWN1 := Lib.hid (OWN.out.below b1 (Nat.le_refl _)); have hs1 := b1.size; clear k1 b1)
          | (at_builtin; refine wpList_append_l8 _ rfl _ _ 29 rfl w.heap.size Try.underlying29 info_l8 _ ls rfl (OWN1.out.alloc _) ⟨w1.heap.size, 0, none⟩ 1 G A1 G.length c1 rfl ((K1.out.mono hsz).below (bel_alloc w1 _) (Nat.le_refl _)) (box_l8 _ _ _) hls (by simp; omega) ?_; intro v2 w2 own4 g4))
        have bel4 := Below.lown ((BEL.out.trans (B1.out.mono hsz)).alloc (by omega) _) (by simp; omega) (OWN1.out.alloc _) (Nat.le_refl _) g4
        go_roundw
        case rel => exact ⟨k + M, ls ++ [G], by omega, by go_num, PRE2.out, own4, bel4⟩
        case measure => simp [intOf]; omega
      · have e1 : (E == 0) = false := by simpa using h0
        have e2 : (E != 0) = true := by simpa using h0
        have HS2 := Lib.hid (HS.out h0)
        clear h0
        go_wp2_with (go_at_call 14; refine (HG2.out _ _ (fun _ => ⟨_, _, rfl, rfl⟩) (by omega)).mono ?_; rintro e w1 ⟨A1, c1, rfl, k1, b1⟩; have B1 := Lib.hid b1; clear k1 b1)
        (try rw [Exit.noGoto_ret])
        go_ret2
        exact HS2.out _ B1.out _ OWN.out
    · obtain rfl : k = n := by omega
      have h0 : E ≠ 0 := by
        rw [← hE.out, List.drop_of_length_le (by rw [HN.out]; exact Nat.le_refl _)]
        decide
      have e1 : (E == 0) = false := by simpa using h0
      have e2 : (E != 0) = true := by simpa using h0
      have HS2 := Lib.hid (HS.out h0)
      have e3 : k - k = 0 := by omega
      rw [e3] at HG2
      clear h0 HS
      rcases A with _ | ⟨ab, ao, asp⟩
      all_goals
        by_cases hkc : c = k
        all_goals
          (go_wp2_with (go_at_call 14; refine (HG2.out _ _ (fun h => absurd h (by omega)) (by omega)).mono ?_; rintro e w1 ⟨A1, c1, rfl, k1, b1⟩; have B1 := Lib.hid b1; clear k1 b1)
           (try rw [Exit.noGoto_ret])
           go_ret2
           exact HS2.out _ B1.out _ OWN.out)
end Go.Proofs.Ytooelfmfcihlkaa
namespace Go.Proofs.Ytooelfmfcihlkaa
open Go.RowKit
set_option linter.unusedVariables false
set_option maxRecDepth 100000

theorem ckSc_mem (f : Nat) (b : List Int) (hb : ∀ x ∈ b, (Lit.int .u8 x).wf = true) : ∀ p ∈ (ckSc f b).1, p.length ≤ 1024 ∧ ∀ x ∈ p, (Lit.int .u8 x).wf = true := by
  induction f generalizing b with
  | zero => intro p hp; cases hp
  | succ f ih =>
    unfold ckSc
    split
    · rename_i h
      intro p hp
      rcases List.mem_cons.1 hp with rfl | hp
      · exact ⟨by rw [ckP_len h]; exact (ckE_zero.1 h).2.1, fun x hx => hb x (List.mem_of_mem_drop (List.mem_of_mem_take hx))⟩
      · exact ih _ (fun x hx => hb x (List.mem_of_mem_drop hx)) p hp
    · intro p hp; cases hp
theorem ckScan_mem {b : List Int} (hb : ∀ x ∈ b, (Lit.int .u8 x).wf = true) : ∀ p ∈ (ckScan b).1, p.length ≤ 1024 ∧ ∀ x ∈ p, (Lit.int .u8 x).wf = true := ckSc_mem _ _ hb
theorem ckScan_all {b : List Int} (hb : ∀ x ∈ b, (Lit.int .u8 x).wf = true) : ckAll (ckScan b).1 = b.take (ckScan b).2 := ckSc_all _ _ hb
theorem ckScan_end (b : List Int) : ckE (b.drop (ckScan b).2) ≠ 0 := ckSc_end _ _ (by omega)
theorem ckScan_le (b : List Int) : (ckScan b).2 ≤ b.length := ckSc_len _ _
theorem ckAll_step (ls : List (List Int)) (k : Nat) (h : k < ls.length) : ckAll (ls.take (k + 1)) = ckAll (ls.take k) ++ ckL (nthB ls k) := by
  rw [takeB_step ls k h, ckAll_app]
  congr 1
  simp [ckAll]
theorem ckAll_take_le (ls : List (List Int)) (k : Nat) : (ckAll (ls.take k)).length ≤ (ckAll ls).length := by
  conv => rhs; rw [← List.take_append_drop k ls, ckAll_app, List.length_append]
  omega
theorem ckAll_wf {ls : List (List Int)} (h : ∀ p ∈ ls, p.length ≤ 1024 ∧ ∀ x ∈ p, (Lit.int .u8 x).wf = true) : ∀ x ∈ ckAll ls, (Lit.int .u8 x).wf = true := by
  intro x hx
  obtain ⟨p, hp, hx⟩ := List.mem_flatMap.1 hx
  exact ckL_wf (by have := (h p hp).1; omega) (h p hp).2 x hx
/-- So many chunks take so many bytes at the least. -/
theorem ckScan_few (b : List Int) : 6 * (ckScan b).1.length ≤ (ckScan b).2 := by
  unfold ckScan
  generalize b.length + 1 = f
  induction f generalizing b with
  | zero => simp [ckSc]
  | succ f ih =>
    unfold ckSc
    split
    · have := ih (b.drop (6 + ckN b))
      simp only [List.length_cons]
      omega
    · simp
theorem ckAll_len_le (ls : List (List Int)) (h : ∀ p ∈ ls, p.length ≤ 1024) : (ckAll ls).length ≤ 1030 * ls.length := by
  induction ls with
  | nil => simp [ckAll]
  | cons p ls ih =>
    have h1 := ih (fun q hq => h q (by simp [hq]))
    have h2 := h p (by simp)
    have e : ckAll (p :: ls) = ckL p ++ ckAll ls := by unfold ckAll; rw [List.flatMap_cons]
    rw [e, List.length_append, ckL_len, List.length_cons]
    omega
theorem ckAll_len_ge (ls : List (List Int)) : 6 * ls.length ≤ (ckAll ls).length := by
  induction ls with
  | nil => simp [ckAll]
  | cons p ls ih =>
    have e : ckAll (p :: ls) = ckL p ++ ckAll ls := by unfold ckAll; rw [List.flatMap_cons]
    rw [e, List.length_append, ckL_len, List.length_cons]
    omega
/-- What is scanned of chunks that were cut off. -/
theorem ckScan_cut (ls : List (List Int)) (hl : ∀ p ∈ ls, p.length ≤ 1024) (j cut : Nat) (hj : j ≤ ls.length) (hc : cut ≤ (ckAll ls).length) (h1 : (ckAll (ls.take j)).length ≤ cut) (h2 : j < ls.length → cut < (ckAll (ls.take (j + 1))).length) : ckScan ((ckAll ls).take cut) = (ls.take j, (ckAll (ls.take j)).length) := by
  unfold ckScan
  refine ckSc_cut ls hl j cut hj h1 h2 _ ?_
  have := ckAll_len_ge (ls.take j)
  rw [List.length_take] at this
  rw [List.length_take]
  omega
theorem ckScan_whole (ls : List (List Int)) (hl : ∀ p ∈ ls, p.length ≤ 1024) : ckScan (ckAll ls) = (ls, (ckAll ls).length) := by
  have h := ckScan_cut ls hl ls.length (ckAll ls).length (Nat.le_refl _) (Nat.le_refl _) (by rw [List.take_length]; exact Nat.le_refl _) (fun h => absurd h (by omega))
  rw [List.take_length, List.take_length] at h
  exact h
/-- Where the chunks end. -/
def endsL (ls : List (List Int)) (k : Nat) : List Int := (List.range k).map fun j => ((ckAll (ls.take (j + 1))).length : Int)
theorem endsL_len (ls : List (List Int)) (k : Nat) : (endsL ls k).length = k := by simp [endsL]
theorem endsL_step (ls : List (List Int)) (k : Nat) : endsL ls (k + 1) = endsL ls k ++ [((ckAll (ls.take (k + 1))).length : Int)] := by simp [endsL, List.range_succ]
theorem endsL_at (ls : List (List Int)) (k j : Nat) (h : j < k) : nth (endsL ls k) j = ((ckAll (ls.take (j + 1))).length : Int) := by
  rw [nth_eq _ _ (by rw [endsL_len]; exact h)]; simp [endsL]
theorem wf_len (n : Nat) (h : n ≤ 1000000000) : (Lit.int .i64 (n : Int)).wf = true := by
  simp [Lit.wf, IntKind.min, IntKind.max, IntKind.signed, IntKind.bits]; omega
theorem endsL_wf (ls : List (List Int)) (k : Nat) (h : (ckAll ls).length ≤ 1000000000) : ∀ x ∈ endsL ls k, (Lit.int .i64 x).wf = true := by
  intro x hx
  obtain ⟨j, _, rfl⟩ := List.mem_map.1 hx
  exact wf_len _ (Nat.le_trans (ckAll_take_le ls (j + 1)) h)
/-- Two lists of the call's own of different types lie in different blocks. -/
theorem own_far {k k' : IntKind} {e e' : TypeId} {w : World} {b b' : Nat} {v u : Value} {xs ys : List Int} (h : Own k e w b v xs) (h' : Own k' e' w b' u ys) (hne : e' ≠ e) : u.ownBlock = none ∨ u.ownBlock ≠ v.ownBlock := by
  rcases h'.2 with ⟨rfl, _⟩ | ⟨g, cap, cur0, rfl, _, hg, _⟩
  · exact .inl rfl
  · refine .inr fun ee => ?_
    rcases h.2 with ⟨rfl, _⟩ | ⟨g', cap', cur, rfl, _, hg', _⟩
    · cases ee
    · have ee : some g = some g' := ee
      injection ee with ee
      subst ee
      rw [hg] at hg'
      injection hg' with hg'
      injection hg' with _ ht
      exact absurd ht hne
end Go.Proofs.Ytooelfmfcihlkaa
namespace Go.Proofs.Ytooelfmfcihlkaa
open Go.RowKit
set_option linter.unusedVariables false

set_option maxHeartbeats 1000000 in
theorem SameRows_yes (A A' : Option Addr) (n c c' : Nat) (ls : List (List Int)) (w : World) (B B' : Nat) (hr : BRow w B A ls) (hr' : BRow w B' A' ls) (hn : ls.length = n) (hb : n ≤ 1073741824) (hl : ∀ i, i < n → (nthB ls i).length ≤ 70368744177664) :
    Calls Try.prog 18 #[.slice A n c, .slice A' n c'] w fun e w' => e = .returned (.bool true) ∧ ∃ m, w' = w.drewN m := by
  have HR := Lib.hid hr
  have HR' := Lib.hid hr'
  have HN := Lib.hid hn
  have HL := Lib.hid hl
  have t0 : ((n : Int) != (n : Int)) = false := by simp
  clear hr hr' hn hl
  go_enter Try.func18, Try.ntmps18
  go_wp2
  go_loopw [5] (fun i wr => ∃ k m : Nat, k ≤ n ∧ i = .int .i64 k ∧ wr = w.drewN m) (fun i _ => n - (intOf i).toNat)
  case atStart => exact ⟨0, 0, by omega, rfl, rfl⟩
  case round =>
    obtain ⟨k, m, hk, rfl, hw0⟩ := hrel
    have HW := Lib.hid hw0
    have HRw := Lib.hid (show BRow wr B A ls by rw [hw0]; exact HR.out.drewN m)
    have HRw' := Lib.hid (show BRow wr B' A' ls by rw [hw0]; exact HR'.out.drewN m)
    clear hw0
    by_cases hlt : k < n
    · obtain ⟨b, o, Ai, ci, rfl, hb1, hc1, r1, _⟩ := HRw.out.at_ (i := k) (by have := HN.out; omega)
      obtain ⟨b', o', Ai', ci', rfl, hb1', hc1', r1', _⟩ := HRw'.out.at_ (i := k) (by have := HN.out; omega)
      have hlen := HL.out k hlt
      obtain ⟨xs, hxs⟩ : ∃ xs, nthB ls k = xs := ⟨_, rfl⟩
      rw [hxs] at hc1 hc1' r1 r1' hlen
      obtain ⟨z, hz⟩ : ∃ z, Hid (xs.length = z) := ⟨_, Lib.hid rfl⟩
      rw [hz.out] at hc1 hc1' hlen
      clear hxs
      have HS : Hid (∀ p, Calls Try.prog 17 #[.slice Ai z ci, .slice Ai' z ci'] (wr.drewN p) fun e w' => e = .returned (.bool true) ∧ ∃ n, w' = (wr.drewN p).drewN n) := Lib.hid (fun p => same_yes_u8 _ _ _ _ _ xs _ _ _ (r1.drewN p) (r1'.drewN p) hz.out (by omega))
      go_wp2_with fail
      go_quiet ((go_at_call 17; refine Calls.quiet_of (HS.out _)))
      go_wp2
      go_roundw
      case rel => exact ⟨k + 1, m + nq, by omega, by go_num, by rw [HW.out, World.drewN_drewN]⟩
      case measure => simp [intOf]; omega
    · obtain rfl : k = n := by omega
      go_wp2
      go_ret
      exact ⟨rfl, m, HW.out⟩
end Go.Proofs.Ytooelfmfcihlkaa
namespace Go.Proofs.Ytooelfmfcihlkaa
open Go.RowKit
set_option linter.unusedVariables false
/-- A list with each byte written over, up to a place. -/
def spoil8 (k : Nat) (l : List Int) : List Int := (l.take k).map (bits .xor .u8 · 90) ++ l.drop k
theorem spoil8_length (k : Nat) (l : List Int) : (spoil8 k l).length = l.length := by simp [spoil8]; omega
theorem xor90_wf (x : Int) (h : (Lit.int .u8 x).wf = true) : (Lit.int .u8 (bits .xor .u8 x 90)).wf = true := by
  have hx := wf_u8 h
  obtain ⟨n, rfl⟩ := Int.eq_ofNat_of_zero_le hx.1
  have hn : n < 256 := by omega
  have := u8_xor_nat n 90 hn (by omega)
  show (Lit.int .u8 (bits .xor .u8 (n : Int) ((90 : Nat) : Int))).wf = true
  rw [this]
  have hlt : n ^^^ 90 < 256 := Nat.xor_lt_two_pow (n := 8) hn (by omega)
  simp [Lit.wf, IntKind.min, IntKind.max, IntKind.signed, IntKind.bits]; omega
theorem spoil8_wf (k : Nat) (l : List Int) (h : ∀ x ∈ l, (Lit.int .u8 x).wf = true) : ∀ x ∈ spoil8 k l, (Lit.int .u8 x).wf = true := by
  intro x hx
  rcases List.mem_append.1 hx with hx | hx
  · obtain ⟨y, hy, rfl⟩ := List.mem_map.1 hx
    exact xor90_wf y (h y (List.mem_of_mem_take hy))
  · exact h x (List.mem_of_mem_drop hx)
theorem spoil8_at (k : Nat) (l : List Int) (hk : k < l.length) : nth (spoil8 k l) k = nth l k := by
  have hl : ((l.take k).map (bits .xor .u8 · 90)).length = k := by simp; omega
  have := nth_right ((l.take k).map (bits .xor .u8 · 90)) (l.drop k) 0
  rw [hl, Nat.add_zero] at this
  rw [spoil8, this, nth, nth, List.getD_eq_getElem?_getD, List.getD_eq_getElem?_getD, List.getElem?_drop, Nat.add_zero]
theorem spoil8_set (k : Nat) (l : List Int) (hk : k < l.length) : (spoil8 k l).set k (bits .xor .u8 (nth l k) 90) = spoil8 (k + 1) l := by
  have hl : ((l.take k).map (bits .xor .u8 · 90)).length = k := by simp; omega
  have hd := List.drop_eq_getElem_cons hk
  rw [spoil8, List.set_append_right _ _ (by omega), hl, Nat.sub_self, spoil8, take_step l k hk]
  simp
  rw [hd]
  rfl
theorem spoil8_zero (l : List Int) : spoil8 0 l = l := by simp [spoil8]

set_option maxHeartbeats 400000 in
theorem spoil_u8 (g n c : Nat) (l r : List Int) (w : World) (hg : w.heap[g]? = some (.cells (blk .u8 (l ++ r)) 5 (0, 0))) (hl : l.length = c) (hn : n ≤ c) (hc : c ≤ 140737488355328) :
    Calls Try.prog 30 #[.slice (some ⟨g, 0, none⟩) n c] w fun e w' => e = .returned (.tuple #[]) ∧ w'.heap[g]? = some (.cells (blk .u8 (spoil8 c l ++ r)) 5 (0, 0)) ∧ w.grownBy w' (some g) ∧ w'.heap.size = w.heap.size := by
  have hl' := Lib.hid hl
  clear hl
  go_enter Try.func30, Try.ntmps30
  go_wp2
  go_loopw [3] (fun i wr => ∃ k : Nat, k ≤ c ∧ i = .int .i64 k ∧ Hid (wr.heap[g]? = some (.cells (blk .u8 (spoil8 k l ++ r)) 5 (0, 0))) ∧ w.grownBy wr (some g) ∧ Hid (wr.heap.size = w.heap.size)) (fun i _ => c - (intOf i).toNat)
  case atStart => exact ⟨0, by omega, rfl, Lib.hid (by rw [spoil8_zero]; exact hg), World.grownBy.refl _ _, Lib.hid rfl⟩
  case round =>
    obtain ⟨k, hk, rfl, hb, hgr, hsz⟩ := hrel
    by_cases hlt : k < c
    · have hc1 : wr.cell? ⟨g, k, none⟩ = some (.int .u8 (nth l k)) := by
        rw [cell_of_row wr g k _ _ _ hb.out, blk_get _ _ _ (by rw [List.length_append, spoil8_length, hl'.out]; omega), nth_left _ _ _ (by rw [spoil8_length, hl'.out]; exact hlt), spoil8_at k l (by have := hl'.out; omega)]
      have hfz := block_frozen wr g k _ _ hb.out
      have hnew := Lib.hid (block_setCell wr g k .u8 5 _ (bits .xor .u8 (nth l k) 90) hb.out)
      rw [List.set_append_left _ _ (by rw [spoil8_length, hl'.out]; exact hlt), spoil8_set k l (by have := hl'.out; omega)] at hnew
      have hgr2 := grown_setCell hgr k (.int .u8 (bits .xor .u8 (nth l k) 90))
      have hsz2 : Hid ((wr.setCell ⟨g, k, none⟩ (.int .u8 (bits .xor .u8 (nth l k) 90))).heap.size = w.heap.size) := by
        show _ = _
        rw [← hsz.out]; simp [World.setCell]
      go_wp2
      go_roundw
      case rel => exact ⟨k + 1, by omega, by go_num, hnew, hgr2, hsz2⟩
      case measure => simp [intOf]; omega
    · obtain rfl : k = c := by omega
      go_wp2
      go_end0
      exact ⟨rfl, hb.out, hgr, hsz.out⟩
theorem spoil_nil (w : World) :
    Calls Try.prog 30 #[.slice none 0 0] w fun e w' => e = .returned (.tuple #[]) ∧ w = w' := by
  go_enter Try.func30, Try.ntmps30
  go_wp2
  go_loop [3] (fun i => i = .int .i64 0) (fun _ => 0)
  case atStart => rfl
  case round =>
    subst hrel
    go_wp2
    go_end0
    exact ⟨rfl, rfl⟩

end Go.Proofs.Ytooelfmfcihlkaa
namespace Go.Proofs.Ytooelfmfcihlkaa
open Go.RowKit
set_option linter.unusedVariables false
/-- Rows that lie in blocks of their own, each known whole (or nil), their slices in the array of block gl. -/
structure Parts (w : World) (B gl m : Nat) (A : Nat → Option Addr) (n c : Nat → Nat) (l r : Nat → List Int) : Prop where
  at_ : ∀ k, k < m → w.cell? ⟨gl, k, none⟩ = some (.slice (A k) (n k) (c k))
  size : ∀ k, k < m → n k ≤ c k ∧ c k ≤ 140737488355328 ∧ (l k).length = c k
  wf : ∀ k, k < m → ∀ x ∈ l k, (Lit.int .u8 x).wf = true
  lies : ∀ k, k < m → (A k = none ∧ n k = 0 ∧ c k = 0) ∨ ∃ g, A k = some ⟨g, 0, none⟩ ∧ B ≤ g ∧ g ≠ gl ∧ w.heap[g]? = some (.cells (blk .u8 (l k ++ r k)) 5 (0, 0))
  apart : ∀ i k, i < m → k < m → i ≠ k → ∀ g, A i = some ⟨g, 0, none⟩ → A k ≠ some ⟨g, 0, none⟩
  gl_lt : gl < w.heap.size

theorem Parts.row {w : World} {B gl m : Nat} {A : Nat → Option Addr} {n c : Nat → Nat} {l r : Nat → List Int} (h : Parts w B gl m A n c l r) {k : Nat} (hk : k < m) :
    Row .u8 w w.heap.size (A k) ((l k).take (n k)) ∧ ((l k).take (n k)).length = n k := by
  have hs := h.size k hk
  refine ⟨?_, by simp; omega⟩
  rcases h.lies k hk with ⟨ha, hn, hc⟩ | ⟨g, ha, _, _, hg⟩
  · rw [hn, List.take_zero]; exact Row.nil _ _ _ _
  · rw [ha]
    exact (Row.of_block hg _ (fun x hx => h.wf k hk x (List.mem_of_mem_take hx)) ((List.take_prefix _ _).trans (List.prefix_append _ _))).more (block_lt hg)
/-- A step that leaves all old blocks leaves the parts. -/
theorem Parts.below {w w' : World} {B gl m : Nat} {A : Nat → Option Addr} {n c : Nat → Nat} {l r : Nat → List Int} (h : Parts w B gl m A n c l r) (hb : Below w.heap.size w w') : Parts w' B gl m A n c l r where
  at_ := fun k hk => (hb.cell (p := ⟨gl, k, none⟩) h.gl_lt).trans (h.at_ k hk)
  size := h.size
  wf := h.wf
  lies := fun k hk => by
    rcases h.lies k hk with h0 | ⟨g, ha, hB, hne, hg⟩
    · exact .inl h0
    · exact .inr ⟨g, ha, hB, hne, (hb.block g (block_lt hg)).trans hg⟩
  apart := h.apart
  gl_lt := Nat.lt_of_lt_of_le h.gl_lt hb.size
/-- One part is written over. -/
theorem Parts.spoil {w w' : World} {B gl m : Nat} {A : Nat → Option Addr} {n c : Nat → Nat} {l r : Nat → List Int} (h : Parts w B gl m A n c l r) {i g : Nat} (hi : i < m) (ha : A i = some ⟨g, 0, none⟩)
    (hg : w'.heap[g]? = some (.cells (blk .u8 (spoil8 (c i) (l i) ++ r i)) 5 (0, 0))) (hgr : w.grownBy w' (some g)) : Parts w' B gl m A n c (fun k => if k = i then spoil8 (c i) (l i) else l k) r where
  at_ := fun k hk => by
    rcases h.lies i hi with ⟨h0, _⟩ | ⟨g', ha', _, hne, _⟩
    · rw [ha] at h0; cases h0
    · rw [ha] at ha'
      injection ha' with ha'
      injection ha' with ha'
      subst ha'
      exact (World.cell?_of_block (hgr.block gl h.gl_lt (fun e => hne (by injection e with e; exact e.symm)))).trans (h.at_ k hk)
  size := fun k hk => by
    have := h.size k hk
    refine ⟨this.1, this.2.1, ?_⟩
    split
    · rename_i e; subst e; rw [spoil8_length]; exact this.2.2
    · exact this.2.2
  wf := fun k hk => by
    show ∀ x ∈ (if k = i then spoil8 (c i) (l i) else l k), _
    split
    · exact spoil8_wf _ _ (h.wf i hi)
    · exact h.wf k hk
  lies := fun k hk => by
    by_cases e : k = i
    · subst e
      rcases h.lies k hi with ⟨h0, _⟩ | ⟨g', ha', hB, hne, _⟩
      · rw [ha] at h0; cases h0
      · rw [ha] at ha'
        injection ha' with ha'
        injection ha' with ha'
        subst ha'
        exact .inr ⟨g, ha, hB, hne, by rw [if_pos rfl]; exact hg⟩
    · rcases h.lies k hk with h0 | ⟨g', ha', hB, hne, hg'⟩
      · exact .inl h0
      · refine .inr ⟨g', ha', hB, hne, ?_⟩
        rw [if_neg e, hgr.block g' (block_lt hg') (fun e' => ?_)]
        · exact hg'
        · injection e' with e'
          subst e'
          exact h.apart k i hk hi e _ ha' ha
  apart := h.apart
  gl_lt := Nat.lt_of_lt_of_le h.gl_lt hgr.size

set_option maxHeartbeats 1000000 in
theorem apart_u8 (gl m B : Nat) (A : Nat → Option Addr) (n c : Nat → Nat) (l0 r : Nat → List Int) (w : World) (hP : Parts w B gl m A n c l0 r) (hB : B ≤ w.heap.size) (hm : m ≤ 1000) :
    Calls Try.prog 19 #[.slice (some ⟨gl, 0, none⟩) m m] w fun e w' => e = .returned (.bool true) ∧ Below B w w' := by
  go_enter Try.func19, Try.ntmps19
  go_wp2
  go_loopw [3, 4, 5] (fun i _ _ wr => ∃ (j : Nat) (l : Nat → List Int), j ≤ m ∧ i = .int .i64 j ∧ Parts wr B gl m A n c l r ∧ Below B w wr) (fun i _ _ _ => m - (intOf i).toNat)
  case atStart => exact ⟨0, l0, by omega, rfl, hP, Below.refl _ _⟩
  case round =>
    obtain ⟨i, l1, hi, rfl, hP1, hb1⟩ := hrel
    by_cases hlt : i < m
    · go_wp2
      obtain ⟨wo, hwo⟩ : ∃ wo : World, wo = wr := ⟨_, rfl⟩
      subst hwo
      go_loopw [4, 5] (fun k _ wr => ∃ (j : Nat) (l : Nat → List Int), j ≤ m ∧ k = .int .i64 j ∧ Parts wr B gl m A n c l r ∧ Below B w wr) (fun k _ _ => m - (intOf k).toNat)
      case atStart => exact ⟨0, l1, by omega, rfl, hP1, hb1⟩
      case round =>
        obtain ⟨k, l, hk, rfl, hP2, hb2⟩ := hrel
        by_cases hlk : k < m
        · by_cases hik : i = k
          · subst hik
            go_wp2
            go_roundw
            case rel => exact ⟨i + 1, l, by omega, by go_num, hP2, hb2⟩
            case measure => simp [intOf]; omega
          · have ht : ((i : Int) == (k : Int)) = false := by simp; omega
            have hck := hP2.at_ k hlk
            have hci := hP2.at_ i hlt
            obtain ⟨hrow, hrl⟩ := hP2.row hlk
            have hrl' := Lib.hid hrl
            clear hrl
            have hsk := hP2.size k hlk
            go_wp2_with fail
            refine (copy_u8 _ _ _ _ _ hrow hrl'.out (by omega)).mono ?_
            rintro e w1 ⟨v1, rfl, own1, bel1⟩
            have hP3 := hP2.below bel1
            have hb3 : Below B w w1 := hb2.trans (bel1.mono (Nat.le_trans hB hb2.size))
            have hck1 := hP3.at_ k hlk
            have hci1 := hP3.at_ i hlt
            have hwf := hrow.1
            rcases hP3.lies i hlt with ⟨hA, hN, hC⟩ | ⟨g, hA, hBg, hgl, hg⟩
            · rw [hA, hN, hC] at hci1
              clear hA hN hC hck hci hrow
              obtain ⟨A1, c1, rfl, row1, _, _⟩ := own1.row hwf
              rw [hrl'.out]
              obtain ⟨hrow3, hrl3⟩ := hP3.row hlk
              have hrl3' := Lib.hid hrl3
              clear hrl3
              go_wp2_with fail
              refine (spoil_nil _).mono ?_
              rintro e w' ⟨rfl, rfl⟩
              go_wp2_with fail
              refine (same_yes_u8 _ _ _ _ _ _ _ _ _ row1 hrow3 hrl3'.out (by omega)).mono ?_
              rintro e w' ⟨rfl, mq, rfl⟩
              have hP4 := hP3.below (w' := w1.drewN mq) ⟨rfl, rfl, rfl, Nat.le_refl _, fun _ _ => rfl⟩
              have hb4 : Below B w (w1.drewN mq) := hb3.trans ⟨rfl, rfl, rfl, Nat.le_refl _, fun _ _ => rfl⟩
              go_wp2
              go_roundw
              case rel => exact ⟨k + 1, l, by omega, by go_num, hP4, hb4⟩
              case measure => simp [intOf]; omega
            · have hsi := hP3.size i hlt
              have hglt : g < wr.heap.size := by
                rcases hP2.lies i hlt with ⟨h0, _⟩ | ⟨g', hA', _, _, hg'⟩
                · rw [hA] at h0; cases h0
                · rw [hA] at hA'
                  injection hA' with hA'
                  injection hA' with hA'
                  rw [hA']
                  exact block_lt hg'
              rw [hA] at hci1
              clear hck hci hrow
              have hsi3 := Lib.hid hsi.2.2
              go_wp2_with fail
              refine (spoil_u8 g _ _ (l i) (r i) _ hg hsi3.out hsi.1 hsi.2.1).mono ?_
              rintro e w2 ⟨rfl, hg2, hgr2, hsz2⟩
              have hP4 := hP3.spoil hlt hA hg2 hgr2
              have hb4 : Below B w w2 := hb3.grown hgr2 (Nat.le_trans hB hb3.size) (fun q e => by injection e; omega)
              have own2 := own1.kept hgr2 (by
                cases hv : v1.ownBlock with
                | none => exact .inl rfl
                | some q =>
                  refine .inr fun e => ?_
                  have h1 := (own1.block q hv).1
                  injection e with e
                  omega)
              have hck2 := hP4.at_ k hlk
              obtain ⟨hrow4, hrl4⟩ := hP4.row hlk
              simp only [if_neg (show ¬ k = i by omega)] at hrow4 hrl4
              have hrl4' := Lib.hid hrl4
              obtain ⟨A1, c1, rfl, row1, _, _⟩ := own2.row hwf
              rw [hrl'.out]
              clear hsz2 hrl4 hck1 hci1 hgr2 hg2 hg hA
              go_wp2_with fail
              refine (same_yes_u8 _ _ _ _ _ _ _ _ _ row1 hrow4 hrl4'.out (by omega)).mono ?_
              rintro e w' ⟨rfl, mq, rfl⟩
              have hP5 := hP4.below (w' := w2.drewN mq) ⟨rfl, rfl, rfl, Nat.le_refl _, fun _ _ => rfl⟩
              have hb5 : Below B w (w2.drewN mq) := hb4.trans ⟨rfl, rfl, rfl, Nat.le_refl _, fun _ _ => rfl⟩
              go_wp2
              go_roundw
              case rel => exact ⟨k + 1, _, by omega, by go_num, hP5, hb5⟩
              case measure => simp [intOf]; omega
        · go_wp2
          go_roundw
          case rel => exact ⟨i + 1, l, by omega, by go_num, hP2, hb2⟩
          case measure => simp [intOf]; omega
    · go_wp2
      go_ret
      exact ⟨rfl, hb1⟩

/-- A slice that is handed to ApartBytes: nil, or the beginning of a block that is known whole. -/
structure Ent where
  a : Option Nat
  n : Nat
  c : Nat
  l : List Int
  r : List Int
def Ent.none_ : Ent := ⟨none, 0, 0, [], []⟩
def Ent.adr (e : Ent) : Option Addr := e.a.map fun g => ⟨g, 0, none⟩
def Ent.val (e : Ent) : Value := .slice e.adr e.n e.c
structure Ent.Ok (w : World) (B : Nat) (e : Ent) : Prop where
  size : e.n ≤ e.c ∧ e.c ≤ 140737488355328 ∧ e.l.length = e.c
  wf : ∀ x ∈ e.l, (Lit.int .u8 x).wf = true
  lies : (e.a = none ∧ e.n = 0 ∧ e.c = 0) ∨ ∃ g, e.a = some g ∧ B ≤ g ∧ w.heap[g]? = some (.cells (blk .u8 (e.l ++ e.r)) 5 (0, 0))
def Ent.Far (e e' : Ent) : Prop := ∀ g, e.a = some g → e'.a ≠ some g
theorem Ent.adr_some {e : Ent} {g : Nat} (h : e.adr = some ⟨g, 0, none⟩) : e.a = some g := by
  unfold Ent.adr at h
  cases ha : e.a with
  | none => rw [ha] at h; cases h
  | some q => rw [ha] at h; simp at h; rw [h]

theorem parts_of_list (w : World) (B : Nat) (L : List Ent) (t : TypeId) (hok : ∀ e ∈ L, e.Ok w B) (hfar : L.Pairwise Ent.Far) :
    Parts (w.alloc (.cells (L.map Ent.val).toArray t)) B w.heap.size L.length (fun k => (L.getD k Ent.none_).adr) (fun k => (L.getD k Ent.none_).n) (fun k => (L.getD k Ent.none_).c) (fun k => (L.getD k Ent.none_).l) (fun k => (L.getD k Ent.none_).r) where
  at_ := fun k hk => by
    rw [World.cell?_alloc_at _ _ _ _ rfl]
    simp [List.getElem?_eq_getElem hk, List.getD_eq_getElem?_getD, Ent.val]
  size := fun k hk => by
    simp only [List.getD_eq_getElem?_getD, List.getElem?_eq_getElem hk, Option.getD_some]
    exact (hok _ (List.getElem_mem hk)).size
  wf := fun k hk => by
    simp only [List.getD_eq_getElem?_getD, List.getElem?_eq_getElem hk, Option.getD_some]
    exact (hok _ (List.getElem_mem hk)).wf
  lies := fun k hk => by
    simp only [List.getD_eq_getElem?_getD, List.getElem?_eq_getElem hk, Option.getD_some]
    rcases (hok _ (List.getElem_mem hk)).lies with ⟨h1, h2⟩ | ⟨g, h1, h2, h3⟩
    · exact .inl ⟨by rw [Ent.adr, h1]; rfl, h2⟩
    · have := block_lt h3
      exact .inr ⟨g, by rw [Ent.adr, h1]; rfl, h2, by omega, (Below.heap_alloc w _ g this).trans h3⟩
  apart := fun i k hi hk hne g h1 h2 => by
    simp only [List.getD_eq_getElem?_getD, List.getElem?_eq_getElem hi, List.getElem?_eq_getElem hk, Option.getD_some] at h1 h2
    have h1 := Ent.adr_some h1
    have h2 := Ent.adr_some h2
    rcases Nat.lt_or_gt_of_ne hne with h | h
    · exact List.pairwise_iff_getElem.1 hfar i k hi hk h g h1 h2
    · exact List.pairwise_iff_getElem.1 hfar k i hk hi h g h2 h1
  gl_lt := by simp

theorem apart_list_u8 (w : World) (B : Nat) (L : List Ent) (t : TypeId) (hok : ∀ e ∈ L, e.Ok w B) (hfar : L.Pairwise Ent.Far) (hB : B ≤ w.heap.size) (hm : L.length ≤ 1000) :
    Calls Try.prog 19 #[.slice (some ⟨w.heap.size, 0, none⟩) L.length L.length] (w.alloc (.cells (L.map Ent.val).toArray t)) fun e w' => e = .returned (.bool true) ∧ Below B w w' :=
  (apart_u8 _ _ B _ _ _ _ _ _ (parts_of_list w B L t hok hfar) (by simp; omega) hm).mono fun _ _ ⟨he, hb⟩ => ⟨he, ((Below.refl B w).alloc hB _).trans hb⟩
end Go.Proofs.Ytooelfmfcihlkaa
namespace Go.Proofs.Ytooelfmfcihlkaa
open Go.RowKit
set_option linter.unusedVariables false
theorem spoilO_at (p l r : List Int) (k : Nat) (hk : k < l.length) : nth (p ++ spoil8 k l ++ r) (p.length + k) = nth l k := by
  rw [nth_left _ _ _ (by rw [List.length_append, spoil8_length]; omega), nth_right, spoil8_at k l hk]
theorem spoilO_set (p l r : List Int) (k : Nat) (hk : k < l.length) : (p ++ spoil8 k l ++ r).set (p.length + k) (bits .xor .u8 (nth l k) 90) = p ++ spoil8 (k + 1) l ++ r := by
  rw [List.set_append_left _ _ (by rw [List.length_append, spoil8_length]; omega), List.set_append_right _ _ (by omega), Nat.add_sub_cancel_left, spoil8_set k l hk]

set_option maxHeartbeats 400000 in
theorem spoilO_u8 (g o n c : Nat) (p l r : List Int) (w : World) (hg : w.heap[g]? = some (.cells (blk .u8 (p ++ l ++ r)) 5 (0, 0))) (hp : p.length = o) (hl : l.length = c) (hn : n ≤ c) (hc : c ≤ 140737488355328) :
    Calls Try.prog 30 #[.slice (some ⟨g, o, none⟩) n c] w fun e w' => e = .returned (.tuple #[]) ∧ w'.heap[g]? = some (.cells (blk .u8 (p ++ spoil8 c l ++ r)) 5 (0, 0)) ∧ w.grownBy w' (some g) ∧ w'.heap.size = w.heap.size := by
  have hl' := Lib.hid hl
  have hp' := Lib.hid hp
  clear hl hp
  go_enter Try.func30, Try.ntmps30
  go_wp2
  go_loopw [3] (fun i wr => ∃ k : Nat, k ≤ c ∧ i = .int .i64 k ∧ Hid (wr.heap[g]? = some (.cells (blk .u8 (p ++ spoil8 k l ++ r)) 5 (0, 0))) ∧ w.grownBy wr (some g) ∧ Hid (wr.heap.size = w.heap.size)) (fun i _ => c - (intOf i).toNat)
  case atStart => exact ⟨0, by omega, rfl, Lib.hid (by rw [spoil8_zero]; exact hg), World.grownBy.refl _ _, Lib.hid rfl⟩
  case round =>
    obtain ⟨k, hk, rfl, hb, hgr, hsz⟩ := hrel
    by_cases hlt : k < c
    · have hc1 : wr.cell? ⟨g, o + k, none⟩ = some (.int .u8 (nth l k)) := by
        rw [cell_of_row wr g (o + k) _ _ _ hb.out, blk_get _ _ _ (by rw [List.length_append, List.length_append, spoil8_length, hl'.out, hp'.out]; omega), ← hp'.out, spoilO_at p l r k (by have := hl'.out; omega)]
      have hfz := block_frozen wr g (o + k) _ _ hb.out
      have hnew := Lib.hid (block_setCell wr g (o + k) .u8 5 _ (bits .xor .u8 (nth l k) 90) hb.out)
      rw [show (p ++ spoil8 k l ++ r).set (o + k) (bits .xor .u8 (nth l k) 90) = p ++ spoil8 (k + 1) l ++ r by rw [← hp'.out]; exact spoilO_set p l r k (by have := hl'.out; omega)] at hnew
      have hgr2 := grown_setCell hgr (o + k) (.int .u8 (bits .xor .u8 (nth l k) 90))
      have hsz2 : Hid ((wr.setCell ⟨g, o + k, none⟩ (.int .u8 (bits .xor .u8 (nth l k) 90))).heap.size = w.heap.size) := by
        show _ = _
        rw [← hsz.out]; simp [World.setCell]
      go_wp2
      go_roundw
      case rel => exact ⟨k + 1, by omega, by go_num, hnew, hgr2, hsz2⟩
      case measure => simp [intOf]; omega
    · obtain rfl : k = c := by omega
      go_wp2
      go_end0
      exact ⟨rfl, hb.out, hgr, hsz.out⟩
/-- A row inside a block that is known whole. -/
theorem Row.inside {k : IntKind} {w : World} {g : Nat} {t : TypeId} {fr : Nat × Nat} {p l r : List Int} (hg : w.heap[g]? = some (.cells (blk k (p ++ l ++ r)) t fr)) (xs : List Int) (hw : ∀ x ∈ xs, (Lit.int k x).wf = true) (hp : xs <+: l) :
    Row k w (g + 1) (some ⟨g, p.length, none⟩) xs := by
  obtain ⟨ys, rfl⟩ := hp
  refine ⟨hw, fun _ => ⟨_, _, rfl, Nat.lt_succ_self _, fun i hi => ?_⟩⟩
  rw [cell_of_row w g _ _ _ _ hg, blk_get _ _ _ (by simp; omega), nth_left _ _ _ (by simp; omega), nth_right, nth_left _ _ _ hi]
/-- Rows that lie inside blocks of their own, each known whole (or nil), their slices in the array of block gl. -/
structure PartsO (w : World) (B gl m : Nat) (A : Nat → Option Addr) (n c : Nat → Nat) (p l r : Nat → List Int) : Prop where
  at_ : ∀ k, k < m → w.cell? ⟨gl, k, none⟩ = some (.slice (A k) (n k) (c k))
  size : ∀ k, k < m → n k ≤ c k ∧ c k ≤ 140737488355328 ∧ (l k).length = c k
  wf : ∀ k, k < m → ∀ x ∈ l k, (Lit.int .u8 x).wf = true
  lies : ∀ k, k < m → (A k = none ∧ n k = 0 ∧ c k = 0) ∨ ∃ g, A k = some ⟨g, (p k).length, none⟩ ∧ B ≤ g ∧ g ≠ gl ∧ w.heap[g]? = some (.cells (blk .u8 (p k ++ l k ++ r k)) 5 (0, 0))
  apart : ∀ i k, i < m → k < m → i ≠ k → ∀ g o q, A i = some ⟨g, o, none⟩ → A k ≠ some ⟨g, q, none⟩
  gl_lt : gl < w.heap.size

theorem PartsO.row {w : World} {B gl m : Nat} {A : Nat → Option Addr} {n c : Nat → Nat} {p l r : Nat → List Int} (h : PartsO w B gl m A n c p l r) {k : Nat} (hk : k < m) :
    Row .u8 w w.heap.size (A k) ((l k).take (n k)) ∧ ((l k).take (n k)).length = n k := by
  have hs := h.size k hk
  refine ⟨?_, by simp; omega⟩
  rcases h.lies k hk with ⟨ha, hn, hc⟩ | ⟨g, ha, _, _, hg⟩
  · rw [hn, List.take_zero]; exact Row.nil _ _ _ _
  · rw [ha]
    exact (Row.inside hg _ (fun x hx => h.wf k hk x (List.mem_of_mem_take hx)) (List.take_prefix _ _)).more (block_lt hg)
/-- A step that leaves all old blocks leaves the parts. -/
theorem PartsO.below {w w' : World} {B gl m : Nat} {A : Nat → Option Addr} {n c : Nat → Nat} {p l r : Nat → List Int} (h : PartsO w B gl m A n c p l r) (hb : Below w.heap.size w w') : PartsO w' B gl m A n c p l r where
  at_ := fun k hk => (hb.cell (p := ⟨gl, k, none⟩) h.gl_lt).trans (h.at_ k hk)
  size := h.size
  wf := h.wf
  lies := fun k hk => by
    rcases h.lies k hk with h0 | ⟨g, ha, hB, hne, hg⟩
    · exact .inl h0
    · exact .inr ⟨g, ha, hB, hne, (hb.block g (block_lt hg)).trans hg⟩
  apart := h.apart
  gl_lt := Nat.lt_of_lt_of_le h.gl_lt hb.size
/-- One part is written over. -/
theorem PartsO.spoil {w w' : World} {B gl m : Nat} {A : Nat → Option Addr} {n c : Nat → Nat} {p l r : Nat → List Int} (h : PartsO w B gl m A n c p l r) {i g : Nat} (hi : i < m) (ha : A i = some ⟨g, (p i).length, none⟩)
    (hg : w'.heap[g]? = some (.cells (blk .u8 (p i ++ spoil8 (c i) (l i) ++ r i)) 5 (0, 0))) (hgr : w.grownBy w' (some g)) : PartsO w' B gl m A n c p (fun k => if k = i then spoil8 (c i) (l i) else l k) r where
  at_ := fun k hk => by
    rcases h.lies i hi with ⟨h0, _⟩ | ⟨g', ha', _, hne, _⟩
    · rw [ha] at h0; cases h0
    · rw [ha] at ha'
      injection ha' with ha'
      injection ha' with ha'
      subst ha'
      exact (World.cell?_of_block (hgr.block gl h.gl_lt (fun e => hne (by injection e with e; exact e.symm)))).trans (h.at_ k hk)
  size := fun k hk => by
    have := h.size k hk
    refine ⟨this.1, this.2.1, ?_⟩
    split
    · rename_i e; subst e; rw [spoil8_length]; exact this.2.2
    · exact this.2.2
  wf := fun k hk => by
    show ∀ x ∈ (if k = i then spoil8 (c i) (l i) else l k), _
    split
    · exact spoil8_wf _ _ (h.wf i hi)
    · exact h.wf k hk
  lies := fun k hk => by
    by_cases e : k = i
    · subst e
      rcases h.lies k hi with ⟨h0, _⟩ | ⟨g', ha', hB, hne, _⟩
      · rw [ha] at h0; cases h0
      · rw [ha] at ha'
        injection ha' with ha'
        injection ha' with ha'
        subst ha'
        exact .inr ⟨g, ha, hB, hne, by rw [if_pos rfl]; exact hg⟩
    · rcases h.lies k hk with h0 | ⟨g', ha', hB, hne, hg'⟩
      · exact .inl h0
      · refine .inr ⟨g', ha', hB, hne, ?_⟩
        rw [if_neg e, hgr.block g' (block_lt hg') (fun e' => ?_)]
        · exact hg'
        · injection e' with e'
          subst e'
          exact h.apart k i hk hi e _ _ _ ha' ha
  apart := h.apart
  gl_lt := Nat.lt_of_lt_of_le h.gl_lt hgr.size

set_option maxHeartbeats 1000000 in
theorem apartO_u8 (gl m B : Nat) (A : Nat → Option Addr) (n c : Nat → Nat) (p l0 r : Nat → List Int) (w : World) (hP : PartsO w B gl m A n c p l0 r) (hB : B ≤ w.heap.size) (hm : m ≤ 1000) :
    Calls Try.prog 19 #[.slice (some ⟨gl, 0, none⟩) m m] w fun e w' => e = .returned (.bool true) ∧ Below B w w' := by
  go_enter Try.func19, Try.ntmps19
  go_wp2
  go_loopw [3, 4, 5] (fun i _ _ wr => ∃ (j : Nat) (l : Nat → List Int), j ≤ m ∧ i = .int .i64 j ∧ PartsO wr B gl m A n c p l r ∧ Below B w wr) (fun i _ _ _ => m - (intOf i).toNat)
  case atStart => exact ⟨0, l0, by omega, rfl, hP, Below.refl _ _⟩
  case round =>
    obtain ⟨i, l1, hi, rfl, hP1, hb1⟩ := hrel
    by_cases hlt : i < m
    · go_wp2
      obtain ⟨wo, hwo⟩ : ∃ wo : World, wo = wr := ⟨_, rfl⟩
      subst hwo
      go_loopw [4, 5] (fun k _ wr => ∃ (j : Nat) (l : Nat → List Int), j ≤ m ∧ k = .int .i64 j ∧ PartsO wr B gl m A n c p l r ∧ Below B w wr) (fun k _ _ => m - (intOf k).toNat)
      case atStart => exact ⟨0, l1, by omega, rfl, hP1, hb1⟩
      case round =>
        obtain ⟨k, l, hk, rfl, hP2, hb2⟩ := hrel
        by_cases hlk : k < m
        · by_cases hik : i = k
          · subst hik
            go_wp2
            go_roundw
            case rel => exact ⟨i + 1, l, by omega, by go_num, hP2, hb2⟩
            case measure => simp [intOf]; omega
          · have ht : ((i : Int) == (k : Int)) = false := by simp; omega
            have hck := hP2.at_ k hlk
            have hci := hP2.at_ i hlt
            obtain ⟨hrow, hrl⟩ := hP2.row hlk
            have hrl' := Lib.hid hrl
            clear hrl
            have hsk := hP2.size k hlk
            go_wp2_with fail
            refine (copy_u8 _ _ _ _ _ hrow hrl'.out (by omega)).mono ?_
            rintro e w1 ⟨v1, rfl, own1, bel1⟩
            have hP3 := hP2.below bel1
            have hb3 : Below B w w1 := hb2.trans (bel1.mono (Nat.le_trans hB hb2.size))
            have hck1 := hP3.at_ k hlk
            have hci1 := hP3.at_ i hlt
            have hwf := hrow.1
            rcases hP3.lies i hlt with ⟨hA, hN, hC⟩ | ⟨g, hA, hBg, hgl, hg⟩
            · rw [hA, hN, hC] at hci1
              clear hA hN hC hck hci hrow
              obtain ⟨A1, c1, rfl, row1, _, _⟩ := own1.row hwf
              rw [hrl'.out]
              obtain ⟨hrow3, hrl3⟩ := hP3.row hlk
              have hrl3' := Lib.hid hrl3
              clear hrl3
              go_wp2_with fail
              refine (spoil_nil _).mono ?_
              rintro e w' ⟨rfl, rfl⟩
              go_wp2_with fail
              refine (same_yes_u8 _ _ _ _ _ _ _ _ _ row1 hrow3 hrl3'.out (by omega)).mono ?_
              rintro e w' ⟨rfl, mq, rfl⟩
              have hP4 := hP3.below (w' := w1.drewN mq) ⟨rfl, rfl, rfl, Nat.le_refl _, fun _ _ => rfl⟩
              have hb4 : Below B w (w1.drewN mq) := hb3.trans ⟨rfl, rfl, rfl, Nat.le_refl _, fun _ _ => rfl⟩
              go_wp2
              go_roundw
              case rel => exact ⟨k + 1, l, by omega, by go_num, hP4, hb4⟩
              case measure => simp [intOf]; omega
            · have hsi := hP3.size i hlt
              have hglt : g < wr.heap.size := by
                rcases hP2.lies i hlt with ⟨h0, _⟩ | ⟨g', hA', _, _, hg'⟩
                · rw [hA] at h0; cases h0
                · rw [hA] at hA'
                  injection hA' with hA'
                  injection hA' with hA'
                  rw [hA']
                  exact block_lt hg'
              rw [hA] at hci1
              clear hck hci hrow
              have hsi3 := Lib.hid hsi.2.2
              go_wp2_with fail
              refine (spoilO_u8 g _ _ _ (p i) (l i) (r i) _ hg rfl hsi3.out hsi.1 hsi.2.1).mono ?_
              rintro e w2 ⟨rfl, hg2, hgr2, hsz2⟩
              have hP4 := hP3.spoil hlt hA hg2 hgr2
              have hb4 : Below B w w2 := hb3.grown hgr2 (Nat.le_trans hB hb3.size) (fun q e => by injection e; omega)
              have own2 := own1.kept hgr2 (by
                cases hv : v1.ownBlock with
                | none => exact .inl rfl
                | some q =>
                  refine .inr fun e => ?_
                  have h1 := (own1.block q hv).1
                  injection e with e
                  omega)
              have hck2 := hP4.at_ k hlk
              obtain ⟨hrow4, hrl4⟩ := hP4.row hlk
              simp only [if_neg (show ¬ k = i by omega)] at hrow4 hrl4
              have hrl4' := Lib.hid hrl4
              obtain ⟨A1, c1, rfl, row1, _, _⟩ := own2.row hwf
              rw [hrl'.out]
              clear hsz2 hrl4 hck1 hci1 hgr2 hg2 hg hA
              go_wp2_with fail
              refine (same_yes_u8 _ _ _ _ _ _ _ _ _ row1 hrow4 hrl4'.out (by omega)).mono ?_
              rintro e w' ⟨rfl, mq, rfl⟩
              have hP5 := hP4.below (w' := w2.drewN mq) ⟨rfl, rfl, rfl, Nat.le_refl _, fun _ _ => rfl⟩
              have hb5 : Below B w (w2.drewN mq) := hb4.trans ⟨rfl, rfl, rfl, Nat.le_refl _, fun _ _ => rfl⟩
              go_wp2
              go_roundw
              case rel => exact ⟨k + 1, _, by omega, by go_num, hP5, hb5⟩
              case measure => simp [intOf]; omega
        · go_wp2
          go_roundw
          case rel => exact ⟨i + 1, l, by omega, by go_num, hP2, hb2⟩
          case measure => simp [intOf]; omega
    · go_wp2
      go_ret
      exact ⟨rfl, hb1⟩

/-- A slice that is handed to ApartBytes: nil, or the beginning of a block that is known whole. -/
structure EntO where
  a : Option Nat
  p : List Int
  n : Nat
  c : Nat
  l : List Int
  r : List Int
def EntO.none_ : EntO := ⟨none, [], 0, 0, [], []⟩
def EntO.adr (e : EntO) : Option Addr := e.a.map fun g => ⟨g, e.p.length, none⟩
def EntO.val (e : EntO) : Value := .slice e.adr e.n e.c
structure EntO.Ok (w : World) (B : Nat) (e : EntO) : Prop where
  size : e.n ≤ e.c ∧ e.c ≤ 140737488355328 ∧ e.l.length = e.c
  wf : ∀ x ∈ e.l, (Lit.int .u8 x).wf = true
  lies : (e.a = none ∧ e.n = 0 ∧ e.c = 0) ∨ ∃ g, e.a = some g ∧ B ≤ g ∧ w.heap[g]? = some (.cells (blk .u8 (e.p ++ e.l ++ e.r)) 5 (0, 0))
def EntO.Far (e e' : EntO) : Prop := ∀ g, e.a = some g → e'.a ≠ some g
theorem EntO.adr_some {e : EntO} {g o : Nat} (h : e.adr = some ⟨g, o, none⟩) : e.a = some g := by
  unfold EntO.adr at h
  cases ha : e.a with
  | none => rw [ha] at h; cases h
  | some q => rw [ha] at h; simp at h; rw [h.1]

theorem partsO_of_list (w : World) (B : Nat) (L : List EntO) (t : TypeId) (hok : ∀ e ∈ L, e.Ok w B) (hfar : L.Pairwise EntO.Far) :
    PartsO (w.alloc (.cells (L.map EntO.val).toArray t)) B w.heap.size L.length (fun k => (L.getD k EntO.none_).adr) (fun k => (L.getD k EntO.none_).n) (fun k => (L.getD k EntO.none_).c) (fun k => (L.getD k EntO.none_).p) (fun k => (L.getD k EntO.none_).l) (fun k => (L.getD k EntO.none_).r) where
  at_ := fun k hk => by
    rw [World.cell?_alloc_at _ _ _ _ rfl]
    simp [List.getElem?_eq_getElem hk, List.getD_eq_getElem?_getD, EntO.val]
  size := fun k hk => by
    simp only [List.getD_eq_getElem?_getD, List.getElem?_eq_getElem hk, Option.getD_some]
    exact (hok _ (List.getElem_mem hk)).size
  wf := fun k hk => by
    simp only [List.getD_eq_getElem?_getD, List.getElem?_eq_getElem hk, Option.getD_some]
    exact (hok _ (List.getElem_mem hk)).wf
  lies := fun k hk => by
    simp only [List.getD_eq_getElem?_getD, List.getElem?_eq_getElem hk, Option.getD_some]
    rcases (hok _ (List.getElem_mem hk)).lies with ⟨h1, h2⟩ | ⟨g, h1, h2, h3⟩
    · exact .inl ⟨by rw [EntO.adr, h1]; rfl, h2⟩
    · have := block_lt h3
      exact .inr ⟨g, by rw [EntO.adr, h1]; rfl, h2, by omega, (Below.heap_alloc w _ g this).trans h3⟩
  apart := fun i k hi hk hne g o q h1 h2 => by
    simp only [List.getD_eq_getElem?_getD, List.getElem?_eq_getElem hi, List.getElem?_eq_getElem hk, Option.getD_some] at h1 h2
    have h1 := EntO.adr_some h1
    have h2 := EntO.adr_some h2
    rcases Nat.lt_or_gt_of_ne hne with h | h
    · exact List.pairwise_iff_getElem.1 hfar i k hi hk h g h1 h2
    · exact List.pairwise_iff_getElem.1 hfar k i hk hi h g h2 h1
  gl_lt := by simp

theorem apartO_list_u8 (w : World) (B : Nat) (L : List EntO) (t : TypeId) (hok : ∀ e ∈ L, e.Ok w B) (hfar : L.Pairwise EntO.Far) (hB : B ≤ w.heap.size) (hm : L.length ≤ 1000) :
    Calls Try.prog 19 #[.slice (some ⟨w.heap.size, 0, none⟩) L.length L.length] (w.alloc (.cells (L.map EntO.val).toArray t)) fun e w' => e = .returned (.bool true) ∧ Below B w w' :=
  (apartO_u8 _ _ B _ _ _ _ _ _ _ (partsO_of_list w B L t hok hfar) (by simp; omega) hm).mono fun _ _ ⟨he, hb⟩ => ⟨he, ((Below.refl B w).alloc hB _).trans hb⟩
end Go.Proofs.Ytooelfmfcihlkaa
namespace Go.Proofs.Ytooelfmfcihlkaa
open Go.RowKit
set_option linter.unusedVariables false
set_option maxHeartbeats 400000 in
theorem spoilK_u8 (g o n c : Nat) (p l r : List Int) (w : World) (hg : w.heap[g]? = some (.cells (blk .u8 (p ++ l ++ r)) 5 (0, 0))) (hp : p.length = o) (hl : l.length = c) (hn : n ≤ c) (hc : c ≤ 9223372036854775807) :
    Calls Try.prog 30 #[.slice (some ⟨g, o, none⟩) n c] w fun e w' => e = .returned (.tuple #[]) ∧ w'.heap[g]? = some (.cells (blk .u8 (p ++ spoil8 c l ++ r)) 5 (0, 0)) ∧ w.grownBy w' (some g) ∧ w'.heap.size = w.heap.size := by
  have hl' := Lib.hid hl
  have hp' := Lib.hid hp
  clear hl hp
  go_enter Try.func30, Try.ntmps30
  go_wp2
  go_loopw [3] (fun i wr => ∃ k : Nat, k ≤ c ∧ i = .int .i64 k ∧ Hid (wr.heap[g]? = some (.cells (blk .u8 (p ++ spoil8 k l ++ r)) 5 (0, 0))) ∧ w.grownBy wr (some g) ∧ Hid (wr.heap.size = w.heap.size)) (fun i _ => c - (intOf i).toNat)
  case atStart => exact ⟨0, by omega, rfl, Lib.hid (by rw [spoil8_zero]; exact hg), World.grownBy.refl _ _, Lib.hid rfl⟩
  case round =>
    obtain ⟨k, hk, rfl, hb, hgr, hsz⟩ := hrel
    by_cases hlt : k < c
    · have hc1 : wr.cell? ⟨g, o + k, none⟩ = some (.int .u8 (nth l k)) := by
        rw [cell_of_row wr g (o + k) _ _ _ hb.out, blk_get _ _ _ (by rw [List.length_append, List.length_append, spoil8_length, hl'.out, hp'.out]; omega), ← hp'.out, spoilO_at p l r k (by have := hl'.out; omega)]
      have hfz := block_frozen wr g (o + k) _ _ hb.out
      have hnew := Lib.hid (block_setCell wr g (o + k) .u8 5 _ (bits .xor .u8 (nth l k) 90) hb.out)
      rw [show (p ++ spoil8 k l ++ r).set (o + k) (bits .xor .u8 (nth l k) 90) = p ++ spoil8 (k + 1) l ++ r by rw [← hp'.out]; exact spoilO_set p l r k (by have := hl'.out; omega)] at hnew
      have hgr2 := grown_setCell hgr (o + k) (.int .u8 (bits .xor .u8 (nth l k) 90))
      have hsz2 : Hid ((wr.setCell ⟨g, o + k, none⟩ (.int .u8 (bits .xor .u8 (nth l k) 90))).heap.size = w.heap.size) := by
        show _ = _
        rw [← hsz.out]; simp [World.setCell]
      go_wp2
      go_roundw
      case rel => exact ⟨k + 1, by omega, by go_num, hnew, hgr2, hsz2⟩
      case measure => simp [intOf]; omega
    · obtain rfl : k = c := by omega
      go_wp2
      go_end0
      exact ⟨rfl, hb.out, hgr, hsz.out⟩
/-- Rows that lie inside blocks of their own, each known whole (or nil), their slices in the array of block gl. -/
structure PartsK (w : World) (B gl m : Nat) (A : Nat → Option Addr) (n c : Nat → Nat) (p l r : Nat → List Int) : Prop where
  at_ : ∀ k, k < m → w.cell? ⟨gl, k, none⟩ = some (.slice (A k) (n k) (c k))
  size : ∀ k, k < m → n k ≤ c k ∧ (c k ≤ 9223372036854775807 ∧ n k ≤ 140737488355328) ∧ (l k).length = c k
  wf : ∀ k, k < m → ∀ x ∈ l k, (Lit.int .u8 x).wf = true
  lies : ∀ k, k < m → (A k = none ∧ n k = 0 ∧ c k = 0) ∨ ∃ g, A k = some ⟨g, (p k).length, none⟩ ∧ B ≤ g ∧ g ≠ gl ∧ w.heap[g]? = some (.cells (blk .u8 (p k ++ l k ++ r k)) 5 (0, 0))
  apart : ∀ i k, i < m → k < m → i ≠ k → ∀ g o q, A i = some ⟨g, o, none⟩ → A k ≠ some ⟨g, q, none⟩
  gl_lt : gl < w.heap.size

theorem PartsK.row {w : World} {B gl m : Nat} {A : Nat → Option Addr} {n c : Nat → Nat} {p l r : Nat → List Int} (h : PartsK w B gl m A n c p l r) {k : Nat} (hk : k < m) :
    Row .u8 w w.heap.size (A k) ((l k).take (n k)) ∧ ((l k).take (n k)).length = n k := by
  have hs := h.size k hk
  refine ⟨?_, by simp; omega⟩
  rcases h.lies k hk with ⟨ha, hn, hc⟩ | ⟨g, ha, _, _, hg⟩
  · rw [hn, List.take_zero]; exact Row.nil _ _ _ _
  · rw [ha]
    exact (Row.inside hg _ (fun x hx => h.wf k hk x (List.mem_of_mem_take hx)) (List.take_prefix _ _)).more (block_lt hg)
/-- A step that leaves all old blocks leaves the parts. -/
theorem PartsK.below {w w' : World} {B gl m : Nat} {A : Nat → Option Addr} {n c : Nat → Nat} {p l r : Nat → List Int} (h : PartsK w B gl m A n c p l r) (hb : Below w.heap.size w w') : PartsK w' B gl m A n c p l r where
  at_ := fun k hk => (hb.cell (p := ⟨gl, k, none⟩) h.gl_lt).trans (h.at_ k hk)
  size := h.size
  wf := h.wf
  lies := fun k hk => by
    rcases h.lies k hk with h0 | ⟨g, ha, hB, hne, hg⟩
    · exact .inl h0
    · exact .inr ⟨g, ha, hB, hne, (hb.block g (block_lt hg)).trans hg⟩
  apart := h.apart
  gl_lt := Nat.lt_of_lt_of_le h.gl_lt hb.size
/-- One part is written over. -/
theorem PartsK.spoil {w w' : World} {B gl m : Nat} {A : Nat → Option Addr} {n c : Nat → Nat} {p l r : Nat → List Int} (h : PartsK w B gl m A n c p l r) {i g : Nat} (hi : i < m) (ha : A i = some ⟨g, (p i).length, none⟩)
    (hg : w'.heap[g]? = some (.cells (blk .u8 (p i ++ spoil8 (c i) (l i) ++ r i)) 5 (0, 0))) (hgr : w.grownBy w' (some g)) : PartsK w' B gl m A n c p (fun k => if k = i then spoil8 (c i) (l i) else l k) r where
  at_ := fun k hk => by
    rcases h.lies i hi with ⟨h0, _⟩ | ⟨g', ha', _, hne, _⟩
    · rw [ha] at h0; cases h0
    · rw [ha] at ha'
      injection ha' with ha'
      injection ha' with ha'
      subst ha'
      exact (World.cell?_of_block (hgr.block gl h.gl_lt (fun e => hne (by injection e with e; exact e.symm)))).trans (h.at_ k hk)
  size := fun k hk => by
    have := h.size k hk
    refine ⟨this.1, this.2.1, ?_⟩
    split
    · rename_i e; subst e; rw [spoil8_length]; exact this.2.2
    · exact this.2.2
  wf := fun k hk => by
    show ∀ x ∈ (if k = i then spoil8 (c i) (l i) else l k), _
    split
    · exact spoil8_wf _ _ (h.wf i hi)
    · exact h.wf k hk
  lies := fun k hk => by
    by_cases e : k = i
    · subst e
      rcases h.lies k hi with ⟨h0, _⟩ | ⟨g', ha', hB, hne, _⟩
      · rw [ha] at h0; cases h0
      · rw [ha] at ha'
        injection ha' with ha'
        injection ha' with ha'
        subst ha'
        exact .inr ⟨g, ha, hB, hne, by rw [if_pos rfl]; exact hg⟩
    · rcases h.lies k hk with h0 | ⟨g', ha', hB, hne, hg'⟩
      · exact .inl h0
      · refine .inr ⟨g', ha', hB, hne, ?_⟩
        rw [if_neg e, hgr.block g' (block_lt hg') (fun e' => ?_)]
        · exact hg'
        · injection e' with e'
          subst e'
          exact h.apart k i hk hi e _ _ _ ha' ha
  apart := h.apart
  gl_lt := Nat.lt_of_lt_of_le h.gl_lt hgr.size

set_option maxHeartbeats 1000000 in
theorem apartK_u8 (gl m B : Nat) (A : Nat → Option Addr) (n c : Nat → Nat) (p l0 r : Nat → List Int) (w : World) (hP : PartsK w B gl m A n c p l0 r) (hB : B ≤ w.heap.size) (hm : m ≤ 1000) :
    Calls Try.prog 19 #[.slice (some ⟨gl, 0, none⟩) m m] w fun e w' => e = .returned (.bool true) ∧ Below B w w' := by
  go_enter Try.func19, Try.ntmps19
  go_wp2
  go_loopw [3, 4, 5] (fun i _ _ wr => ∃ (j : Nat) (l : Nat → List Int), j ≤ m ∧ i = .int .i64 j ∧ PartsK wr B gl m A n c p l r ∧ Below B w wr) (fun i _ _ _ => m - (intOf i).toNat)
  case atStart => exact ⟨0, l0, by omega, rfl, hP, Below.refl _ _⟩
  case round =>
    obtain ⟨i, l1, hi, rfl, hP1, hb1⟩ := hrel
    by_cases hlt : i < m
    · go_wp2
      obtain ⟨wo, hwo⟩ : ∃ wo : World, wo = wr := ⟨_, rfl⟩
      subst hwo
      go_loopw [4, 5] (fun k _ wr => ∃ (j : Nat) (l : Nat → List Int), j ≤ m ∧ k = .int .i64 j ∧ PartsK wr B gl m A n c p l r ∧ Below B w wr) (fun k _ _ => m - (intOf k).toNat)
      case atStart => exact ⟨0, l1, by omega, rfl, hP1, hb1⟩
      case round =>
        obtain ⟨k, l, hk, rfl, hP2, hb2⟩ := hrel
        by_cases hlk : k < m
        · by_cases hik : i = k
          · subst hik
            go_wp2
            go_roundw
            case rel => exact ⟨i + 1, l, by omega, by go_num, hP2, hb2⟩
            case measure => simp [intOf]; omega
          · have ht : ((i : Int) == (k : Int)) = false := by simp; omega
            have hck := hP2.at_ k hlk
            have hci := hP2.at_ i hlt
            obtain ⟨hrow, hrl⟩ := hP2.row hlk
            have hrl' := Lib.hid hrl
            clear hrl
            have hsk := hP2.size k hlk
            go_wp2_with fail
            refine (copy_u8 _ _ _ _ _ hrow hrl'.out (by omega)).mono ?_
            rintro e w1 ⟨v1, rfl, own1, bel1⟩
            have hP3 := hP2.below bel1
            have hb3 : Below B w w1 := hb2.trans (bel1.mono (Nat.le_trans hB hb2.size))
            have hck1 := hP3.at_ k hlk
            have hci1 := hP3.at_ i hlt
            have hwf := hrow.1
            rcases hP3.lies i hlt with ⟨hA, hN, hC⟩ | ⟨g, hA, hBg, hgl, hg⟩
            · rw [hA, hN, hC] at hci1
              clear hA hN hC hck hci hrow
              obtain ⟨A1, c1, rfl, row1, _, _⟩ := own1.row hwf
              rw [hrl'.out]
              obtain ⟨hrow3, hrl3⟩ := hP3.row hlk
              have hrl3' := Lib.hid hrl3
              clear hrl3
              go_wp2_with fail
              refine (spoil_nil _).mono ?_
              rintro e w' ⟨rfl, rfl⟩
              go_wp2_with fail
              refine (same_yes_u8 _ _ _ _ _ _ _ _ _ row1 hrow3 hrl3'.out (by omega)).mono ?_
              rintro e w' ⟨rfl, mq, rfl⟩
              have hP4 := hP3.below (w' := w1.drewN mq) ⟨rfl, rfl, rfl, Nat.le_refl _, fun _ _ => rfl⟩
              have hb4 : Below B w (w1.drewN mq) := hb3.trans ⟨rfl, rfl, rfl, Nat.le_refl _, fun _ _ => rfl⟩
              go_wp2
              go_roundw
              case rel => exact ⟨k + 1, l, by omega, by go_num, hP4, hb4⟩
              case measure => simp [intOf]; omega
            · have hsi := hP3.size i hlt
              have hglt : g < wr.heap.size := by
                rcases hP2.lies i hlt with ⟨h0, _⟩ | ⟨g', hA', _, _, hg'⟩
                · rw [hA] at h0; cases h0
                · rw [hA] at hA'
                  injection hA' with hA'
                  injection hA' with hA'
                  rw [hA']
                  exact block_lt hg'
              rw [hA] at hci1
              clear hck hci hrow
              have hsi3 := Lib.hid hsi.2.2
              go_wp2_with fail
              refine (spoilK_u8 g _ _ _ (p i) (l i) (r i) _ hg rfl hsi3.out hsi.1 hsi.2.1.1).mono ?_
              rintro e w2 ⟨rfl, hg2, hgr2, hsz2⟩
              have hP4 := hP3.spoil hlt hA hg2 hgr2
              have hb4 : Below B w w2 := hb3.grown hgr2 (Nat.le_trans hB hb3.size) (fun q e => by injection e; omega)
              have own2 := own1.kept hgr2 (by
                cases hv : v1.ownBlock with
                | none => exact .inl rfl
                | some q =>
                  refine .inr fun e => ?_
                  have h1 := (own1.block q hv).1
                  injection e with e
                  omega)
              have hck2 := hP4.at_ k hlk
              obtain ⟨hrow4, hrl4⟩ := hP4.row hlk
              simp only [if_neg (show ¬ k = i by omega)] at hrow4 hrl4
              have hrl4' := Lib.hid hrl4
              obtain ⟨A1, c1, rfl, row1, _, _⟩ := own2.row hwf
              rw [hrl'.out]
              clear hsz2 hrl4 hck1 hci1 hgr2 hg2 hg hA
              go_wp2_with fail
              refine (same_yes_u8 _ _ _ _ _ _ _ _ _ row1 hrow4 hrl4'.out (by omega)).mono ?_
              rintro e w' ⟨rfl, mq, rfl⟩
              have hP5 := hP4.below (w' := w2.drewN mq) ⟨rfl, rfl, rfl, Nat.le_refl _, fun _ _ => rfl⟩
              have hb5 : Below B w (w2.drewN mq) := hb4.trans ⟨rfl, rfl, rfl, Nat.le_refl _, fun _ _ => rfl⟩
              go_wp2
              go_roundw
              case rel => exact ⟨k + 1, _, by omega, by go_num, hP5, hb5⟩
              case measure => simp [intOf]; omega
        · go_wp2
          go_roundw
          case rel => exact ⟨i + 1, l, by omega, by go_num, hP2, hb2⟩
          case measure => simp [intOf]; omega
    · go_wp2
      go_ret
      exact ⟨rfl, hb1⟩

/-- A slice that is handed to ApartBytes: nil, or the beginning of a block that is known whole. -/
structure EntK where
  a : Option Nat
  p : List Int
  n : Nat
  c : Nat
  l : List Int
  r : List Int
def EntK.none_ : EntK := ⟨none, [], 0, 0, [], []⟩
def EntK.adr (e : EntK) : Option Addr := e.a.map fun g => ⟨g, e.p.length, none⟩
def EntK.val (e : EntK) : Value := .slice e.adr e.n e.c
structure EntK.Ok (w : World) (B : Nat) (e : EntK) : Prop where
  size : e.n ≤ e.c ∧ (e.c ≤ 9223372036854775807 ∧ e.n ≤ 140737488355328) ∧ e.l.length = e.c
  wf : ∀ x ∈ e.l, (Lit.int .u8 x).wf = true
  lies : (e.a = none ∧ e.n = 0 ∧ e.c = 0) ∨ ∃ g, e.a = some g ∧ B ≤ g ∧ w.heap[g]? = some (.cells (blk .u8 (e.p ++ e.l ++ e.r)) 5 (0, 0))
def EntK.Far (e e' : EntK) : Prop := ∀ g, e.a = some g → e'.a ≠ some g
theorem EntK.adr_some {e : EntK} {g o : Nat} (h : e.adr = some ⟨g, o, none⟩) : e.a = some g := by
  unfold EntK.adr at h
  cases ha : e.a with
  | none => rw [ha] at h; cases h
  | some q => rw [ha] at h; simp at h; rw [h.1]

theorem partsK_of_list (w : World) (B : Nat) (L : List EntK) (t : TypeId) (hok : ∀ e ∈ L, e.Ok w B) (hfar : L.Pairwise EntK.Far) :
    PartsK (w.alloc (.cells (L.map EntK.val).toArray t)) B w.heap.size L.length (fun k => (L.getD k EntK.none_).adr) (fun k => (L.getD k EntK.none_).n) (fun k => (L.getD k EntK.none_).c) (fun k => (L.getD k EntK.none_).p) (fun k => (L.getD k EntK.none_).l) (fun k => (L.getD k EntK.none_).r) where
  at_ := fun k hk => by
    rw [World.cell?_alloc_at _ _ _ _ rfl]
    simp [List.getElem?_eq_getElem hk, List.getD_eq_getElem?_getD, EntK.val]
  size := fun k hk => by
    simp only [List.getD_eq_getElem?_getD, List.getElem?_eq_getElem hk, Option.getD_some]
    exact (hok _ (List.getElem_mem hk)).size
  wf := fun k hk => by
    simp only [List.getD_eq_getElem?_getD, List.getElem?_eq_getElem hk, Option.getD_some]
    exact (hok _ (List.getElem_mem hk)).wf
  lies := fun k hk => by
    simp only [List.getD_eq_getElem?_getD, List.getElem?_eq_getElem hk, Option.getD_some]
    rcases (hok _ (List.getElem_mem hk)).lies with ⟨h1, h2⟩ | ⟨g, h1, h2, h3⟩
    · exact .inl ⟨by rw [EntK.adr, h1]; rfl, h2⟩
    · have := block_lt h3
      exact .inr ⟨g, by rw [EntK.adr, h1]; rfl, h2, by omega, (Below.heap_alloc w _ g this).trans h3⟩
  apart := fun i k hi hk hne g o q h1 h2 => by
    simp only [List.getD_eq_getElem?_getD, List.getElem?_eq_getElem hi, List.getElem?_eq_getElem hk, Option.getD_some] at h1 h2
    have h1 := EntK.adr_some h1
    have h2 := EntK.adr_some h2
    rcases Nat.lt_or_gt_of_ne hne with h | h
    · exact List.pairwise_iff_getElem.1 hfar i k hi hk h g h1 h2
    · exact List.pairwise_iff_getElem.1 hfar k i hk hi h g h2 h1
  gl_lt := by simp

theorem apartK_list_u8 (w : World) (B : Nat) (L : List EntK) (t : TypeId) (hok : ∀ e ∈ L, e.Ok w B) (hfar : L.Pairwise EntK.Far) (hB : B ≤ w.heap.size) (hm : L.length ≤ 1000) :
    Calls Try.prog 19 #[.slice (some ⟨w.heap.size, 0, none⟩) L.length L.length] (w.alloc (.cells (L.map EntK.val).toArray t)) fun e w' => e = .returned (.bool true) ∧ Below B w w' :=
  (apartK_u8 _ _ B _ _ _ _ _ _ _ (partsK_of_list w B L t hok hfar) (by simp; omega) hm).mono fun _ _ ⟨he, hb⟩ => ⟨he, ((Below.refl B w).alloc hB _).trans hb⟩
end Go.Proofs.Ytooelfmfcihlkaa
