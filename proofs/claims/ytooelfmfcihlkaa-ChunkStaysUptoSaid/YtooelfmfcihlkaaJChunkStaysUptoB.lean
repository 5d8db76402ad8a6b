/-
  The statement ChunkStays of outstationlaw13 holds in its narrowed form: for every input that can be read and whose bulk is at most 1048576, the call returns true, and each argument reads as it did.
-/
import Derived.Test.YtooelfmfcihlkaaJChunkStaysUptoA
import Derived.IntWalk
import Derived.Laws.AppendOwn
import Derived.Test.YtooelfmfcihlkaaRows
import Derived.JoinedCond
import Derived.Deep.CondSized
namespace Go.Proofs.Ytooelfmfcihlkaa
open Go.RowKit
set_option linter.unusedVariables false
set_option maxRecDepth 100000

theorem or_u8 (x y : Int) (hx : 0 ≤ x ∧ x < 256) (hy : 0 ≤ y ∧ y < 256) : bits .or .i64 (x * 256) y = x * 256 + y := by
  have orw : ∀ x y : Nat, y < 256 → (x * 256) ||| y = x * 256 + y := fun x y hy => by
    have h := Nat.two_pow_add_eq_or_of_lt (i := 8) (b := y) (by omega) x
    rw [Nat.mul_comm x 256]
    exact h.symm
  obtain ⟨a, rfl⟩ := Int.eq_ofNat_of_zero_le hx.1
  obtain ⟨b, rfl⟩ := Int.eq_ofNat_of_zero_le hy.1
  show IntKind.i64.wrap ((BitVec.ofInt 64 ((a : Int) * 256) ||| BitVec.ofInt 64 (b : Int)).toNat : Int) = _
  have e1 : (a : Int) * 256 = ((a * 256 : Nat) : Int) := by omega
  have f1 : (BitVec.ofInt 64 ((a * 256 : Nat) : Int)).toNat = a * 256 := by rw [BitVec.ofInt_natCast, BitVec.toNat_ofNat]; exact Nat.mod_eq_of_lt (by omega)
  have f2 : (BitVec.ofInt 64 ((b : Nat) : Int)).toNat = b := by rw [BitVec.ofInt_natCast, BitVec.toNat_ofNat]; exact Nat.mod_eq_of_lt (by omega)
  rw [e1, BitVec.toNat_or, f1, f2, orw a b (by omega)]
  exact IntWalk.i64_in _ (by omega)
/-- What bytes say, case by case. -/
theorem ckE_1 {b : List Int} (h : b.length < 6) : ckE b = 1 := if_pos h
theorem ckE_2 {b : List Int} (h : ¬ b.length < 6) (h2 : 1024 < ckN b) : ckE b = 2 := by unfold ckE; rw [if_neg h, if_pos h2]
theorem ckE_3 {b : List Int} (h : ¬ b.length < 6) (h2 : ¬ 1024 < ckN b) (h3 : b.length < 6 + ckN b) : ckE b = 1 := by unfold ckE; rw [if_neg h, if_neg h2, if_pos h3]
theorem ckE_4 {b : List Int} (h : ¬ b.length < 6) (h2 : ¬ 1024 < ckN b) (h3 : ¬ b.length < 6 + ckN b) (h4 : (b.drop 2).take 4 = be4 (ckS (ckP b))) : ckE b = 0 := by unfold ckE; rw [if_neg h, if_neg h2, if_neg h3, if_pos h4]
theorem ckE_5 {b : List Int} (h : ¬ b.length < 6) (h2 : ¬ 1024 < ckN b) (h3 : ¬ b.length < 6 + ckN b) (h4 : ¬ (b.drop 2).take 4 = be4 (ckS (ckP b))) : ckE b = 5 := by unfold ckE; rw [if_neg h, if_neg h2, if_neg h3, if_neg h4]
theorem ckG_no {b : List Int} (h : ¬ ckE b = 0) : ckG b = [] := if_neg h
theorem ckM_no {b : List Int} (h : ¬ ckE b = 0) : ckM b = 0 := if_neg h
theorem ckG_yes {b : List Int} (h : ckE b = 0) : ckG b = ckP b := if_pos h
theorem ckM_yes {b : List Int} (h : ckE b = 0) : ckM b = 6 + ckN b := if_pos h
theorem ckP_has {b : List Int} (h3 : 6 + ckN b ≤ b.length) : (ckP b).length = ckN b := by
  unfold ckP
  rw [List.length_take, List.length_drop]
  omega
/-- The head that bytes begin with is right just if their sum is. -/
theorem ck_head {b : List Int} (hb : ∀ x ∈ b, (Lit.int .u8 x).wf = true) (h1 : 6 ≤ b.length) (h3 : 6 + ckN b ≤ b.length) : b.take 6 = ckH (ckP b).length ++ be4 (ckS (ckP b)) ↔ (b.drop 2).take 4 = be4 (ckS (ckP b)) := by
  rw [ckP_has h3]
  generalize be4 (ckS (ckP b)) = z
  match b, h1, hb with
  | b0 :: b1 :: t, h1, hb =>
    have w0 := wf_u8 (hb b0 (by simp))
    have w1 := wf_u8 (hb b1 (by simp))
    have hn : ckN (b0 :: b1 :: t) = b0.toNat * 256 + b1.toNat := rfl
    have e0 : (((b0.toNat * 256 + b1.toNat) / 256 : Nat) : Int) = b0 := by omega
    have e1 : (((b0.toNat * 256 + b1.toNat) % 256 : Nat) : Int) = b1 := by omega
    have hH : ckH (ckN (b0 :: b1 :: t)) = [b0, b1] := by rw [hn]; unfold ckH; rw [e0, e1]
    rw [hH]
    simp
theorem ckE_small (b : List Int) : 0 ≤ ckE b ∧ ckE b ≤ 5 := by
  unfold ckE
  repeat' split
  all_goals omega
theorem ckM_le (b : List Int) : ckM b ≤ b.length := by
  by_cases h : ckE b = 0
  · rw [ckM_yes h]; exact (ckE_zero.1 h).2.2.1
  · rw [ckM_no h]; exact Nat.zero_le _
theorem ckG_len (b : List Int) : (ckG b).length ≤ 1024 := by
  by_cases h : ckE b = 0
  · rw [ckG_yes h, ckP_len h]; exact (ckE_zero.1 h).2.1
  · rw [ckG_no h]; simp
theorem ckG_wf {b : List Int} (hb : ∀ x ∈ b, (Lit.int .u8 x).wf = true) : ∀ x ∈ ckG b, (Lit.int .u8 x).wf = true := by
  by_cases h : ckE b = 0
  · rw [ckG_yes h]; intro x hx; exact hb x (List.mem_of_mem_drop (List.mem_of_mem_take hx))
  · rw [ckG_no h]; intro x hx; cases hx

/-- A call returns the payload, in a list of its own, known whole, how many bytes the chunk has, and an error. -/
def ChGot (w : World) (b : List Int) (e : Ending) (w' : World) : Prop := ∃ v, e = .returned (.tuple #[v, .int .i64 (ckM b : Nat), .int .i64 (ckE b)]) ∧ KOwn .u8 5 w' w.heap.size v (ckG b) ∧ Below w.heap.size w w'
theorem ChGot.none_ {w w' : World} {b : List Int} {E : Int} (h : ckE b = E) (h0 : E ≠ 0) (hb : Below w.heap.size w w') : ChGot w b (.returned (.tuple #[.slice none 0 0, .int .i64 0, .int .i64 E])) w' := by
  have hn : ¬ ckE b = 0 := by rw [h]; exact h0
  exact ⟨_, by rw [ckM_no hn, h]; rfl, by rw [ckG_no hn]; exact KOwn.nil _ _ _ _, hb⟩
theorem bel_dn (w : World) (m : Nat) : Below w.heap.size w (w.drewN m) := ⟨rfl, rfl, rfl, Nat.le_refl _, fun _ _ => rfl⟩

set_option maxHeartbeats 2000000 in
theorem chGet_any (A : Option Addr) (n c : Nat) (b : List Int) (w : World) (hr : Row .u8 w w.heap.size A b) (hn : b.length = n) (hc : n ≤ c) (hm : n ≤ 140737488355328) :
    Calls Try.prog 13 #[.slice A n c] w (ChGot w b) := by
  by_cases h6 : n < 6
  · have HE : Hid (ckE b = 1) := Lib.hid (ckE_1 (by omega))
    have i1 : (n : Int) < 6 := by omega
    clear hr hn
    go_enter Try.func13, Try.ntmps13
    go_wp2
    go_ret3
    exact ChGot.none_ HE.out (by decide) (Below.refl _ _)
  · obtain ⟨b0, o0, rfl, _, c0⟩ := hr.at_ (i := 0) (by omega)
    obtain ⟨b1, o1, e1, _, c1⟩ := hr.at_ (i := 1) (by omega)
    injection e1 with e1
    injection e1 with e11 e12
    subst e11 e12
    have x0 := wf_u8 (hr.wf_at (i := 0) (by omega))
    have x1 := wf_u8 (hr.wf_at (i := 1) (by omega))
    have hor := or_u8 _ _ x0 x1
    have hN : nth b 0 * 256 + nth b 1 = ((ckN b : Nat) : Int) := by unfold ckN; omega
    rw [hN] at hor
    have hNb : ckN b < 65536 := by omega
    rw [Nat.add_zero] at c0
    have HR := Lib.hid hr
    have HN := Lib.hid hn
    obtain ⟨N, hNN⟩ : ∃ N, Hid (ckN b = N) := ⟨_, Lib.hid rfl⟩
    rw [hNN.out] at hor hNb
    clear hN
    generalize nth b 0 = x at *
    generalize nth b 1 = y at *
    have ew : IntKind.i64.wrap (x * 256) = x * 256 := IntWalk.i64_in _ (by omega)
    have t0 : (0 : Int) < (n : Int) := by omega
    have t1 : (1 : Int) < (n : Int) := by omega
    have t6 : ¬ (n : Int) < 6 := by omega
    clear hr hn
    by_cases hbig : 1024 < N
    · have HE : Hid (ckE b = 2) := Lib.hid (ckE_2 (by rw [HN.out]; exact h6) (by rw [hNN.out]; exact hbig))
      have i2 : (N : Int) > 1024 := by omega
      go_enter Try.func13, Try.ntmps13
      go_wp2
      go_quiet (fail)
      go_wp2
      go_ret3
      exact ChGot.none_ HE.out (by decide) (bel_dn _ _)
    by_cases hsh : n < 6 + N
    · have HE : Hid (ckE b = 1) := Lib.hid (ckE_3 (by rw [HN.out]; exact h6) (by rw [hNN.out]; exact hbig) (by rw [HN.out, hNN.out]; exact hsh))
      have i2 : ¬ (N : Int) > 1024 := by omega
      have i3 : (n : Int) < 6 + (N : Int) := by omega
      go_enter Try.func13, Try.ntmps13
      go_wp2
      go_quiet (fail)
      go_wp2
      go_ret3
      exact ChGot.none_ HE.out (by decide) (bel_dn _ _)
    have i2 : ¬ (N : Int) > 1024 := by omega
    have i3 : ¬ (n : Int) < 6 + (N : Int) := by omega
    have j1 : (6 : Int) ≤ 6 + (N : Int) := by omega
    have j2 : (6 : Int) + (N : Int) ≤ (c : Int) := by omega
    have j3 : 6 + N ≤ c := by omega
    have j4 : ((6 : Int) + (N : Int)).toNat = 6 + N := by omega
    have j5 : (6 : Int) ≤ (c : Int) := by omega
    have hpl : Hid ((ckP b).length = N) := Lib.hid (by rw [ckP_has (by rw [hNN.out, HN.out]; omega), hNN.out])
    have hh := ck_head HR.out.1 (by rw [HN.out]; omega) (by rw [hNN.out, HN.out]; omega)
    have HP : Hid (Row .u8 w w.heap.size (some ⟨b0, o0 + 6, none⟩) (ckP b)) := Lib.hid (by have := (HR.out.drop 6).front N; rw [← hNN.out] at this; exact this)
    have HT : Hid (Row .u8 w w.heap.size (some ⟨b0, o0, none⟩) (b.take 6)) := Lib.hid (HR.out.front 6)
    have HTL : Hid ((b.take 6).length = 6) := Lib.hid (by rw [List.length_take, HN.out]; omega)
    obtain ⟨P, hP⟩ : ∃ P, Hid (ckP b = P) := ⟨_, Lib.hid rfl⟩
    obtain ⟨T, hT⟩ : ∃ T, Hid (b.take 6 = T) := ⟨_, Lib.hid rfl⟩
    rw [hP.out] at hpl hh HP
    rw [hT.out] at hh HT HTL
    have HHL : Hid ((ckH P.length ++ be4 (ckS P)).length = 6) := Lib.hid (by simp [ckH, be4])
    have HHW : Hid (∀ x ∈ ckH P.length ++ be4 (ckS P), (Lit.int .u8 x).wf = true) := Lib.hid (wf_append (ckH_wf (by rw [hpl.out]; omega)) (be4_wf _))
    have k1 : Hid (¬ b.length < 6) := Lib.hid (by rw [HN.out]; exact h6)
    have k2 : Hid (¬ 1024 < ckN b) := Lib.hid (by rw [hNN.out]; exact hbig)
    have k3 : Hid (¬ b.length < 6 + ckN b) := Lib.hid (by rw [HN.out, hNN.out]; exact hsh)
    have HHd : Hid (∀ q ad cc, (0 < N → ad = some ⟨b0, o0 + 6, none⟩) → Calls Try.prog 25 #[.slice ad N cc] (w.drewN q) fun e w' => e = .returned (.slice (some ⟨w.heap.size, 0, none⟩) 6 6) ∧ Below w.heap.size w w' ∧ (∀ cc', Calls Try.prog 28 #[.slice (some ⟨b0, o0, none⟩) 6 cc', .slice (some ⟨w.heap.size, 0, none⟩) 6 6] w' fun e w'' => e = .returned (.bool (decide (T = ckH P.length ++ be4 (ckS P)))) ∧ w' = w'')) := Lib.hid (fun q ad cc had => by
      have hrow : Row .u8 (w.drewN q) (w.drewN q).heap.size ad P := by
        rcases Nat.eq_zero_or_pos N with h0 | h0
        · have : P = [] := List.eq_nil_of_length_eq_zero (by rw [hpl.out]; exact h0)
          rw [this]; exact Row.nil _ _ _ _
        · rw [had h0]; exact HP.out.drewN q
      refine (head_any ad N cc P _ hrow hpl.out (by omega)).mono fun e w1 ⟨he, hg, hb⟩ => ?_
      have hbel : Below w.heap.size w w1 := (bel_dn w q).trans hb
      refine ⟨he, hbel, fun cc' => ?_⟩
      have hT1 := HT.out.below hbel
      have hH1 := Row.of_block hg _ HHW.out (List.prefix_refl _)
      by_cases heq : T = ckH P.length ++ be4 (ckS P)
      · rw [decide_eq_true heq]
        rw [← heq] at hH1
        exact equal_yes _ _ _ _ _ _ T _ _ _ hT1 hH1 HTL.out HTL.out
      · rw [decide_eq_false heq]
        exact equal_no _ _ _ _ _ _ T _ _ _ _ hT1 hH1 HTL.out HHL.out heq)
    have HCl : Hid (∀ w1 ad cc, (0 < N → ad = some ⟨b0, o0 + 6, none⟩) → Below w.heap.size w w1 → Calls Try.prog 29 #[.slice ad N cc] w1 fun e w' => ∃ v, e = .returned v ∧ KOwn .u8 5 w' w.heap.size v P ∧ Below w.heap.size w w') := Lib.hid (fun w1 ad cc had hb => by
      have hrow : Row .u8 w1 w1.heap.size ad P := by
        rcases Nat.eq_zero_or_pos N with h0 | h0
        · have : P = [] := List.eq_nil_of_length_eq_zero (by rw [hpl.out]; exact h0)
          rw [this]; exact Row.nil _ _ _ _
        · rw [had h0]; exact (HP.out.below hb).more hb.size
      refine (clone_any ad N cc P w1 hrow hpl.out (by omega)).mono fun e w2 ⟨v, he, hk, hb2⟩ => ⟨v, he, hk.mono hb.size, hb.trans (hb2.mono hb.size)⟩)
    by_cases heq : T = ckH P.length ++ be4 (ckS P)
    · have HE : Hid (ckE b = 0) := Lib.hid (ckE_4 k1.out k2.out k3.out (by rw [hP.out]; exact hh.1 heq))
      have HD : Hid (decide (T = ckH P.length ++ be4 (ckS P)) = true) := Lib.hid (decide_eq_true heq)
      rw [HD.out] at HHd
      clear heq hh HR HT HP HTL HHL HHW k1 k2 k3 HD hT
      have HM : Hid (∀ v : Value, (Ending.returned (.tuple #[v, .int .i64 (6 + (N : Int)), .int .i64 0])) = .returned (.tuple #[v, .int .i64 (ckM b : Nat), .int .i64 (ckE b)])) := Lib.hid (fun v => by rw [ckM_yes HE.out, HE.out, hNN.out]; rfl)
      have HG : Hid (ckG b = P) := Lib.hid (by rw [ckG_yes HE.out, hP.out])
      by_cases hc6 : c = 6
      all_goals
        (go_enter Try.func13, Try.ntmps13
         go_wp2
         go_quiet (fail)
         go_wp2
         go_region_with (first
           | (go_at_call 25; refine (HHd.out _ _ _ (fun h => by first | rfl | omega)).mono ?_; rintro e w1 ⟨rfl, hb1, heq⟩)
           | (go_at_call 28; refine (heq _).mono ?_; rintro e w2 ⟨rfl, rfl⟩))
         go_wp2_with (go_at_call 29; refine (HCl.out _ _ _ (fun h => by first | rfl | omega) hb1).mono ?_; rintro e w3 ⟨v3, rfl, hk3, hb3⟩)
         go_ret3
         exact ⟨v3, HM.out v3, by rw [HG.out]; exact hk3, hb3⟩)
    · have HE : Hid (ckE b = 5) := Lib.hid (ckE_5 k1.out k2.out k3.out (by rw [hP.out]; exact fun h => heq (hh.2 h)))
      have HD : Hid (decide (T = ckH P.length ++ be4 (ckS P)) = false) := Lib.hid (decide_eq_false heq)
      rw [HD.out] at HHd
      clear heq hh HR HT HP HTL HHL HHW k1 k2 k3 HD hT HCl
      by_cases hc6 : c = 6
      all_goals
        (go_enter Try.func13, Try.ntmps13
         go_wp2
         go_quiet (fail)
         go_wp2
         go_region_with (first
           | (go_at_call 25; refine (HHd.out _ _ _ (fun h => by first | rfl | omega)).mono ?_; rintro e w1 ⟨rfl, hb1, heq⟩)
           | (go_at_call 28; refine (heq _).mono ?_; rintro e w2 ⟨rfl, rfl⟩))
         go_wp2
         go_ret3
         exact ChGot.none_ HE.out (by decide) hb1)
end Go.Proofs.Ytooelfmfcihlkaa
namespace Go.Proofs.Ytooelfmfcihlkaa
open Go.RowKit
set_option linter.unusedVariables false
set_option maxRecDepth 100000

theorem info_l8 : (Try.prog.info? 22).map (fun i => (i.zero, i.size, i.bytes)) = some (some (.slice none 0 0), 1, 24) := by kernel_rfl
/-- The i-th list, behind a name that the walk's simp does not open. -/
def nthB (l : List (List Int)) (i : Nat) : List Int := l.getD i []
theorem nthB_eq (l : List (List Int)) (i : Nat) (h : i < l.length) : nthB l i = l[i] := by simp [nthB, List.getD_eq_getElem?_getD, List.getElem?_eq_getElem h]
theorem nthB_mem (l : List (List Int)) (i : Nat) (h : i < l.length) : nthB l i ∈ l := by rw [nthB_eq l i h]; exact List.getElem_mem h
theorem takeB_step (l : List (List Int)) (i : Nat) (h : i < l.length) : l.take (i + 1) = l.take i ++ [nthB l i] := by
  rw [List.take_succ_eq_append_getElem h, nthB_eq l i h]
/-- A slice at A that reads as the lists ls. -/
def BRow (w : World) (B : Nat) (A : Option Addr) (ls : List (List Int)) : Prop :=
  0 < ls.length → ∃ b o, A = some ⟨b, o, none⟩ ∧ b < B ∧ ∀ i, i < ls.length → ∃ Ai ci, w.cell? ⟨b, o + i, none⟩ = some (.slice Ai (nthB ls i).length ci) ∧ Row .u8 w B Ai (nthB ls i) ∧ (nthB ls i).length ≤ ci ∧ ci ≤ maxLen
theorem BRow.nil (w : World) (B : Nat) (A : Option Addr) : BRow w B A [] := fun h => absurd h (by simp)
theorem BRow.below {w w' : World} {B : Nat} {A : Option Addr} {ls : List (List Int)} (h : BRow w B A ls) (hb : Below B w w') : BRow w' B A ls := fun h0 => by
  obtain ⟨b, o, e, hlt, hc⟩ := h h0
  refine ⟨b, o, e, hlt, fun i hi => ?_⟩
  obtain ⟨Ai, ci, h1, h2, h3⟩ := hc i hi
  exact ⟨Ai, ci, (hb.cell (p := ⟨b, o + i, none⟩) hlt).trans h1, h2.below hb, h3⟩
theorem BRow.more {w : World} {B B' : Nat} {A : Option Addr} {ls : List (List Int)} (h : BRow w B A ls) (hB : B ≤ B') : BRow w B' A ls := fun h0 => by
  obtain ⟨b, o, e, hlt, hc⟩ := h h0
  refine ⟨b, o, e, by omega, fun i hi => ?_⟩
  obtain ⟨Ai, ci, h1, h2, h3⟩ := hc i hi
  exact ⟨Ai, ci, h1, h2.more hB, h3⟩
theorem BRow.drewN {w : World} {B : Nat} {A : Option Addr} {ls : List (List Int)} (h : BRow w B A ls) (n : Nat) : BRow (w.drewN n) B A ls := h
theorem BRow.at_ {w : World} {B : Nat} {A : Option Addr} {ls : List (List Int)} (h : BRow w B A ls) {i : Nat} (hi : i < ls.length) :
    ∃ b o Ai ci, A = some ⟨b, o, none⟩ ∧ b < B ∧ w.cell? ⟨b, o + i, none⟩ = some (.slice Ai (nthB ls i).length ci) ∧ Row .u8 w B Ai (nthB ls i) ∧ (nthB ls i).length ≤ ci ∧ ci ≤ maxLen := by
  obtain ⟨b, o, hA, hb, hc⟩ := h (by omega)
  obtain ⟨Ai, ci, h1, h2, h3⟩ := hc i hi
  exact ⟨b, o, Ai, ci, hA, hb, h1, h2, h3⟩
theorem BRow.wf {w : World} {B : Nat} {A : Option Addr} {ls : List (List Int)} (h : BRow w B A ls) : ∀ xs ∈ ls, ∀ x ∈ xs, (Lit.int .u8 x).wf = true := by
  intro xs hxs
  obtain ⟨i, hi, rfl⟩ := List.mem_iff_getElem.1 hxs
  obtain ⟨b, o, _, _, hc⟩ := h (by omega)
  obtain ⟨Ai, ci, _, h2, _⟩ := hc i hi
  rw [nthB_eq ls i hi] at h2
  exact h2.1
/-- A beginning of a list of lists. -/
theorem BRow.front {w : World} {B : Nat} {A : Option Addr} {ls : List (List Int)} (h : BRow w B A ls) (m : Nat) : BRow w B A (ls.take m) := fun h0 => by
  rw [List.length_take] at h0
  obtain ⟨b, o, e, hlt, hc⟩ := h (by omega)
  refine ⟨b, o, e, hlt, fun i hi => ?_⟩
  rw [List.length_take] at hi
  have he : nthB (ls.take m) i = nthB ls i := by
    rw [nthB_eq _ _ (by rw [List.length_take]; omega), nthB_eq _ _ (by omega), List.getElem_take]
  rw [he]
  exact hc i (by omega)

/-- The slice v owns the lists ls, each of which is a slice of the call's own whose block is known whole. -/
def LOwn (w : World) (base : Nat) (v : Value) (ls : List (List Int)) : Prop :=
  ∃ L : List (List Int × Value), L.map Prod.fst = ls ∧ w.ownsRow base 22 1 v L.length (L.map Prod.snd) ∧ ∀ p ∈ L, KOwn .u8 5 w base p.2 p.1
theorem LOwn.nil (w : World) (base : Nat) : LOwn w base (.slice none 0 0) [] := ⟨[], rfl, World.ownsRow_nil _ _ _ _, fun p hp => by cases hp⟩
theorem rowL_below {w w' : World} {base B n : Nat} {v : Value} {xs : List Value} (h : w.ownsRow base 22 1 v n xs) (hb : Below B w w') (hB : w.heap.size ≤ B) : w'.ownsRow base 22 1 v n xs := by
  refine h.kept (row := none) ⟨hb.os, hb.tape, hb.output, hb.size, fun i hi _ => hb.block i (by omega)⟩ ?_
  cases hv : v.ownBlock with
  | none => exact .inl rfl
  | some g => exact .inr (by simp)
theorem LOwn.below {w w' : World} {base B : Nat} {v : Value} {ls : List (List Int)} (h : LOwn w base v ls) (hb : Below B w w') (hB : w.heap.size ≤ B) : LOwn w' base v ls := by
  obtain ⟨L, h1, h2, h3⟩ := h
  exact ⟨L, h1, rowL_below h2 hb hB, fun p hp => (h3 p hp).below hb hB⟩
theorem LOwn.drewN {w : World} {base : Nat} {v : Value} {ls : List (List Int)} (h : LOwn w base v ls) (n : Nat) : LOwn (w.drewN n) base v ls := h
theorem LOwn.alloc {w : World} {base : Nat} {v : Value} {ls : List (List Int)} (h : LOwn w base v ls) (o : Obj) : LOwn (w.alloc o) base v ls := h.below ((Below.refl _ _).alloc (Nat.le_refl _) o) (Nat.le_refl _)
theorem LOwn.mono {w : World} {base base' : Nat} {v : Value} {ls : List (List Int)} (h : LOwn w base v ls) (hb : base' ≤ base) : LOwn w base' v ls := by
  obtain ⟨L, h1, h2, h3⟩ := h
  refine ⟨L, h1, ⟨h2.1, ?_⟩, fun p hp => (h3 p hp).mono hb⟩
  rcases h2.2 with h0 | ⟨g, cap, cur, hv, h1, r⟩
  · exact .inl h0
  · exact .inr ⟨g, cap, cur, hv, by omega, r⟩
theorem LOwn.block {w : World} {base : Nat} {v : Value} {ls : List (List Int)} (h : LOwn w base v ls) : ∀ g, v.ownBlock = some g → base ≤ g ∧ g < w.heap.size := by
  obtain ⟨L, h1, h2, h3⟩ := h
  exact World.ownsRow.lt h2
/-- The block of a list of lists is none of its lists' own. -/
theorem list8_far {w : World} {base base' : Nat} {v u : Value} {n : Nat} {xs : List Value} {ys : List Int} (h : w.ownsRow base 22 1 v n xs) (k : KOwn .u8 5 w base' u ys) : u.ownBlock = none ∨ u.ownBlock ≠ v.ownBlock := by
  rcases k with ⟨rfl, _⟩ | ⟨g, m, cap, r, rfl, _, _, hg, _⟩
  · exact .inl rfl
  · refine .inr fun e => ?_
    rcases h.2 with ⟨rfl, _⟩ | ⟨g', cap', cur, rfl, _, hg', _⟩
    · cases e
    · have e : some g = some g' := e
      injection e with e
      subst e
      rw [hg] at hg'
      injection hg' with hg'
      injection hg' with _ ht
      exact absurd ht (by decide)
theorem LOwn.len {w : World} {base : Nat} {v : Value} {ls : List (List Int)} (h : LOwn w base v ls) : ∃ A c, v = .slice A ls.length c ∧ ls.length ≤ c ∧ c ≤ maxLen := by
  obtain ⟨L, rfl, h2, h3⟩ := h
  rw [List.length_map]
  rcases h2.2 with ⟨rfl, h0⟩ | ⟨g, cap, cur, rfl, _, _, h4, h5, _⟩
  · rw [h0]; exact ⟨none, 0, rfl, Nat.le_refl _, Nat.zero_le _⟩
  · exact ⟨_, cap, rfl, h4, h5⟩
/-- One list of such a list. -/
theorem LOwn.at_ {w : World} {base : Nat} {A : Option Addr} {n c : Nat} {ls : List (List Int)} (h : LOwn w base (.slice A n c) ls) {i : Nat} (hi : i < ls.length) :
    ∃ g u, A = some ⟨g, 0, none⟩ ∧ base ≤ g ∧ g < w.heap.size ∧ w.cell? ⟨g, i, none⟩ = some u ∧ KOwn .u8 5 w base u (nthB ls i) ∧ ∃ cs, w.heap[g]? = some (.cells cs 22 (0, 0)) := by
  obtain ⟨L, rfl, h2, h3⟩ := h
  rw [List.length_map] at hi
  rcases h2.2 with ⟨e, h9⟩ | ⟨g, cap, cur, e, hb, hg, h4, h5, h6, h7⟩
  · omega
  · injection e with e1 e2 e3
    subst e1 e2 e3
    refine ⟨g, (L[i]).2, rfl, hb, block_lt hg, ?_, ?_, _, hg⟩
    · rw [cell_of_row w g i cur _ _ hg, ← Array.getElem?_toList]
      have : (cur.toList.take (L.length * 1))[i]? = (L.map Prod.snd)[i]? := by rw [h7]
      rw [List.getElem?_take_of_lt (by omega)] at this
      rw [this, List.getElem?_map, List.getElem?_eq_getElem hi]
      rfl
    · have hf : nthB (L.map Prod.fst) i = (L[i]).1 := by rw [nthB_eq _ _ (by simpa using hi)]; simp
      rw [hf]
      exact h3 _ (List.getElem_mem hi)
/-- As a list of lists that is read. -/
theorem LOwn.brow {w : World} {base : Nat} {A : Option Addr} {n c : Nat} {ls : List (List Int)} (h : LOwn w base (.slice A n c) ls) (hw : ∀ xs ∈ ls, ∀ x ∈ xs, (Lit.int .u8 x).wf = true) : BRow w w.heap.size A ls := by
  intro h0
  obtain ⟨g, _, rfl, _, hg, _⟩ := h.at_ h0
  refine ⟨g, 0, rfl, hg, fun i hi => ?_⟩
  obtain ⟨g', u, e, _, _, hc, hk, _⟩ := h.at_ hi
  injection e with e
  injection e with e
  subst e
  obtain ⟨Ai, ci, rfl, hr, h1, h2⟩ := hk.row (hw _ (nthB_mem _ _ hi))
  exact ⟨Ai, ci, by rw [Nat.zero_add]; exact hc, hr, h1, h2⟩
theorem Below.lown {w0 w w' : World} {base B : Nat} {v : Value} {ls : List (List Int)} (hb : Below B w0 w) (hB : B ≤ w.heap.size) (h : LOwn w base v ls) (hBB : B ≤ base) (hg : w.grownBy w' v.ownBlock) : Below B w0 w' :=
  hb.grown hg hB fun g e => Nat.le_trans hBB (h.block g e).1

section
variable {P : Program}
/-- 'append(v, xs)' of a list of bytes in a box. -/
theorem wpList_append_l8 {ops : Array Oper} {rest : List Oper} {o : Oper} {a : Act} {Q : Exit → Act → World → Prop} (w : World) (hgd : o.guard = none) (s x : Operand) (t : TypeId)
    (ho : o.op = .call { callee := .builtin .append, args := #[s, x], argTypes := #[t, t] }) (base : Nat) (ht : P.underlying t = some (.slice 22)) (hi : (P.info? 22).map (fun i => (i.zero, i.size, i.bytes)) = some (some (.slice none 0 0), 1, 24))
    (v : Value) (ls : List (List Int)) (hs : a.eval s = v) (hown : LOwn w base v ls) (ad : Addr) (c : Nat) (xs : List Int) (A : Option Addr) (m cc : Nat) (hx : a.eval x = .slice (some ad) 1 c)
    (hk : KOwn .u8 5 w base (.slice A m cc) xs) (hnews : ∀ j u, [Value.slice A m cc][j]? = some u → w.cell? (ad.add j) = some u) (hb : ls.length ≤ 1073741824) (hbase : base ≤ w.heap.size)
    (h : ∀ v' w', LOwn w' base v' (ls ++ [xs]) → w.grownBy w' v.ownBlock → wpList P ops Q rest (a.put o.dst v') w') : wpList P ops Q (o :: rest) a w := by
  obtain ⟨i, hi1, hz, hsz, hby⟩ := info_parts hi
  obtain ⟨L, rfl, h2, h3⟩ := hown
  rw [List.length_map] at hb
  refine wpList_append_own w hgd s x t ho base 22 i _ 1 24 ht hi1 hz hsz hby rfl (by omega) v L.length (L.map Prod.snd) hs h2 ad 1 c [.slice A m cc] hx rfl hnews (by simp [Value.oneCell']) (by simp only [maxLen]; omega) (by omega) hbase fun v' w' h4 h5 _ => h v' w' ?_ h5
  refine ⟨L ++ [(xs, .slice A m cc)], by simp, ?_, fun p hp => ?_⟩
  · rw [List.map_append, List.length_append]
    exact h4
  · rcases List.mem_append.1 hp with hp | hp
    · exact (h3 p hp).kept h5 (list8_far h2 (h3 p hp))
    · simp only [List.mem_singleton] at hp
      subst hp
      exact hk.kept h5 (list8_far h2 hk)
end
/-- The cell of a list in a new box. -/
theorem box_l8 (w : World) (t : TypeId) (x : Value) : ∀ j u, [x][j]? = some u → (w.alloc (.cells #[x] t)).cell? ((⟨w.heap.size, 0, none⟩ : Addr).add j) = some u := by
  intro j u hu
  rw [Go.WideShapes.add_plain, Nat.zero_add, World.cell?_alloc_at _ _ _ _ rfl]
  simpa using hu
end Go.Proofs.Ytooelfmfcihlkaa
namespace Go.Proofs.Ytooelfmfcihlkaa
open Go.RowKit
set_option linter.unusedVariables false
set_option maxRecDepth 100000

/-- What is scanned of bytes, as far as it goes. -/
def ckScan (b : List Int) : List (List Int) × Nat := ckSc (b.length + 1) b
/-- What is scanned so far. -/
def ScPre (b : List Int) (ls : List (List Int)) (k : Nat) : Prop := 6 * ls.length ≤ k ∧ ∀ f, ckSc (f + ls.length) b = (ls ++ (ckSc f (b.drop k)).1, k + (ckSc f (b.drop k)).2)
theorem ScPre.zero (b : List Int) : ScPre b [] 0 := ⟨by simp, fun f => by simp⟩
theorem ScPre.step {b : List Int} {ls : List (List Int)} {k : Nat} (h : ScPre b ls k) (h0 : ckE (b.drop k) = 0) : ScPre b (ls ++ [ckG (b.drop k)]) (k + ckM (b.drop k)) := by
  rw [ckG_yes h0, ckM_yes h0]
  refine ⟨by have := h.1; simp; omega, fun f => ?_⟩
  have h2 := h.2 (f + 1)
  rw [show f + (ls ++ [ckP (b.drop k)]).length = f + 1 + ls.length by simp; omega, h2]
  rw [ckSc, if_pos h0, List.drop_drop]
  simp [Nat.add_assoc]
theorem ScPre.stop {b : List Int} {ls : List (List Int)} {k : Nat} (h : ScPre b ls k) (hk : k ≤ b.length) (h0 : ckE (b.drop k) ≠ 0) : ckScan b = (ls, k) := by
  have h2 := h.2 (b.length + 1 - ls.length)
  rw [show b.length + 1 - ls.length + ls.length = b.length + 1 by have := h.1; omega] at h2
  unfold ckScan
  rw [h2, show b.length + 1 - ls.length = (b.length - ls.length) + 1 by have := h.1; omega, ckSc, if_neg h0]
  simp
/-- A call returns what is scanned. -/
def ChScans (w : World) (b : List Int) (e : Ending) (w' : World) : Prop :=
  ∃ v, e = .returned (.tuple #[v, .int .i64 ((ckScan b).2 : Nat)]) ∧ LOwn w' w.heap.size v (ckScan b).1 ∧ Below w.heap.size w w'
theorem ChScans.of {w w' : World} {b : List Int} {v : Value} {ls : List (List Int)} {k : Nat} (h : ckScan b = (ls, k)) (h1 : LOwn w' w.heap.size v ls) (h2 : Below w.heap.size w w') : ChScans w b (.returned (.tuple #[v, .int .i64 (k : Nat)])) w' := by
  unfold ChScans
  rw [h]
  exact ⟨v, rfl, h1, h2⟩
/-- Get of what is left. -/
theorem chGet_left (A : Option Addr) (n c k cc : Nat) (b : List Int) (w W : World) (hr : Row .u8 w w.heap.size A b) (hn : b.length = n) (hc : n ≤ c) (hm : n ≤ 140737488355328) (hk : k ≤ n) (hB : Below w.heap.size w W) (A' : Option Addr) (hA : k < n → ∃ b0 o0, A = some ⟨b0, o0, none⟩ ∧ A' = some ⟨b0, o0 + k, none⟩) (hcc : n - k ≤ cc) :
    Calls Try.prog 13 #[.slice A' (n - k) cc] W (ChGot W (b.drop k)) := by
  refine chGet_any A' (n - k) cc (b.drop k) W ?_ (by rw [List.length_drop, hn]) hcc (by omega)
  by_cases hlt : k < n
  · obtain ⟨b0, o0, rfl, rfl⟩ := hA hlt
    exact ((hr.drop k).below hB).more hB.size
  · rw [List.drop_of_length_le (by omega)]
    exact Row.nil _ _ _ _
theorem ckGot_len {b : List Int} (h0 : ckE b = 0) : 6 ≤ ckM b ∧ ckM b ≤ b.length := ⟨by rw [ckM_yes h0]; omega, ckM_le b⟩

set_option maxHeartbeats 4000000 in
theorem chScan_any (A : Option Addr) (n c : Nat) (b : List Int) (w : World) (hr : Row .u8 w w.heap.size A b) (hn : b.length = n) (hc : n ≤ c) (hm : n ≤ 1073741824) :
    Calls Try.prog 15 #[.slice A n c] w (ChScans w b) := by
  have HR := Lib.hid hr
  have HN := Lib.hid hn
  clear hr hn
  go_enter Try.func15, Try.ntmps15
  go_wp2
  go_step3
  go_wp2
  go_step3
  go_wp2
  go_loopw [4, 5] (fun v q wr => ∃ (k : Nat) (ls : List (List Int)), k ≤ n ∧ q = .int .i64 k ∧ ScPre b ls k ∧ LOwn wr w.heap.size v ls ∧ Below w.heap.size w wr) (fun _ q _ => n + 1 - (intOf q).toNat)
  case atStart => exact ⟨0, [], by omega, rfl, ScPre.zero b, LOwn.nil _ _, Below.refl _ _⟩
  case round =>
    obtain ⟨k, ls, hk, rfl, pre, own, bel⟩ := hrel
    have HG : Hid (∀ A' cc, (k < n → ∃ b0 o0, A = some ⟨b0, o0, none⟩ ∧ A' = some ⟨b0, o0 + k, none⟩) → n - k ≤ cc → Calls Try.prog 13 #[.slice A' (n - k) cc] wr (ChGot wr (b.drop k))) := Lib.hid (fun A' cc hA hcc => chGet_left A n c k cc b w wr HR.out HN.out hc (by omega) hk bel A' hA hcc)
    have HA : Hid (k < n → ∃ b0 o0, A = some ⟨b0, o0, none⟩) := Lib.hid (fun hlt => by
      obtain ⟨b0, o0, rfl, _, _⟩ := HR.out.at_ (i := k) (by rw [HN.out]; exact hlt)
      exact ⟨_, _, rfl⟩)
    obtain ⟨E, hE⟩ : ∃ E, Hid (ckE (b.drop k) = E) := ⟨_, Lib.hid rfl⟩
    obtain ⟨M, hM⟩ : ∃ M, Hid (ckM (b.drop k) = M) := ⟨_, Lib.hid rfl⟩
    obtain ⟨G, hG⟩ : ∃ G, Hid (ckG (b.drop k) = G) := ⟨_, Lib.hid rfl⟩
    have hMl : M ≤ n - k := by rw [← hM.out]; have := ckM_le (b.drop k); rw [List.length_drop, HN.out] at this; exact this
    have PRE := Lib.hid pre
    have OWN := Lib.hid own
    have BEL := Lib.hid bel
    have hsz := bel.size
    have hls : ls.length ≤ 1073741824 := by have := pre.1; omega
    have i2 : (k : Int) ≤ (n : Int) := by omega
    have i3 : (k : Int) ≤ (c : Int) := by omega
    have i4 : (n : Int) ≤ (c : Int) := by omega
    clear pre own bel
    have HS : Hid (E ≠ 0 → ∀ w', Below wr.heap.size wr w' → ∀ v, LOwn wr w.heap.size v ls → ChScans w b (.returned (.tuple #[v, .int .i64 (k : Nat)])) w') := Lib.hid (fun h0 w' hb v hv => ChScans.of (PRE.out.stop (by rw [HN.out]; exact hk) (by rw [hE.out]; exact h0)) (hv.below hb (Nat.le_refl _)) (BEL.out.trans (hb.mono hsz)))
    have HG2 : Hid (∀ A' cc, (k < n → ∃ b0 o0, A = some ⟨b0, o0, none⟩ ∧ A' = some ⟨b0, o0 + k, none⟩) → n - k ≤ cc → Calls Try.prog 13 #[.slice A' (n - k) cc] wr fun e w' => ∃ A1 c1, e = .returned (.tuple #[.slice A1 G.length c1, .int .i64 (M : Nat), .int .i64 E]) ∧ KOwn .u8 5 w' wr.heap.size (.slice A1 G.length c1) G ∧ Below wr.heap.size wr w') := Lib.hid (fun A' cc hA hcc => (HG.out A' cc hA hcc).mono fun e w' ⟨v, he, hk, hb⟩ => by
      rw [hG.out] at hk
      rw [hM.out, hE.out] at he
      obtain ⟨A1, c1, rfl, _⟩ := hk.form
      exact ⟨A1, c1, he, hk, hb⟩)
    clear HG
    by_cases hlt : k < n
    · obtain ⟨b0, o0, rfl⟩ := HA.out hlt
      have hkc : ¬ c = k := by omega
      by_cases h0 : E = 0
      · have h06 : 6 ≤ M := by rw [← hM.out]; exact (ckGot_len (by rw [hE.out]; exact h0)).1
        have PRE2 : Hid (ScPre b (ls ++ [G]) (k + M)) := Lib.hid (by have := PRE.out.step (by rw [hE.out]; exact h0); rw [hG.out, hM.out] at this; exact this)
        subst h0
        go_wp2_with (first
          | (go_at_call 13; refine (HG2.out _ _ (fun _ => ⟨_, _, rfl, rfl⟩) (by omega)).mono ?_; rintro e w1 ⟨A1, c1, rfl, k1, b1⟩; have K1 := Lib.hid k1; have B1 := Lib.hid b1; have OWN1 := Lib.hid (OWN.out.below b1 (Nat.le_refl _)); have hs1 := b1.size; clear k1 b1)
          | (at_builtin; refine wpList_append_l8 _ rfl _ _ 29 rfl w.heap.size Try.underlying29 info_l8 _ ls rfl (OWN1.out.alloc _) ⟨w1.heap.size, 0, none⟩ 1 G A1 G.length c1 rfl ((K1.out.mono hsz).below (bel_alloc w1 _) (Nat.le_refl _)) (box_l8 _ _ _) hls (by simp; omega) ?_; intro v2 w2 own4 g4))
        have bel4 := Below.lown ((BEL.out.trans (B1.out.mono hsz)).alloc (by omega) _) (by simp; omega) (OWN1.out.alloc _) (Nat.le_refl _) g4
        go_roundw
        case rel => exact ⟨k + M, ls ++ [G], by omega, by go_num, PRE2.out, own4, bel4⟩
        case measure => simp [intOf]; omega
      · have e1 : (E == 0) = false := by simpa using h0
        have e2 : (E != 0) = true := by simpa using h0
        have HS2 := Lib.hid (HS.out h0)
        clear h0
        go_wp2_with (go_at_call 13; refine (HG2.out _ _ (fun _ => ⟨_, _, rfl, rfl⟩) (by omega)).mono ?_; rintro e w1 ⟨A1, c1, rfl, k1, b1⟩; have B1 := Lib.hid b1; clear k1 b1)
        (try rw [Exit.noGoto_ret])
        go_ret2
        exact HS2.out _ B1.out _ OWN.out
    · obtain rfl : k = n := by omega
      have h0 : E ≠ 0 := by
        rw [← hE.out, List.drop_of_length_le (by rw [HN.out]; exact Nat.le_refl _)]
        decide
      have e1 : (E == 0) = false := by simpa using h0
      have e2 : (E != 0) = true := by simpa using h0
      have HS2 := Lib.hid (HS.out h0)
      have e3 : k - k = 0 := by omega
      rw [e3] at HG2
      clear h0 HS
      rcases A with _ | ⟨ab, ao, asp⟩
      all_goals
        by_cases hkc : c = k
        all_goals
          (go_wp2_with (go_at_call 13; refine (HG2.out _ _ (fun h => absurd h (by omega)) (by omega)).mono ?_; rintro e w1 ⟨A1, c1, rfl, k1, b1⟩; have B1 := Lib.hid b1; clear k1 b1)
           (try rw [Exit.noGoto_ret])
           go_ret2
           exact HS2.out _ B1.out _ OWN.out)
end Go.Proofs.Ytooelfmfcihlkaa
namespace Go.Proofs.Ytooelfmfcihlkaa
open Go.RowKit
set_option linter.unusedVariables false
set_option maxRecDepth 100000

theorem refChPut_any (A : Option Addr) (n c : Nat) (xs : List Int) (w : World) (hr : Row .u8 w w.heap.size A xs) (hn : xs.length = n) (hm : n ≤ 140737488355328) :
    Calls Try.prog 12 #[.slice A n c] w (ChMakes w (ckPut xs) (ckPE xs)) := by
  by_cases hlt : 1024 < n
  · rw [ckPut_big (by omega), ckPE_big (by omega)]
    have i1 : (n : Int) > 1024 := by omega
    clear hr hn
    go_enter Try.func12, Try.ntmps12
    go_wp2
    go_ret2
    exact ⟨_, rfl, KOwn.nil _ _ _ _, Below.refl _ _⟩
  · rw [ckPut_ok (by omega), ckPE_ok (by omega)]
    have i1 : ¬ (n : Int) > 1024 := by omega
    have HN := Lib.hid hn
    have HH : Hid (ckH n = [(n : Int) / 256, (n : Int) % 256]) := Lib.hid (by unfold ckH; congr 1)
    obtain ⟨W1, hW1⟩ : ∃ W1 : World, Hid (w.alloc (.cells #[.int .u8 ((n : Int) / 256), .int .u8 ((n : Int) % 256)] 5) = W1) := ⟨_, Lib.hid rfl⟩
    have hz1 : W1.heap.size = w.heap.size + 1 := by rw [← hW1.out]; simp
    have ha1 : Hid (W1.heap[w.heap.size]? = some (.cells (blk .u8 (ckH n)) 5 (0, 0))) := Lib.hid (by rw [← hW1.out, HH.out]; exact heap_alloc_new w _)
    have hB1 : Hid (Below w.heap.size w W1) := Lib.hid (by rw [← hW1.out]; exact bel_alloc w _)
    have hHw : Hid (∀ x ∈ ckH n, (Lit.int .u8 x).wf = true) := Lib.hid (ckH_wf (by omega))
    have hK1 : Hid (KOwn .u8 5 W1 w.heap.size (.slice (some ⟨w.heap.size, 0, none⟩) 2 2) (ckH n)) := Lib.hid (.inr ⟨w.heap.size, 2, 2, [], rfl, Nat.le_refl _, rfl, by rw [List.append_nil]; exact ha1.out, Nat.le_refl _, by unfold maxLen; omega, rfl, by simp⟩)
    have hL1 : Hid (Row .u8 W1 (w.heap.size + 1) (some ⟨w.heap.size, 0, none⟩) (ckH n)) := Lib.hid (Row.of_block ha1.out _ hHw.out (List.prefix_refl _))
    have hR1 : Hid (Row .u8 W1 w.heap.size A xs) := Lib.hid (hr.below hB1.out)
    have hcr : Hid (more32 0 (ckH n) < 4294967296) := Lib.hid (more32_lt _ _ (by omega) hHw.out)
    have hsl : ckS xs < 4294967296 := by unfold ckS; exact more32_lt _ _ (more32_lt _ _ (by omega) (ckH_wf (by omega))) hr.1
    have hsm : Hid (more32 (more32 0 (ckH n)) xs = ckS xs) := Lib.hid (by unfold ckS; rw [HN.out])
    have HCL : Hid (ckL xs = ckH n ++ be4 (ckS xs) ++ xs) := Lib.hid (by rw [ckL, HN.out, List.append_assoc])
    obtain ⟨s, hs⟩ : ∃ s, Hid (ckS xs = s) := ⟨_, Lib.hid rfl⟩
    rw [hs.out] at hsl hsm HCL
    obtain ⟨H, hH⟩ : ∃ H, Hid (ckH n = H) := ⟨_, Lib.hid rfl⟩
    have hHl : Hid (H.length = 2) := Lib.hid (by rw [← hH.out]; rfl)
    rw [hH.out] at ha1 hHw hK1 hL1 hcr hsm HCL
    have HS4 : Hid (be4 s = [(s : Int) / 16777216 % 256, (s : Int) / 65536 % 256, (s : Int) / 256 % 256, (s : Int) % 256]) := Lib.hid (by
      unfold be4
      congr 1)
    obtain ⟨W2, hW2⟩ : ∃ W2 : World, Hid (W1.alloc (.cells #[.int .u8 ((s : Int) / 16777216 % 256), .int .u8 ((s : Int) / 65536 % 256), .int .u8 ((s : Int) / 256 % 256), .int .u8 ((s : Int) % 256)] 5) = W2) := ⟨_, Lib.hid rfl⟩
    have hz2 : W2.heap.size = w.heap.size + 2 := by rw [← hW2.out]; simp [hz1]
    have ha2 : W2.heap[w.heap.size + 1]? = some (.cells (blk .u8 (be4 s)) 5 (0, 0)) := by rw [← hW2.out, HS4.out, ← hz1]; exact heap_alloc_new W1 _
    have hB2 : Below w.heap.size w W2 := by rw [← hW2.out]; exact hB1.out.alloc (by omega) _
    have hK2 : KOwn .u8 5 W2 w.heap.size (.slice (some ⟨w.heap.size, 0, none⟩) 2 2) H := hK1.out.below (by rw [← hW2.out]; exact bel_alloc W1 _) (Nat.le_refl _)
    obtain ⟨v3, w3, r3, k3, _, b3⟩ := run_append8 w W2 w.heap.size _ H hK2 _ _ 4 4 (be4 s) (Row.of_block ha2 _ (be4_wf _) (List.prefix_refl _)) rfl (by rw [hHl.out]; omega) (by omega) hB2
    obtain ⟨A3, c3, rfl, _⟩ := k3.form
    obtain ⟨v4, w4, r4, k4, _, b4⟩ := run_append8 w w3 w.heap.size _ _ k3 _ A n c xs (hr.below b3) HN.out (by rw [List.length_append, hHl.out]; show 2 + 4 + n ≤ _; omega) b3.size b3
    rw [← HCL.out] at k4
    obtain ⟨q3, hq3⟩ : ∃ q, Hid ((H ++ be4 s).length = q) := ⟨_, Lib.hid rfl⟩
    rw [hq3.out] at r3 r4
    rw [← hW2.out] at r3
    have R3 := Lib.hid r3
    have R4 := Lib.hid r4
    have K4 := Lib.hid k4
    obtain ⟨L, hL⟩ : ∃ L, Hid (ckL xs = L) := ⟨_, Lib.hid rfl⟩
    rw [hL.out] at K4 ⊢
    clear hr hn hz2 ha2 hB2 hK2 r3 k3 b3 r4 k4 hq3 hK1 HCL HS4 hsl hL
    go_enter Try.func12, Try.ntmps12
    go_wp2_with (first
      | (go_at_call 27; rw [hW1.out]; refine (refCrc_32 _ 2 _ H _ _ hL1.out hHl.out (by omega)).mono ?_; rintro e w1 ⟨rfl, rfl⟩)
      | (go_at_call 26; refine (refMore_32 _ _ _ _ xs hcr.out _ _ hR1.out HN.out (by omega)).mono ?_; rintro e w1 ⟨rfl, rfl⟩; rw [hsm.out])
      | (at_builtin; refine wpList_append_run _ rfl (.tmp 23) (.tmp 35) 22 rfl (.slice (some ⟨w.heap.size, 0, none⟩) 2 2) (.slice (some ⟨w.heap.size + 1, 0, none⟩) 4 4) (.slice A3 q3 c3) w3 rfl rfl R3.out ?_)
      | (at_builtin; refine wpList_append_run _ rfl (.tmp 37) (.tmp 38) 22 rfl (.slice A3 q3 c3) (.slice A n c) v4 w4 rfl rfl R4.out ?_))
    go_ret2
    exact ⟨_, rfl, K4.out, b4⟩
end Go.Proofs.Ytooelfmfcihlkaa
namespace Go.Proofs.Ytooelfmfcihlkaa
open Go.RowKit
set_option linter.unusedVariables false
set_option maxRecDepth 100000

theorem nth_take (xs : List Int) (m i : Nat) (h : i < m) : nth (xs.take m) i = nth xs i := by simp [nth, List.getD_eq_getElem?_getD, List.getElem?_take_of_lt h]
theorem ck_sum {b P : List Int} (h : 6 ≤ b.length) : (b.drop 2).take 4 = be4 (ckS P) ↔ ∀ q, q < 4 → nth b (2 + q) = nth (ckL P) (2 + q) := by
  have e : ∀ q, q < 4 → nth (ckL P) (2 + q) = nth (be4 (ckS P)) q := by
    intro q hq
    have h1 : nth (ckL P) ((ckH P.length).length + q) = nth (be4 (ckS P) ++ P) q := nth_right _ _ _
    rw [show 2 + q = (ckH P.length).length + q from rfl, h1]
    exact nth_left _ _ _ hq
  constructor
  · intro h1 q hq
    rw [e q hq, ← h1, nth_take _ _ _ hq, nth_drop]
  · intro h1
    refine ext_nth _ _ (by rw [List.length_take, List.length_drop]; show _ = 4; omega) fun q hq => ?_
    rw [List.length_take] at hq
    rw [nth_take _ _ _ (by omega), nth_drop, h1 q (by omega), e q (by omega)]

set_option maxHeartbeats 4000000 in
theorem refChGet_any (A : Option Addr) (n c : Nat) (b : List Int) (w : World) (hr : Row .u8 w w.heap.size A b) (hn : b.length = n) (hc : n ≤ c) (hm : n ≤ 140737488355328) :
    Calls Try.prog 14 #[.slice A n c] w (ChGot w b) := by
  by_cases h6 : n < 6
  · have HE : Hid (ckE b = 1) := Lib.hid (ckE_1 (by omega))
    have i1 : (n : Int) < 6 := by omega
    clear hr hn
    go_enter Try.func14, Try.ntmps14
    go_wp2
    go_ret3
    exact ChGot.none_ HE.out (by decide) (Below.refl _ _)
  · obtain ⟨b0, o0, rfl, _, c0⟩ := hr.at_ (i := 0) (by omega)
    obtain ⟨b1, o1, e1, _, c1⟩ := hr.at_ (i := 1) (by omega)
    injection e1 with e1
    injection e1 with e11 e12
    subst e11 e12
    have x0 := wf_u8 (hr.wf_at (i := 0) (by omega))
    have x1 := wf_u8 (hr.wf_at (i := 1) (by omega))
    have hN : nth b 0 * 256 + nth b 1 = ((ckN b : Nat) : Int) := by unfold ckN; omega
    have hNb : ckN b < 65536 := by omega
    rw [Nat.add_zero] at c0
    have HR := Lib.hid hr
    have HN := Lib.hid hn
    obtain ⟨N, hNN⟩ : ∃ N, Hid (ckN b = N) := ⟨_, Lib.hid rfl⟩
    rw [hNN.out] at hN hNb
    generalize nth b 0 = x at *
    generalize nth b 1 = y at *
    have ew : IntKind.i64.wrap (x * 256) = x * 256 := IntWalk.i64_in _ (by omega)
    have ew2 : IntKind.i64.wrap (x * 256 + y) = (N : Int) := by rw [hN]; exact IntWalk.i64_in _ (by omega)
    have t0 : (0 : Int) < (n : Int) := by omega
    have t1 : (1 : Int) < (n : Int) := by omega
    have t6 : ¬ (n : Int) < 6 := by omega
    clear hr hn
    by_cases hbig : 1024 < N
    · have HE : Hid (ckE b = 2) := Lib.hid (ckE_2 (by rw [HN.out]; exact h6) (by rw [hNN.out]; exact hbig))
      have i2 : (N : Int) > 1024 := by omega
      go_enter Try.func14, Try.ntmps14
      go_wp2
      go_quiet (fail)
      go_wp2
      go_ret3
      exact ChGot.none_ HE.out (by decide) (bel_dn _ _)
    by_cases hsh : n < 6 + N
    · have HE : Hid (ckE b = 1) := Lib.hid (ckE_3 (by rw [HN.out]; exact h6) (by rw [hNN.out]; exact hbig) (by rw [HN.out, hNN.out]; exact hsh))
      have i2 : ¬ (N : Int) > 1024 := by omega
      have i3 : (n : Int) - 6 < (N : Int) := by omega
      go_enter Try.func14, Try.ntmps14
      go_wp2
      go_quiet (fail)
      go_wp2
      go_ret3
      exact ChGot.none_ HE.out (by decide) (bel_dn _ _)
    have i2 : ¬ (N : Int) > 1024 := by omega
    have i3 : ¬ (n : Int) - 6 < (N : Int) := by omega
    have j1 : (6 : Int) ≤ 6 + (N : Int) := by omega
    have j2 : (6 : Int) + (N : Int) ≤ (c : Int) := by omega
    have j3 : 6 + N ≤ c := by omega
    have j4 : ((6 : Int) + (N : Int)).toNat = 6 + N := by omega
    have hpl : Hid ((ckP b).length = N) := Lib.hid (by rw [ckP_has (by rw [hNN.out, HN.out]; omega), hNN.out])
    have HP : Hid (Row .u8 w w.heap.size (some ⟨b0, o0 + 6, none⟩) (ckP b)) := Lib.hid (by have := (HR.out.drop 6).front N; rw [← hNN.out] at this; exact this)
    have hh := Lib.hid (ck_sum (b := b) (P := ckP b) (by rw [HN.out]; omega))
    have k1 : Hid (¬ b.length < 6) := Lib.hid (by rw [HN.out]; exact h6)
    have k2 : Hid (¬ 1024 < ckN b) := Lib.hid (by rw [hNN.out]; exact hbig)
    have k3 : Hid (¬ b.length < 6 + ckN b) := Lib.hid (by rw [HN.out, hNN.out]; exact hsh)
    obtain ⟨P, hP⟩ : ∃ P, Hid (ckP b = P) := ⟨_, Lib.hid rfl⟩
    rw [hP.out] at hpl HP hh
    have HAp : Hid (∀ q ad cc, (0 < N → ad = some ⟨b0, o0 + 6, none⟩) → ∃ A3 c3 w3, Hid (∀ ty, (Builtin.append_ #[22, 22] ty #[.slice (some ⟨w.heap.size, 0, none⟩) 0 0, .slice ad N cc]).run Try.prog ((w.drewN q).alloc (.cells #[] 5)) = .ok (.slice A3 N c3) w3) ∧ Hid (KOwn .u8 5 w3 w.heap.size (.slice A3 N c3) P ∧ Below w.heap.size w w3)) := Lib.hid (fun q ad cc had => by
      have hg : ((w.drewN q).alloc (.cells #[] 5)).heap[w.heap.size]? = some (.cells (blk .u8 ([] ++ [])) 5 (0, 0)) := heap_alloc_new (w.drewN q) _
      have hk : KOwn .u8 5 ((w.drewN q).alloc (.cells #[] 5)) w.heap.size (.slice (some ⟨w.heap.size, 0, none⟩) 0 0) [] := .inr ⟨w.heap.size, 0, 0, [], rfl, Nat.le_refl _, rfl, hg, Nat.le_refl _, Nat.zero_le _, rfl, by simp⟩
      have hb : Below w.heap.size w ((w.drewN q).alloc (.cells #[] 5)) := (bel_dn w q).alloc (Nat.le_refl _) _
      have hrow : Row .u8 ((w.drewN q).alloc (.cells #[] 5)) w.heap.size ad P := by
        rcases Nat.eq_zero_or_pos N with h0 | h0
        · have : P = [] := List.eq_nil_of_length_eq_zero (by rw [hpl.out]; exact h0)
          rw [this]; exact Row.nil _ _ _ _
        · rw [had h0]; exact HP.out.below hb
      obtain ⟨v3, w3, r3, g3, _, b3⟩ := run_append8 w _ w.heap.size _ [] hk _ ad N cc P hrow hpl.out (by show 0 + N ≤ _; omega) hb.size hb
      rw [List.nil_append] at g3
      obtain ⟨A3, c3, rfl, _⟩ := g3.form
      rw [hpl.out] at r3 g3
      exact ⟨A3, c3, w3, Lib.hid r3, Lib.hid ⟨g3, b3⟩⟩)
    have hPw : Hid (∀ x ∈ P, (Lit.int .u8 x).wf = true) := Lib.hid (by rw [← hP.out]; intro x hx; exact HR.out.1 x (List.mem_of_mem_drop (List.mem_of_mem_take hx)))
    have HPut : Hid (∀ A3 c3 w3, KOwn .u8 5 w3 w.heap.size (.slice A3 N c3) P → Calls Try.prog 12 #[.slice A3 N c3] w3 fun e w' => ∃ A5 c5, e = .returned (.tuple #[.slice A5 (6 + N) c5, .int .i64 0]) ∧ Hid (Row .u8 w' w'.heap.size A5 (ckL P)) ∧ Hid (Below w3.heap.size w3 w')) := Lib.hid (fun A3 c3 w3 hk => by
      obtain ⟨A4, c4, e4, r4, _⟩ := hk.row hPw.out
      injection e4 with e41 e42 e43
      subst e41 e43
      refine (refChPut_any A3 N c3 P w3 r4 hpl.out (by omega)).mono fun e w5 ⟨v5, he, k5, b5⟩ => ?_
      rw [ckPut_ok (by rw [hpl.out]; omega)] at k5
      rw [ckPE_ok (by rw [hpl.out]; omega)] at he
      obtain ⟨A5, c5, rfl, r5, _⟩ := k5.row (ckL_wf (by rw [hpl.out]; omega) hPw.out)
      rw [ckL_len, hpl.out] at he
      exact ⟨A5, c5, he, Lib.hid r5, Lib.hid b5⟩)
    obtain ⟨L, hL⟩ : ∃ L, Hid (ckL P = L) := ⟨_, Lib.hid rfl⟩
    rw [hL.out] at HPut hh
    have hLl : Hid (L.length = 6 + N) := Lib.hid (by rw [← hL.out, ckL_len, hpl.out])
    have H5 : Hid ((∃ q, q < 4 ∧ nth b (2 + q) ≠ nth L (2 + q)) → ckE b = 5) := Lib.hid (fun ⟨q, hq, hne⟩ => ckE_5 k1.out k2.out k3.out (by rw [hP.out]; exact fun h => hne (hh.out.1 h q hq)))
    have H0 : Hid ((∀ q, q < 4 → nth b (2 + q) = nth L (2 + q)) → ckE b = 0) := Lib.hid (fun h => ckE_4 k1.out k2.out k3.out (by rw [hP.out]; exact hh.out.2 h))
    have hL2 := hL
    clear hh k1 k2 k3 hL HP
    by_cases hc6 : c = 6
    · obtain rfl : N = 0 := by omega
      go_enter Try.func14, Try.ntmps14
      go_wp2
      go_quiet (fail)
      clear hN ew ew2 x0 x1 c0 c1
      obtain ⟨A3, c3, w3, r3, k3⟩ := HAp.out nq (some ⟨b0, o0, none⟩) (0) (fun h => absurd h (by omega))
      go_wp2_with (first
        | (at_builtin; go_loud (refine wpList_append_run _ rfl (.tmp 30) (.tmp 34) 22 rfl (.slice (some ⟨w.heap.size, 0, none⟩) 0 0) (.slice (some ⟨b0, o0, none⟩) 0 (0)) (.slice A3 0 c3) w3 rfl rfl r3.out ?_))
        | (go_at_call 12; refine (HPut.out A3 c3 w3 k3.out.1).mono ?_; rintro e w5 ⟨A5, c5, rfl, r5, b5⟩))
      have B5 : Hid (Below w.heap.size w w5) := Lib.hid (k3.out.2.trans (b5.out.mono k3.out.2.size))
      have K5 : Hid (KOwn .u8 5 w5 w.heap.size (.slice A3 0 c3) P) := Lib.hid (k3.out.1.below b5.out (Nat.le_refl _))
      have RB : Hid (Row .u8 w5 w5.heap.size (some ⟨b0, o0, none⟩) b) := Lib.hid ((HR.out.below B5.out).more B5.out.size)
      clear r3 k3 b5
      go_loopw [9] (fun i wr => ∃ j m : Nat, j ≤ 4 ∧ i = .int .i64 (2 + j : Nat) ∧ Hid (∀ q, q < j → nth b (2 + q) = nth L (2 + q)) ∧ wr = w5.drewN m) (fun i _ => 6 - (intOf i).toNat)
      case atStart => exact ⟨0, 0, by omega, rfl, Lib.hid (fun q hq => by omega), rfl⟩
      case round =>
        obtain ⟨j, m, hj, rfl, hs, hw0⟩ := hrel
        have HW := Lib.hid hw0
        have RBw : Hid (Row .u8 wr wr.heap.size (some ⟨b0, o0, none⟩) b) := Lib.hid (by rw [hw0]; exact RB.out.drewN m)
        have RLw : Hid (Row .u8 wr wr.heap.size A5 L) := Lib.hid (by rw [hw0]; exact r5.out.drewN m)
        clear hw0
        by_cases hlt : j < 4
        · obtain ⟨bb, oo, ee, _, cb⟩ := RBw.out.at_ (i := 2 + j) (by have := HN.out; omega)
          injection ee with ee
          injection ee with ee1 ee2
          subst ee1 ee2
          obtain ⟨bl, ol, rfl, _, cl⟩ := RLw.out.at_ (i := 2 + j) (by have := hLl.out; omega)
          have s1 : ((2 + j : Nat) : Int) < (n : Int) := by omega
          have s2 : ((2 + j : Nat) : Int) < 6 + ((0 : Nat) : Int) := by omega
          have s3 : ((2 + j : Nat) : Int) < 6 := by omega
          obtain ⟨xb, hxb⟩ : ∃ x, Hid (nth b (2 + j) = x) := ⟨_, Lib.hid rfl⟩
          obtain ⟨xl, hxl⟩ : ∃ x, Hid (nth L (2 + j) = x) := ⟨_, Lib.hid rfl⟩
          rw [hxb.out] at cb
          rw [hxl.out] at cl
          by_cases hxy : xb = xl
          · have u1 : (xb != xl) = false := by simp [hxy]
            have HXY := Lib.hid hxy
            clear hxy
            go_wp2
            go_quiet (fail)
            go_wp2
            go_roundw
            case rel => exact ⟨j + 1, m + nq, by omega, by go_num, Lib.hid (fun q hq => by
              rcases Nat.lt_succ_iff_lt_or_eq.1 hq with h | h
              · exact hs.out q h
              · subst h; rw [hxb.out, hxl.out]; exact HXY.out), by rw [HW.out, World.drewN_drewN]⟩
            case measure => simp [intOf]; omega
          · have u1 : (xb != xl) = true := by simpa using hxy
            have HE : Hid (ckE b = 5) := Lib.hid (H5.out ⟨j, hlt, by rw [hxb.out, hxl.out]; exact hxy⟩)
            clear hxy
            go_wp2
            go_quiet (fail)
            go_wp2
            go_ret3
            exact ChGot.none_ HE.out (by decide) (by rw [HW.out]; exact (B5.out.trans (bel_dn w5 m |>.mono B5.out.size)).trans (bel_dn _ _ |>.mono B5.out.size))
        · obtain rfl : j = 4 := by omega
          have HE : Hid (ckE b = 0) := Lib.hid (H0.out hs.out)
          have HM : Hid (∀ v : Value, (Ending.returned (.tuple #[v, .int .i64 (6 + ((0 : Nat) : Int)), .int .i64 0])) = .returned (.tuple #[v, .int .i64 (ckM b : Nat), .int .i64 (ckE b)])) := Lib.hid (fun v => by rw [ckM_yes HE.out, HE.out, hNN.out]; rfl)
          have HG : Hid (ckG b = P) := Lib.hid (by rw [ckG_yes HE.out, hP.out])
          go_wp2
          go_ret3
          exact ⟨_, HM.out _, by rw [HG.out, HW.out]; exact K5.out.drewN m, by rw [HW.out]; exact B5.out.trans (bel_dn w5 m |>.mono B5.out.size)⟩
    · go_enter Try.func14, Try.ntmps14
      go_wp2
      go_quiet (fail)
      clear hN ew ew2 x0 x1 c0 c1
      obtain ⟨A3, c3, w3, r3, k3⟩ := HAp.out nq (some ⟨b0, o0 + 6, none⟩) (c - 6) (fun _ => rfl)
      go_wp2_with (first
        | (at_builtin; go_loud (refine wpList_append_run _ rfl (.tmp 30) (.tmp 34) 22 rfl (.slice (some ⟨w.heap.size, 0, none⟩) 0 0) (.slice (some ⟨b0, o0 + 6, none⟩) N (c - 6)) (.slice A3 N c3) w3 rfl rfl r3.out ?_))
        | (go_at_call 12; refine (HPut.out A3 c3 w3 k3.out.1).mono ?_; rintro e w5 ⟨A5, c5, rfl, r5, b5⟩))
      have B5 : Hid (Below w.heap.size w w5) := Lib.hid (k3.out.2.trans (b5.out.mono k3.out.2.size))
      have K5 : Hid (KOwn .u8 5 w5 w.heap.size (.slice A3 N c3) P) := Lib.hid (k3.out.1.below b5.out (Nat.le_refl _))
      have RB : Hid (Row .u8 w5 w5.heap.size (some ⟨b0, o0, none⟩) b) := Lib.hid ((HR.out.below B5.out).more B5.out.size)
      clear r3 k3 b5
      go_loopw [9] (fun i wr => ∃ j m : Nat, j ≤ 4 ∧ i = .int .i64 (2 + j : Nat) ∧ Hid (∀ q, q < j → nth b (2 + q) = nth L (2 + q)) ∧ wr = w5.drewN m) (fun i _ => 6 - (intOf i).toNat)
      case atStart => exact ⟨0, 0, by omega, rfl, Lib.hid (fun q hq => by omega), rfl⟩
      case round =>
        obtain ⟨j, m, hj, rfl, hs, hw0⟩ := hrel
        have HW := Lib.hid hw0
        have RBw : Hid (Row .u8 wr wr.heap.size (some ⟨b0, o0, none⟩) b) := Lib.hid (by rw [hw0]; exact RB.out.drewN m)
        have RLw : Hid (Row .u8 wr wr.heap.size A5 L) := Lib.hid (by rw [hw0]; exact r5.out.drewN m)
        clear hw0
        by_cases hlt : j < 4
        · obtain ⟨bb, oo, ee, _, cb⟩ := RBw.out.at_ (i := 2 + j) (by have := HN.out; omega)
          injection ee with ee
          injection ee with ee1 ee2
          subst ee1 ee2
          obtain ⟨bl, ol, rfl, _, cl⟩ := RLw.out.at_ (i := 2 + j) (by have := hLl.out; omega)
          have s1 : ((2 + j : Nat) : Int) < (n : Int) := by omega
          have s2 : ((2 + j : Nat) : Int) < 6 + (N : Int) := by omega
          have s3 : ((2 + j : Nat) : Int) < 6 := by omega
          obtain ⟨xb, hxb⟩ : ∃ x, Hid (nth b (2 + j) = x) := ⟨_, Lib.hid rfl⟩
          obtain ⟨xl, hxl⟩ : ∃ x, Hid (nth L (2 + j) = x) := ⟨_, Lib.hid rfl⟩
          rw [hxb.out] at cb
          rw [hxl.out] at cl
          by_cases hxy : xb = xl
          · have u1 : (xb != xl) = false := by simp [hxy]
            have HXY := Lib.hid hxy
            clear hxy
            go_wp2
            go_quiet (fail)
            go_wp2
            go_roundw
            case rel => exact ⟨j + 1, m + nq, by omega, by go_num, Lib.hid (fun q hq => by
              rcases Nat.lt_succ_iff_lt_or_eq.1 hq with h | h
              · exact hs.out q h
              · subst h; rw [hxb.out, hxl.out]; exact HXY.out), by rw [HW.out, World.drewN_drewN]⟩
            case measure => simp [intOf]; omega
          · have u1 : (xb != xl) = true := by simpa using hxy
            have HE : Hid (ckE b = 5) := Lib.hid (H5.out ⟨j, hlt, by rw [hxb.out, hxl.out]; exact hxy⟩)
            clear hxy
            go_wp2
            go_quiet (fail)
            go_wp2
            go_ret3
            exact ChGot.none_ HE.out (by decide) (by rw [HW.out]; exact (B5.out.trans (bel_dn w5 m |>.mono B5.out.size)).trans (bel_dn _ _ |>.mono B5.out.size))
        · obtain rfl : j = 4 := by omega
          have HE : Hid (ckE b = 0) := Lib.hid (H0.out hs.out)
          have HM : Hid (∀ v : Value, (Ending.returned (.tuple #[v, .int .i64 (6 + (N : Int)), .int .i64 0])) = .returned (.tuple #[v, .int .i64 (ckM b : Nat), .int .i64 (ckE b)])) := Lib.hid (fun v => by rw [ckM_yes HE.out, HE.out, hNN.out]; rfl)
          have HG : Hid (ckG b = P) := Lib.hid (by rw [ckG_yes HE.out, hP.out])
          go_wp2
          go_ret3
          exact ⟨_, HM.out _, by rw [HG.out, HW.out]; exact K5.out.drewN m, by rw [HW.out]; exact B5.out.trans (bel_dn w5 m |>.mono B5.out.size)⟩
end Go.Proofs.Ytooelfmfcihlkaa
namespace Go.Proofs.Ytooelfmfcihlkaa
open Go.RowKit
set_option linter.unusedVariables false
set_option maxRecDepth 100000

/-- Get of what is left. -/
theorem refChGet_left (A : Option Addr) (n c k cc : Nat) (b : List Int) (w W : World) (hr : Row .u8 w w.heap.size A b) (hn : b.length = n) (hc : n ≤ c) (hm : n ≤ 140737488355328) (hk : k ≤ n) (hB : Below w.heap.size w W) (A' : Option Addr) (hA : k < n → ∃ b0 o0, A = some ⟨b0, o0, none⟩ ∧ A' = some ⟨b0, o0 + k, none⟩) (hcc : n - k ≤ cc) :
    Calls Try.prog 14 #[.slice A' (n - k) cc] W (ChGot W (b.drop k)) := by
  refine refChGet_any A' (n - k) cc (b.drop k) W ?_ (by rw [List.length_drop, hn]) hcc (by omega)
  by_cases hlt : k < n
  · obtain ⟨b0, o0, rfl, rfl⟩ := hA hlt
    exact ((hr.drop k).below hB).more hB.size
  · rw [List.drop_of_length_le (by omega)]
    exact Row.nil _ _ _ _
set_option maxHeartbeats 4000000 in
theorem refChScan_any (A : Option Addr) (n c : Nat) (b : List Int) (w : World) (hr : Row .u8 w w.heap.size A b) (hn : b.length = n) (hc : n ≤ c) (hm : n ≤ 1073741824) :
    Calls Try.prog 16 #[.slice A n c] w (ChScans w b) := by
  have HR := Lib.hid hr
  have HN := Lib.hid hn
  clear hr hn
  go_enter Try.func16, Try.ntmps16
  go_wp2
  go_loopw [4, 5] (fun v q wr => ∃ (k : Nat) (ls : List (List Int)), k ≤ n ∧ q = .int .i64 k ∧ ScPre b ls k ∧ LOwn wr w.heap.size v ls ∧ Below w.heap.size w wr) (fun _ q _ => n + 1 - (intOf q).toNat)
  case atStart => exact ⟨0, [], by omega, rfl, ScPre.zero b, LOwn.nil _ _, Below.refl _ _⟩
  case round =>
    obtain ⟨k, ls, hk, rfl, pre, own, bel⟩ := hrel
    have HG : Hid (∀ A' cc, (k < n → ∃ b0 o0, A = some ⟨b0, o0, none⟩ ∧ A' = some ⟨b0, o0 + k, none⟩) → n - k ≤ cc → Calls Try.prog 14 #[.slice A' (n - k) cc] wr (ChGot wr (b.drop k))) := Lib.hid (fun A' cc hA hcc => refChGet_left A n c k cc b w wr HR.out HN.out hc (by omega) hk bel A' hA hcc)
    have HA : Hid (k < n → ∃ b0 o0, A = some ⟨b0, o0, none⟩) := Lib.hid (fun hlt => by
      obtain ⟨b0, o0, rfl, _, _⟩ := HR.out.at_ (i := k) (by rw [HN.out]; exact hlt)
      exact ⟨_, _, rfl⟩)
    obtain ⟨E, hE⟩ : ∃ E, Hid (ckE (b.drop k) = E) := ⟨_, Lib.hid rfl⟩
    obtain ⟨M, hM⟩ : ∃ M, Hid (ckM (b.drop k) = M) := ⟨_, Lib.hid rfl⟩
    obtain ⟨G, hG⟩ : ∃ G, Hid (ckG (b.drop k) = G) := ⟨_, Lib.hid rfl⟩
    have hMl : M ≤ n - k := by rw [← hM.out]; have := ckM_le (b.drop k); rw [List.length_drop, HN.out] at this; exact this
    have PRE := Lib.hid pre
    have OWN := Lib.hid own
    have BEL := Lib.hid bel
    have hsz := bel.size
    have hls : ls.length ≤ 1073741824 := by have := pre.1; omega
    have i2 : (k : Int) ≤ (n : Int) := by omega
    have i3 : (k : Int) ≤ (c : Int) := by omega
    have i4 : (n : Int) ≤ (c : Int) := by omega
    clear pre own bel
    have HS : Hid (E ≠ 0 → ∀ w', Below wr.heap.size wr w' → ∀ v, LOwn wr w.heap.size v ls → ChScans w b (.returned (.tuple #[v, .int .i64 (k : Nat)])) w') := Lib.hid (fun h0 w' hb v hv => ChScans.of (PRE.out.stop (by rw [HN.out]; exact hk) (by rw [hE.out]; exact h0)) (hv.below hb (Nat.le_refl _)) (BEL.out.trans (hb.mono hsz)))
    have HG2 : Hid (∀ A' cc, (k < n → ∃ b0 o0, A = some ⟨b0, o0, none⟩ ∧ A' = some ⟨b0, o0 + k, none⟩) → n - k ≤ cc → Calls Try.prog 14 #[.slice A' (n - k) cc] wr fun e w' => ∃ A1 c1, e = .returned (.tuple #[.slice A1 G.length c1, .int .i64 (M : Nat), .int .i64 E]) ∧ KOwn .u8 5 w' wr.heap.size (.slice A1 G.length c1) G ∧ Below wr.heap.size wr w') := Lib.hid (fun A' cc hA hcc => (HG.out A' cc hA hcc).mono fun e w' ⟨v, he, hk, hb⟩ => by
      rw [hG.out] at hk
      rw [hM.out, hE.out] at he
      obtain ⟨A1, c1, rfl, _⟩ := hk.form
      exact ⟨A1, c1, he, hk, hb⟩)
    clear HG
    by_cases hlt : k < n
    · obtain ⟨b0, o0, rfl⟩ := HA.out hlt
      have hkc : ¬ c = k := by omega
      by_cases h0 : E = 0
      · have h06 : 6 ≤ M := by rw [← hM.out]; exact (ckGot_len (by rw [hE.out]; exact h0)).1
        have PRE2 : Hid (ScPre b (ls ++ [G]) (k + M)) := Lib.hid (by have := PRE.out.step (by rw [hE.out]; exact h0); rw [hG.out, hM.out] at this; exact this)
        subst h0
        go_wp2_with (first
          | (go_at_call 14; refine (HG2.out _ _ (fun _ => ⟨_, _, rfl, rfl⟩) (by omega)).mono ?_; rintro e w1 ⟨A1, c1, rfl, k1, b1⟩; have K1 := Lib.hid k1; have B1 := Lib.hid b1; have OWN1 := Lib.hid (OWN.out.below b1 (Nat.le_refl _)); have hs1 := b1.size; clear k1 b1)
          | (at_builtin; refine wpList_append_l8 _ rfl _ _ 29 rfl w.heap.size Try.underlying29 info_l8 _ ls rfl (OWN1.out.alloc _) ⟨w1.heap.size, 0, none⟩ 1 G A1 G.length c1 rfl ((K1.out.mono hsz).below (bel_alloc w1 _) (Nat.le_refl _)) (box_l8 _ _ _) hls (by simp; omega) ?_; intro v2 w2 own4 g4))
        have bel4 := Below.lown ((BEL.out.trans (B1.out.mono hsz)).alloc (by omega) _) (by simp; omega) (OWN1.out.alloc _) (Nat.le_refl _) g4
        go_roundw
        case rel => exact ⟨k + M, ls ++ [G], by omega, by go_num, PRE2.out, own4, bel4⟩
        case measure => simp [intOf]; omega
      · have e1 : (E == 0) = false := by simpa using h0
        have e2 : (E != 0) = true := by simpa using h0
        have HS2 := Lib.hid (HS.out h0)
        clear h0
        go_wp2_with (go_at_call 14; refine (HG2.out _ _ (fun _ => ⟨_, _, rfl, rfl⟩) (by omega)).mono ?_; rintro e w1 ⟨A1, c1, rfl, k1, b1⟩; have B1 := Lib.hid b1; clear k1 b1)
        (try rw [Exit.noGoto_ret])
        go_ret2
        exact HS2.out _ B1.out _ OWN.out
    · obtain rfl : k = n := by omega
      have h0 : E ≠ 0 := by
        rw [← hE.out, List.drop_of_length_le (by rw [HN.out]; exact Nat.le_refl _)]
        decide
      have e1 : (E == 0) = false := by simpa using h0
      have e2 : (E != 0) = true := by simpa using h0
      have HS2 := Lib.hid (HS.out h0)
      have e3 : k - k = 0 := by omega
      rw [e3] at HG2
      clear h0 HS
      rcases A with _ | ⟨ab, ao, asp⟩
      all_goals
        by_cases hkc : c = k
        all_goals
          (go_wp2_with (go_at_call 14; refine (HG2.out _ _ (fun h => absurd h (by omega)) (by omega)).mono ?_; rintro e w1 ⟨A1, c1, rfl, k1, b1⟩; have B1 := Lib.hid b1; clear k1 b1)
           (try rw [Exit.noGoto_ret])
           go_ret2
           exact HS2.out _ B1.out _ OWN.out)
end Go.Proofs.Ytooelfmfcihlkaa
namespace Go.Proofs.Ytooelfmfcihlkaa
open Go.RowKit
set_option linter.unusedVariables false
set_option maxRecDepth 100000

set_option maxHeartbeats 4000000 in
theorem walk_ChunkStays (A : Option Addr) (n c : Nat) (x : List Int) (w : World) (hr : Row .u8 w w.heap.size A x) (hn : x.length = n) (hc : n ≤ c) (hm : c ≤ 140737488351232) (hfew : n ≤ 1073741824) :
    Calls Try.prog 4 #[.slice A n c] w fun e w' => e = .returned (.bool true) ∧ Below w.heap.size w w' := by
  have HR := Lib.hid hr
  have HN := Lib.hid hn
  have hwf := Lib.hid hr.1
  obtain ⟨M, hM⟩ : ∃ M, Hid (ckM x = M) := ⟨_, Lib.hid rfl⟩
  obtain ⟨S, hS⟩ : ∃ S, Hid ((ckScan x).2 = S) := ⟨_, Lib.hid rfl⟩
  have t1 : ((M : Int) == (M : Int)) = true := by simp
  have t2 : ((S : Int) == (S : Int)) = true := by simp
  clear hr hn
  go_enter Try.func4, Try.ntmps4
  go_wp2_with fail
  refine (lent_u8 A n c x w HR.out HN.out (by omega)).mono ?_
  rintro e w' ⟨rfl, rfl⟩
  have k1 : Bk (w.alloc (.cells (blk .u8 (x ++ marks5)) 5)) w.heap.size (x ++ marks5) := heap_alloc_new w _
  have b1 : Below w.heap.size w (w.alloc (.cells (blk .u8 (x ++ marks5)) 5)) := bel_alloc w _
  generalize w.alloc (.cells (blk .u8 (x ++ marks5)) 5) = w1 at *
  go_wp2_with fail
  refine (chGet_any (some ⟨w.heap.size, 0, none⟩) n (n + 5) x w1 (k1.row x hwf.out (List.prefix_append _ _)) HN.out (by omega) (by omega)).mono ?_
  rintro e w2 ⟨v2, rfl, o2, d2⟩
  rw [hM.out]
  have k2 := k1.below d2
  have b2 := b1.trans (d2.mono b1.size)
  obtain ⟨A2, c2, rfl, _⟩ := o2.form
  clear k1 b1 d2 o2
  go_wp2_with fail
  refine (refChGet_any A n c x w2 ((HR.out.below b2).more b2.size) HN.out hc (by omega)).mono ?_
  rintro e w3 ⟨v3, rfl, o3, d3⟩
  rw [hM.out]
  have k3 := k2.below d3
  have b3 := b2.trans (d3.mono b2.size)
  obtain ⟨A3, c3, rfl, _⟩ := o3.form
  clear k2 b2 d3 o3
  go_wp2_with fail
  refine (chScan_any (some ⟨w.heap.size, 0, none⟩) n (n + 5) x w3 (k3.row x hwf.out (List.prefix_append _ _)) HN.out (by omega) hfew).mono ?_
  rintro e w4 ⟨v4, rfl, o4, d4⟩
  rw [hS.out]
  have k4 := k3.below d4
  have b4 := b3.trans (d4.mono b3.size)
  obtain ⟨A4, c4, rfl, _⟩ := o4.len
  clear k3 b3 d4 o4
  go_wp2_with fail
  refine (refChScan_any A n c x w4 ((HR.out.below b4).more b4.size) HN.out hc hfew).mono ?_
  rintro e w5 ⟨v5, rfl, o5, d5⟩
  rw [hS.out]
  have k5 := k4.below d5
  have b5 := b4.trans (d5.mono b4.size)
  obtain ⟨A5, c5, rfl, _⟩ := o5.len
  clear k4 b4 d5 o5
  go_wp2_with fail
  refine (kept_u8 A n c w.heap.size x w5 w.heap.size (HR.out.below b5) HN.out (by omega) k5).mono ?_
  rintro e w6 ⟨rfl, m6, rfl⟩
  go_wp2
  go_ret
  exact ⟨rfl, below_drewN b5 _⟩
end Go.Proofs.Ytooelfmfcihlkaa
namespace Go.Proofs.Ytooelfmfcihlkaa.chunkStaysUpto
open Go.ChangeShapes Go.WideShapes Go.ChangeAt Go.RowKit
open Go.ChangeMaps (open_string shut_string)
set_option linter.unusedVariables false

theorem own : ownKnob Try.prog.godebug = none := by kernel_rfl
theorem laidOut : laidOutB Try.prog = true := by kernel_rfl

/-- What is read takes at least a place. -/
theorem bulk_one {H : Type} (d : DataW H) : 1 ≤ Rows.uptoBulk d := by
  cases d
  all_goals first
    | (simp [Rows.uptoBulk]; done)
    | (rename_i l; cases l <;> simp [Rows.uptoBulk])
theorem bulk_len {H : Type} (l : List (DataW H)) : l.length ≤ Rows.uptoBulkAll l := by
  induction l with
  | nil => exact Nat.zero_le _
  | cons d l ih =>
    have h := bulk_one d
    rw [List.length_cons, Rows.uptoBulkAll]
    omega
/-- So a slice that came in has no more places than the bound. -/
theorem few {H : Type} {d0 : DataW H} {c : Nat} (hk : Rows.uptoSmall H ([d0] ++ []) = true) (h : c = 0 ∨ ∃ el sp, d0 = .slice el sp ∧ c ≤ el.length + sp.length) : c ≤ 1048576 := by
  rcases h with rfl | ⟨el, sp, rfl, hc⟩
  · omega
  · have h : Rows.uptoBulkAll ([.slice el sp] ++ []) ≤ 1048576 := of_decide_eq_true hk
    simp only [List.append_nil, Rows.uptoBulkAll, Rows.uptoBulk] at h
    have h1 := bulk_len el
    have h2 := bulk_len sp
    omega

set_option maxRecDepth 100000 in
theorem lifted (os : Os) (started : os.Started) (H : Type) (enc : TypeId × Value → H) :
    (F : Stop.Interp) → ReturnsInHanded {} Try.checked os 4 .any ((Rows.OpenSpec.upto Rows.chunkStaysSpec).pre6 enc Try.prog Try.f4 Rows.chunkStaysUptoRow.domain false) (((Rows.OpenSpec.upto Rows.chunkStaysSpec).at F).post enc Try.prog Try.f4 false true false false) := by
  intro F
  refine returnsInHanded_of_cond_sized (C := Try.checked) (s := Rows.OpenSpec.upto Rows.chunkStaysSpec) (k := Rows.uptoSmall) rfl own started (by kernel_rfl) Try.func4
    (OpenSpec.witness (enc := enc) (C := Try.checked) (s := Rows.OpenSpec.upto Rows.chunkStaysSpec) (k := Rows.uptoSmall) rfl false ⟨#[], #[.slice none 0 0], []⟩ 8 (by kernel_rfl) (by kernel_rfl) (by kernel_rfl)
      (x := ([.nil], [], [])) (by kernel_rfl) rfl (by kernel_rfl)) ?_
  intro W base args ds gs before hval0 hW hcnd hk hsz0 _
  have hsz : (DataW.weightsEach Try.prog (Try.f4.params.toList ++ Rows.chunkStaysSpec.plain.varTypes Try.prog) (ds ++ gs)).all (· ≤ reachBytes) = true := hsz0
  clear hsz0
  have hval : ∀ (j : Nat) t v, Try.f4.params[j]? = some t → args[j]? = some v → Value.okWide Try.prog W .any base t v := hval0
  have hW' := hW
  obtain ⟨p, q, hA0, hV, rfl, hfz, hnd⟩ := hW
  have hA : DataW.TrodAll enc Try.prog W 0 (fun _ => true) true Try.f4.params.toList args.toList ds p := hA0
  rw [Try.params4] at hA hval hsz
  obtain ⟨v0, vs0, d0, ds0, p0, q0, hargs, rfl, rfl, h0, r0⟩ := trodAll_cons hA
  obtain ⟨rfl, rfl, rfl⟩ := trodAll_nil r0
  obtain rfl : args = #[v0] := by cases args; simp_all
  obtain ⟨rfl, rfl⟩ := trodVars_none hV
  obtain ⟨a0, l0, c0, rfl⟩ := okWide_slice Try.underlying22 (hval 0 22 v0 rfl rfl)
  have k0 := h0
  have lt0 : ∀ x ∈ p0, x.block < W.heap.size := by obtain ⟨m, hm⟩ := k0; exact DataW.trod_lt m _ _ _ hm
  obtain ⟨x0, w0, n0, s0, r0d⟩ := row_in Try.underlying22 Try.underlying5 (by kernel_rfl) h0 lt0
  have m0 := reach_in hsz 0 rfl rfl Try.underlying22 (of_decide_eq_true (by kernel_rfl)) r0d
  have hfew := few hk r0d
  clear hA0 hval0
  refine (walk_ChunkStays a0 l0 c0 x0 W w0 n0 s0 m0 (by omega)).mono fun e W' ⟨he, bel⟩ => ?_
  subst he
  exact ⟨_, rfl, _, _, _, [], _, [], hW', trodAll_mk1 (shut_bool Try.underlying4 _), (trodAll_cons_mk (Below.trod laidOut (by kernel_rfl) (of_decide_eq_true (by kernel_rfl)) k0 bel lt0) trodAll_mk0), rfl, bel.frame _, fun h => by cases h⟩

theorem over : Rows.chunkStaysUptoRow.holds Try.pinned (Rows.OpenSpec.upto Rows.chunkStaysSpec) :=
  OpenClaim.holds_of_cond 4 Try.f4 rfl rfl rfl rfl rfl rfl rfl ⟨rfl, rfl, rfl, rfl, rfl⟩ rfl rfl rfl rfl rfl (by kernel_rfl) Try.func4 (by kernel_rfl)
    (of_decide_eq_true (by kernel_rfl)) (by unfold Func.isWrapper; first | (rw [if_pos (by decide +kernel)]; kernel_rfl) | (rw [if_neg (by decide +kernel)]; exact ⟨rfl, rfl⟩))
    (fun os started H enc _ F => lifted os started H enc F)

theorem proved : Rows.ChunkStaysUptoSaid := over
#print axioms proved
end Go.Proofs.Ytooelfmfcihlkaa.chunkStaysUpto
