/-
  Contract of read of package ask: the request that bytes of the right size say.
-/
import Derived.Test.YtojjcmkadmofdaaAskDec
namespace Go.Proofs.Ytojjcmkadmofdaa
open Go.RowKit
set_option linter.unusedVariables false

/-- A call returns a request in memory of its own, and a number. -/
def Told (w : World) (q : Req) (err : Int) (e : Ending) (w' : World) : Prop :=
  ∃ (A1 A2 : Option Addr) (m1 m2 g1 g2 : Nat) (vp : Value), e = .returned (.tuple #[.agg #[.int .i64 q.c, .int .i64 q.a, .int .i64 q.n, .slice A1 m1 m1, .slice A2 m2 m2, vp], .int .i64 err]) ∧
    L.Li w' A1 m1 g1 q.on [] ∧ W.Li w' A2 m2 g2 q.set [] ∧ POwn 47 w' w.heap.size vp q.fl ∧ (q.on.length = m1 ∧ q.set.length = m2) ∧ (w.heap.size ≤ g1 ∧ w.heap.size ≤ g2) ∧ Below w.heap.size w w'
/-- Do bytes of the right size say a request? -/
def rdOk (ys : List Int) : Bool :=
  if nth ys 0 = 20 then partsOk (ys.drop 2) else if nth ys 0 = 5 then decide (at2 ys 3 = 65280 ∨ at2 ys 3 = 0)
  else if nth ys 0 = 15 then bitsOk (ys.drop 6) (at2 ys 3).toNat else if nth ys 0 = 16 then decide ((ys.drop 6).length = 2 * (at2 ys 3).toNat) else true
/-- That request. -/
def rdQ (ys : List Int) : Req :=
  if nth ys 0 = 20 then ⟨20, 0, 0, [], [], flOf (ys.drop 2) ((ys.drop 2).length / 7)⟩
  else if nth ys 0 = 5 then ⟨5, at2 ys 1, 0, coilL (at2 ys 3), [], []⟩
  else if nth ys 0 = 6 then ⟨6, at2 ys 1, 0, [], [at2 ys 3], []⟩
  else if nth ys 0 = 15 then ⟨15, at2 ys 1, 0, unpk (ys.drop 6) (at2 ys 3).toNat, [], []⟩
  else if nth ys 0 = 16 then ⟨16, at2 ys 1, 0, [], wwords (ys.drop 6), []⟩
  else ⟨nth ys 0, at2 ys 1, at2 ys 3, [], [], []⟩

theorem row_head {w : World} {B : Nat} {A : Option Addr} {ys : List Int} (h : Row .u8 w B A ys) (h1 : 1 ≤ ys.length) :
    ∃ b o, A = some ⟨b, o, none⟩ ∧ b < B ∧ w.cell? ⟨b, o, none⟩ = some (.int .u8 (nth ys 0)) ∧ (0 ≤ nth ys 0 ∧ nth ys 0 < 256) := by
  obtain ⟨b, o, rfl, hb, hc⟩ := h.at_ (i := 0) (by omega)
  exact ⟨b, o, rfl, hb, by rwa [Nat.add_zero] at hc, wf_u8 (h.wf_at (i := 0) (by omega))⟩

set_option maxHeartbeats 1000000 in
set_option maxRecDepth 100000 in
theorem read_plain (A : Option Addr) (n c : Nat) (ys : List Int) (w : World) (hr : Row .u8 w w.heap.size A ys) (hn : ys.length = n) (hc : n ≤ c) (hb : n ≤ 100000) (h5 : 5 ≤ n) (hv : nth ys 0 = 1 ∨ nth ys 0 = 2 ∨ nth ys 0 = 3 ∨ nth ys 0 = 4) :
    Calls Try.prog 51 #[.slice A n c] w (Told w (rdQ ys) 0) := by
  obtain ⟨b, o, rfl, hb1, hc1, hrg⟩ := row_head hr (by omega)
  have HN := Lib.hid hn
  have HR := Lib.hid hr
  have HQ : Hid (rdQ ys = ⟨nth ys 0, at2 ys 1, at2 ys 3, [], [], []⟩) := Lib.hid (by unfold rdQ; rw [if_neg (by omega), if_neg (by omega), if_neg (by omega), if_neg (by omega), if_neg (by omega)])
  rw [HQ.out]
  clear hr hn HQ
  generalize nth ys 0 = v at *
  have t5 : (v == 5) = false := beq_false_of_ne (by omega)
  have t6 : (v == 6) = false := beq_false_of_ne (by omega)
  have t15 : (v == 15) = false := beq_false_of_ne (by omega)
  have t16 : (v == 16) = false := beq_false_of_ne (by omega)
  have t20 : (v == 20) = false := beq_false_of_ne (by omega)
  have e0 : IntKind.i64.wrap v = v := IntWalk.i64_in _ (by omega)
  clear hv
  go_enter Try.func51, Try.ntmps51
  go_wp2_with fail
  refine (wordAt_at b o n c 1 _ rfl ys _ _ (by first | exact (HR.out.alloc (Nat.le_refl _) _).alloc (by simp) _) HN.out hc hb (by omega)).mono ?_
  rintro e w' ⟨rfl, rfl⟩
  go_wp2_with fail
  refine (wordAt_at b o n c 3 _ rfl ys _ _ (by first | exact (HR.out.alloc (Nat.le_refl _) _).alloc (by simp) _) HN.out hc hb (by omega)).mono ?_
  rintro e w' ⟨rfl, rfl⟩
  generalize at2 ys 1 = x at *
  generalize at2 ys 3 = y at *
  go_wp2
  (try simp only [Exit.inBlock, Exit.then])
  refine bodyPost_ret (v := .tuple #[.agg #[.int .i64 v, .int .i64 x, .int .i64 y, .slice none 0 0, .slice none 0 0, .slice none 0 0], .int .i64 0]) (by simp [results, Try.results51, go_sem]) rfl ?_
  exact ⟨none, none, 0, 0, w.heap.size, w.heap.size, _, rfl, .inl ⟨rfl, rfl⟩, .inl ⟨rfl, rfl⟩, POwn.nil _ _ _, ⟨rfl, rfl⟩, ⟨Nat.le_refl _, Nat.le_refl _⟩, (bel_alloc w _).alloc (by simp) _⟩
end Go.Proofs.Ytojjcmkadmofdaa
