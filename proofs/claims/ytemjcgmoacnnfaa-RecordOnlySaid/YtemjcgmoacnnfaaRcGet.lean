/-
  What bytes say, and Get of the program of layer 11.
-/
import Derived.Test.YtemjcgmoacnnfaaRcRead
namespace Go.Proofs.Ytemjcgmoacnnfaa
open Go.RowKit
set_option linter.unusedVariables false
set_option maxRecDepth 100000

def rcB (r : Rc) : Array Value := #[.int .i64 r.k, .int .i64 r.t, .string r.g, .int .i64 r.v, .int .i64 r.i]
/-- A reader at work: the box of its result (noughts as yet), the record so far, what is left. -/
structure RS (w0 : World) (z a q : Nat) (r : Rc) (A : Option Addr) (n c : Nat) (w : World) : Prop where
  bz : w.heap[z]? = some (.cells #[.int .i64 0, .int .i64 0, .string ⟨#[]⟩, .int .i64 0, .int .i64 0] 23 (0, 0))
  ba : w.heap[a]? = some (.cells (rcB r) 23 (0, 0))
  bq : w.heap[q]? = some (.cells #[.slice A n c] 24 (0, 0))
  bel : Below w0.heap.size w0 w
  lz : w0.heap.size ≤ z
  la : z < a
  lq : a < q
theorem RS.take {w0 w : World} {z a q : Nat} {r : Rc} {A : Option Addr} {n c : Nat} (h : RS w0 z a q r A n c w) (A' : Option Addr) (n' c' : Nat) : RS w0 z a q r A' n' c' (w.setCell ⟨q, 0, none⟩ (.slice A' n' c')) := by
  have h1 := h.lz; have h2 := h.la; have h3 := h.lq
  exact ⟨(Below.heap_setCell w ⟨q, 0, none⟩ _ z (by simp; omega)).trans h.bz, (Below.heap_setCell w ⟨q, 0, none⟩ _ a (by simp; omega)).trans h.ba, box_set h.bq 0 _, below_setCell h.bel (by omega) 0 _, h1, h2, h3⟩
theorem RS.put {w0 w : World} {z a q : Nat} {r : Rc} {A : Option Addr} {n c : Nat} (h : RS w0 z a q r A n c w) (j : Nat) (v : Value) (r' : Rc) (e : (rcB r).setIfInBounds j v = rcB r') : RS w0 z a q r' A n c (w.setCell ⟨a, j, none⟩ v) := by
  have h1 := h.lz; have h2 := h.la; have h3 := h.lq
  exact ⟨(Below.heap_setCell w ⟨a, j, none⟩ _ z (by simp; omega)).trans h.bz, (box_set h.ba j v).trans (by rw [e]), (Below.heap_setCell w ⟨a, j, none⟩ _ q (by simp; omega)).trans h.bq, below_setCell h.bel (by omega) j _, h1, h2, h3⟩
theorem RS.done {w0 w : World} {z a q : Nat} {r : Rc} {A : Option Addr} {n c : Nat} (h : RS w0 z a q r A n c w) (v0 v1 v2 v3 v4 : Value) :
    (put5 w z v0 v1 v2 v3 v4).heap[z]? = some (.cells #[v0, v1, v2, v3, v4] 23 (0, 0)) ∧ Below w0.heap.size w0 (put5 w z v0 v1 v2 v3 v4) :=
  ⟨put5_heap h.bz v0 v1 v2 v3 v4, below_put5 h.bel h.lz v0 v1 v2 v3 v4⟩
theorem RS.r5 {w0 w : World} {z a q : Nat} {r : Rc} {A : Option Addr} {n c : Nat} (h : RS w0 z a q r A n c w) :
    w.cell? ⟨a, 0, none⟩ = some (.int .i64 r.k) ∧ w.cell? ⟨a, 1, none⟩ = some (.int .i64 r.t) ∧ w.cell? ⟨a, 2, none⟩ = some (.string r.g) ∧ w.cell? ⟨a, 3, none⟩ = some (.int .i64 r.v) ∧ w.cell? ⟨a, 4, none⟩ = some (.int .i64 r.i) := cells5 h.ba
theorem RS.f5 {w0 w : World} {z a q : Nat} {r : Rc} {A : Option Addr} {n c : Nat} (h : RS w0 z a q r A n c w) :
    w.frozen? ⟨a, 0, none⟩ = false ∧ w.frozen? ⟨a, 1, none⟩ = false ∧ w.frozen? ⟨a, 2, none⟩ = false ∧ w.frozen? ⟨a, 3, none⟩ = false ∧ w.frozen? ⟨a, 4, none⟩ = false := froz5 h.ba
theorem RS.c5 {w0 w : World} {z a q : Nat} {r : Rc} {A : Option Addr} {n c : Nat} (h : RS w0 z a q r A n c w) :
    (w.cell? ⟨z, 0, none⟩ = some (.int .i64 0) ∧ w.cell? ⟨z, 1, none⟩ = some (.int .i64 0) ∧ w.cell? ⟨z, 2, none⟩ = some (.string ⟨#[]⟩) ∧ w.cell? ⟨z, 3, none⟩ = some (.int .i64 0) ∧ w.cell? ⟨z, 4, none⟩ = some (.int .i64 0)) ∧
    w.frozen? ⟨z, 0, none⟩ = false ∧ w.frozen? ⟨z, 1, none⟩ = false ∧ w.frozen? ⟨z, 2, none⟩ = false ∧ w.frozen? ⟨z, 3, none⟩ = false ∧ w.frozen? ⟨z, 4, none⟩ = false := ⟨cells5 h.bz, froz5 h.bz⟩
theorem rd_1 (ys : List Int) (h : nth ys 0 = 1) : rdRc ys = ⟨1, n8 ys 1, strOfNums ((ys.drop 10).take (tgN ys)), n8 ys (10 + tgN ys), 0⟩ := by unfold rdRc atVl atRc; rw [h]; simp [tgK, idK, vlK]
set_option maxHeartbeats 4000000 in
theorem read_1 (b o m cap : Nat) (ys : List Int) (w : World) (hr : Row .u8 w w.heap.size (some ⟨b, o, none⟩) ys) (hm : ys.length = m) (hlen : m = 18 + tgN ys) (hcap : m ≤ cap) (hcb : cap ≤ 9223372036854775807) (hk : nth ys 0 = 1) :
    Calls Try.prog 37 #[.slice (some ⟨b, o, none⟩) m cap] w fun e w' => e = .returned (rcV (rdRc ys)) ∧ Below w.heap.size w w' := by
  have HD := Lib.hid (rd_1 ys hk)
  rw [HD.out]
  unfold rcV
  have HR := Lib.hid hr
  have HM := Lib.hid hm
  obtain ⟨b', o', hA, hbB, hc0⟩ := hr.at_ (i := 0) (by omega)
  injection hA with hA
  injection hA with hA1 hA2
  subst hA1 hA2
  rw [hk, Nat.add_zero] at hc0
  have hN9 := wf_u8 (hr.wf_at (i := 9) (by omega))
  have HN : nth ys 9 = (tgN ys : Int) := by unfold tgN; omega
  obtain ⟨b', o', hA, _, hc9⟩ := hr.at_ (i := 9) (by omega)
  injection hA with hA
  injection hA with hA1 hA2
  subst hA1 hA2
  rw [HN] at hc9
  have HS : Hid (strOfNums ((ys.drop 10).take (tgN ys)) = strOfNums ((ys.drop 10).take (tgN ys))) := Lib.hid rfl
  have hN := tgN_le ys hr.1
  have HX : Hid (((ys.drop 10).take (tgN ys)).length = tgN ys) := Lib.hid (by rw [List.length_take, List.length_drop]; omega)
  have HXR := Lib.hid ((hr.drop 10).front (tgN ys))
  generalize hG : (ys.drop 10).take (tgN ys) = gs at *
  clear HN hN9 HS hG
  generalize tgN ys = N at *
  have hl1 := Nat.le_of_eq hlen
  have hl2 := Nat.le_of_eq hlen.symm
  clear hr hm hk HD hlen
  go_enter Try.func37, Try.ntmps37
  go_wp2_with fail
  refine (taker11_any (some ⟨b, o, none⟩) m cap _).mono ?_
  rintro e w1' ⟨rfl, hw1⟩
  have s1 : RS w w.heap.size (w.heap.size + 1) (w.heap.size + 1 + 1) zRc (some ⟨b, o, none⟩) m cap w1' := by
    subst hw1
    have hx := Bx.new w (.cells #[.int .i64 0, .int .i64 0, .string ⟨#[]⟩, .int .i64 0, .int .i64 0] 23)
    have hx2 := hx.alloc (.cells #[.int .i64 0, .int .i64 0, .string ⟨#[]⟩, .int .i64 0, .int .i64 0] 23)
    have hx3 := hx2.alloc (.cells #[.slice (some ⟨b, o, none⟩) m cap] 24)
    have hy := heap_alloc_two w (.cells #[.int .i64 0, .int .i64 0, .string ⟨#[]⟩, .int .i64 0, .int .i64 0] 23) (.cells #[.int .i64 0, .int .i64 0, .string ⟨#[]⟩, .int .i64 0, .int .i64 0] 23)
    have hsz : ((w.alloc (.cells #[.int .i64 0, .int .i64 0, .string ⟨#[]⟩, .int .i64 0, .int .i64 0] 23)).alloc (.cells #[.int .i64 0, .int .i64 0, .string ⟨#[]⟩, .int .i64 0, .int .i64 0] 23)).heap.size = w.heap.size + 1 + 1 := by simp
    have hy2 := heap_alloc_new ((w.alloc (.cells #[.int .i64 0, .int .i64 0, .string ⟨#[]⟩, .int .i64 0, .int .i64 0] 23)).alloc (.cells #[.int .i64 0, .int .i64 0, .string ⟨#[]⟩, .int .i64 0, .int .i64 0] 23)) (.cells #[.slice (some ⟨b, o, none⟩) m cap] 24)
    rw [hsz] at hy2
    exact ⟨hx3.1, (heap_alloc_old _ _ (by rw [hsz]; omega)).trans hy, hy2, hx3.2, Nat.le_refl _, Nat.lt_succ_self _, Nat.lt_succ_self _⟩
  have hsz : ((w.alloc (.cells #[.int .i64 0, .int .i64 0, .string ⟨#[]⟩, .int .i64 0, .int .i64 0] 23)).alloc (.cells #[.int .i64 0, .int .i64 0, .string ⟨#[]⟩, .int .i64 0, .int .i64 0] 23)).heap.size = w.heap.size + 1 + 1 := by simp
  rw [hsz]
  clear hw1 hsz
  generalize hq : w.heap.size + 1 + 1 = q at *
  generalize ha : w.heap.size + 1 = a at *
  have hc1 := (s1.bel.cell (p := ⟨b, o, none⟩) hbB).trans hc0
  go_wp2_with fail
  refine (take11_any b o m cap 1 q (o + 1) (m - 1) (cap - 1) _ _ (by omega) s1.bq (by omega) (by omega) (by omega) (by omega) (by omega) (by omega)).mono ?_
  rintro e w2' ⟨rfl, A2, hA2, hw2⟩
  obtain rfl := hA2 (by omega)
  have s2 := s1.take (some ⟨b, (o + 1), none⟩) (m - 1) (cap - 1)
  rw [← hw2] at s2
  clear hw2 s1
  have hcc := (s2.bel.cell (p := ⟨b, o, none⟩) hbB).trans hc0
  have hcd := (s2.bel.cell (p := ⟨b, o + 9, none⟩) hbB).trans hc9
  obtain ⟨c0, c1, c2, c3, c4⟩ := s2.r5
  obtain ⟨f0, f1, f2, f3, f4⟩ := s2.f5
  have s3 := s2.put 0 (.int .i64 1) ⟨1, 0, ⟨#[]⟩, 0, 0⟩ rfl
  go_wp2_with fail
  generalize w2'.setCell ⟨a, 0, none⟩ (.int .i64 1) = w3' at *
  clear c0 c1 c2 c3 c4 f0 f1 f2 f3 f4 hcc hcd
  clear s2
  refine (take11_any b (o + 1) (m - 1) (cap - 1) 8 q (o + 9) (m - 9) (cap - 9) _ _ (by omega) s3.bq (by omega) (by omega) (by omega) (by omega) (by omega) (by omega)).mono ?_
  rintro e w4' ⟨rfl, A4, hA4, hw4⟩
  obtain rfl := hA4 (by omega)
  have s4 := s3.take (some ⟨b, (o + 9), none⟩) (m - 9) (cap - 9)
  rw [← hw4] at s4
  clear hw4 s3
  go_wp2_with fail
  refine (number11_any b o (cap - 1) 1 (o + 1) ys _ _ (HR.out.below s4.bel) (by omega) (by rw [HM.out]; omega) (by omega)).mono ?_
  rintro e w' ⟨rfl, rfl⟩
  have hcc := (s4.bel.cell (p := ⟨b, o, none⟩) hbB).trans hc0
  have hcd := (s4.bel.cell (p := ⟨b, o + 9, none⟩) hbB).trans hc9
  obtain ⟨c0, c1, c2, c3, c4⟩ := s4.r5
  obtain ⟨f0, f1, f2, f3, f4⟩ := s4.f5
  have s5 := s4.put 1 (.int .i64 (n8 ys 1)) ⟨1, n8 ys 1, ⟨#[]⟩, 0, 0⟩ rfl
  have e0 := s5.r5.1
  have e1 : (w4'.setCell ⟨a, 1, none⟩ (.int .i64 (n8 ys 1))).cell? ⟨a, 0, none⟩ = some (.int .i64 1) := e0
  clear e0
  go_wp2_with fail
  refine (hasTag_any 1 _).mono ?_
  rintro e w' ⟨rfl, rfl⟩
  rw [show tgK 1 = true from rfl]
  clear e1
  generalize w4'.setCell ⟨a, 1, none⟩ (.int .i64 (n8 ys 1)) = w5' at *
  clear c0 c1 c2 c3 c4 f0 f1 f2 f3 f4 hcc hcd
  clear s4
  go_wp2_with fail
  refine (take11_any b (o + 9) (m - 9) (cap - 9) 1 q (o + 10) (m - 10) (cap - 10) _ _ (by omega) s5.bq (by omega) (by omega) (by omega) (by omega) (by omega) (by omega)).mono ?_
  rintro e w6' ⟨rfl, A6, hA6, hw6⟩
  obtain rfl := hA6 (by omega)
  have s6 := s5.take (some ⟨b, (o + 10), none⟩) (m - 10) (cap - 10)
  rw [← hw6] at s6
  clear hw6 s5
  have hcc := (s6.bel.cell (p := ⟨b, o, none⟩) hbB).trans hc0
  have hcd := (s6.bel.cell (p := ⟨b, o + 9, none⟩) hbB).trans hc9
  obtain ⟨c0, c1, c2, c3, c4⟩ := s6.r5
  obtain ⟨f0, f1, f2, f3, f4⟩ := s6.f5
  go_wp2_with fail
  clear c0 c1 c2 c3 c4 f0 f1 f2 f3 f4 hcc hcd
  refine (take11_any b (o + 10) (m - 10) (cap - 10) N q (o + (10 + N)) (m - (10 + N)) (cap - (10 + N)) _ _ (by omega) s6.bq (by omega) (by omega) (by omega) (by omega) (by omega) (by omega)).mono ?_
  rintro e w7' ⟨rfl, A7, hA7, hw7⟩
  obtain rfl := hA7 (by omega)
  have s7 := s6.take (some ⟨b, (o + (10 + N)), none⟩) (m - (10 + N)) (cap - (10 + N))
  rw [← hw7] at s7
  clear hw7 s6
  have hcv := run_convert_bytes_arg (P := Try.prog) w7' 24 5 Try.underlying24 Try.underlying5 b (o + 10) N (cap - 10) gs HX.out (by
    intro j hj
    obtain ⟨b', o', hA, _, hcj⟩ := (HXR.out.below s7.bel).at_ (i := j) (by rw [HX.out]; exact hj)
    injection hA with hA
    injection hA with hA1 hA2
    subst hA1 hA2
    exact hcj) 9 Try.underlying9
  have hcc := (s7.bel.cell (p := ⟨b, o, none⟩) hbB).trans hc0
  have hcd := (s7.bel.cell (p := ⟨b, o + 9, none⟩) hbB).trans hc9
  obtain ⟨c0, c1, c2, c3, c4⟩ := s7.r5
  obtain ⟨f0, f1, f2, f3, f4⟩ := s7.f5
  have s8 := s7.put 2 (.string (strOfNums gs)) ⟨1, n8 ys 1, strOfNums gs, 0, 0⟩ rfl
  have e0 := s8.r5.1
  have e1 : (w7'.setCell ⟨a, 2, none⟩ (.string (strOfNums gs))).cell? ⟨a, 0, none⟩ = some (.int .i64 1) := e0
  clear e0
  go_wp2_with fail
  refine (hasId_any 1 _).mono ?_
  rintro e w' ⟨rfl, rfl⟩
  rw [show idK 1 = false from rfl]
  clear e1
  generalize w7'.setCell ⟨a, 2, none⟩ (.string (strOfNums gs)) = w8' at *
  clear c0 c1 c2 c3 c4 f0 f1 f2 f3 f4 hcc hcd
  clear s7
  have hcc := (s8.bel.cell (p := ⟨b, o, none⟩) hbB).trans hc0
  have hcd := (s8.bel.cell (p := ⟨b, o + 9, none⟩) hbB).trans hc9
  obtain ⟨c0, c1, c2, c3, c4⟩ := s8.r5
  obtain ⟨f0, f1, f2, f3, f4⟩ := s8.f5
  go_wp2_with fail
  refine (hasValue_any 1 _).mono ?_
  rintro e w' ⟨rfl, rfl⟩
  rw [show vlK 1 = true from rfl]
  clear c0 c1 c2 c3 c4 f0 f1 f2 f3 f4 hcc hcd
  go_wp2_with fail
  refine (take11_any b (o + (10 + N)) (m - (10 + N)) (cap - (10 + N)) 8 q (o + (18 + N)) (m - (18 + N)) (cap - (18 + N)) _ _ (by omega) s8.bq (by omega) (by omega) (by omega) (by omega) (by omega) (by omega)).mono ?_
  rintro e w9' ⟨rfl, A9, hA9, hw9⟩
  clear hA9
  have s9 := s8.take A9 (m - (18 + N)) (cap - (18 + N))
  rw [← hw9] at s9
  clear hw9 s8
  go_wp2_with fail
  refine (number11_any b o (cap - (10 + N)) (10 + N) (o + (10 + N)) ys _ _ (HR.out.below s9.bel) (by omega) (by rw [HM.out]; omega) (by omega)).mono ?_
  rintro e w' ⟨rfl, rfl⟩
  have hcc := (s9.bel.cell (p := ⟨b, o, none⟩) hbB).trans hc0
  have hcd := (s9.bel.cell (p := ⟨b, o + 9, none⟩) hbB).trans hc9
  obtain ⟨c0, c1, c2, c3, c4⟩ := s9.r5
  obtain ⟨f0, f1, f2, f3, f4⟩ := s9.f5
  have s10 := s9.put 3 (.int .i64 (n8 ys (10 + N))) ⟨1, n8 ys 1, strOfNums gs, n8 ys (10 + N), 0⟩ rfl
  have e5 := s10.r5
  have e6 := s10.c5
  obtain ⟨e0, e1, e2, e3, e4⟩ : (w9'.setCell ⟨a, 3, none⟩ (.int .i64 (n8 ys (10 + N)))).cell? ⟨a, 0, none⟩ = some (.int .i64 1) ∧ (w9'.setCell ⟨a, 3, none⟩ (.int .i64 (n8 ys (10 + N)))).cell? ⟨a, 1, none⟩ = some (.int .i64 (n8 ys 1)) ∧ (w9'.setCell ⟨a, 3, none⟩ (.int .i64 (n8 ys (10 + N)))).cell? ⟨a, 2, none⟩ = some (.string (strOfNums gs)) ∧ (w9'.setCell ⟨a, 3, none⟩ (.int .i64 (n8 ys (10 + N)))).cell? ⟨a, 3, none⟩ = some (.int .i64 (n8 ys (10 + N))) ∧ (w9'.setCell ⟨a, 3, none⟩ (.int .i64 (n8 ys (10 + N)))).cell? ⟨a, 4, none⟩ = some (.int .i64 (0)) := e5
  obtain ⟨⟨z0, z1, z2, z3, z4⟩, y0, y1, y2, y3, y4⟩ := e6
  have P5 := Lib.hid (s10.done (.int .i64 1) (.int .i64 (n8 ys 1)) (.string (strOfNums gs)) (.int .i64 (n8 ys (10 + N))) (.int .i64 (0)))
  go_wp2
  (try simp only [Exit.inBlock, Exit.then])
  show bodyPost _ _ _ _ _ (put5 (w9'.setCell ⟨a, 3, none⟩ (.int .i64 (n8 ys (10 + N)))) w.heap.size (.int .i64 1) (.int .i64 (n8 ys 1)) (.string (strOfNums gs)) (.int .i64 (n8 ys (10 + N))) (.int .i64 (0)))
  generalize put5 (w9'.setCell ⟨a, 3, none⟩ (.int .i64 (n8 ys (10 + N)))) w.heap.size (.int .i64 1) (.int .i64 (n8 ys 1)) (.string (strOfNums gs)) (.int .i64 (n8 ys (10 + N))) (.int .i64 (0)) = wz at *
  obtain ⟨x0, x1, x2, x3, x4⟩ := cells5 P5.out.1
  refine bodyPost_ret (v := .agg #[.int .i64 1, .int .i64 (n8 ys 1), .string (strOfNums gs), .int .i64 (n8 ys (10 + N)), .int .i64 (0)]) (by simp [results, Try.results37, go_sem, x0, x1, x2, x3, x4]) rfl ?_
  exact ⟨rfl, P5.out.2⟩
theorem rd_2 (ys : List Int) (h : nth ys 0 = 2) : rdRc ys = ⟨2, n8 ys 1, strOfNums ((ys.drop 10).take (tgN ys)), n8 ys (10 + tgN ys), 0⟩ := by unfold rdRc atVl atRc; rw [h]; simp [tgK, idK, vlK]
set_option maxHeartbeats 4000000 in
theorem read_2 (b o m cap : Nat) (ys : List Int) (w : World) (hr : Row .u8 w w.heap.size (some ⟨b, o, none⟩) ys) (hm : ys.length = m) (hlen : m = 18 + tgN ys) (hcap : m ≤ cap) (hcb : cap ≤ 9223372036854775807) (hk : nth ys 0 = 2) :
    Calls Try.prog 37 #[.slice (some ⟨b, o, none⟩) m cap] w fun e w' => e = .returned (rcV (rdRc ys)) ∧ Below w.heap.size w w' := by
  have HD := Lib.hid (rd_2 ys hk)
  rw [HD.out]
  unfold rcV
  have HR := Lib.hid hr
  have HM := Lib.hid hm
  obtain ⟨b', o', hA, hbB, hc0⟩ := hr.at_ (i := 0) (by omega)
  injection hA with hA
  injection hA with hA1 hA2
  subst hA1 hA2
  rw [hk, Nat.add_zero] at hc0
  have hN9 := wf_u8 (hr.wf_at (i := 9) (by omega))
  have HN : nth ys 9 = (tgN ys : Int) := by unfold tgN; omega
  obtain ⟨b', o', hA, _, hc9⟩ := hr.at_ (i := 9) (by omega)
  injection hA with hA
  injection hA with hA1 hA2
  subst hA1 hA2
  rw [HN] at hc9
  have HS : Hid (strOfNums ((ys.drop 10).take (tgN ys)) = strOfNums ((ys.drop 10).take (tgN ys))) := Lib.hid rfl
  have hN := tgN_le ys hr.1
  have HX : Hid (((ys.drop 10).take (tgN ys)).length = tgN ys) := Lib.hid (by rw [List.length_take, List.length_drop]; omega)
  have HXR := Lib.hid ((hr.drop 10).front (tgN ys))
  generalize hG : (ys.drop 10).take (tgN ys) = gs at *
  clear HN hN9 HS hG
  generalize tgN ys = N at *
  have hl1 := Nat.le_of_eq hlen
  have hl2 := Nat.le_of_eq hlen.symm
  clear hr hm hk HD hlen
  go_enter Try.func37, Try.ntmps37
  go_wp2_with fail
  refine (taker11_any (some ⟨b, o, none⟩) m cap _).mono ?_
  rintro e w1' ⟨rfl, hw1⟩
  have s1 : RS w w.heap.size (w.heap.size + 1) (w.heap.size + 1 + 1) zRc (some ⟨b, o, none⟩) m cap w1' := by
    subst hw1
    have hx := Bx.new w (.cells #[.int .i64 0, .int .i64 0, .string ⟨#[]⟩, .int .i64 0, .int .i64 0] 23)
    have hx2 := hx.alloc (.cells #[.int .i64 0, .int .i64 0, .string ⟨#[]⟩, .int .i64 0, .int .i64 0] 23)
    have hx3 := hx2.alloc (.cells #[.slice (some ⟨b, o, none⟩) m cap] 24)
    have hy := heap_alloc_two w (.cells #[.int .i64 0, .int .i64 0, .string ⟨#[]⟩, .int .i64 0, .int .i64 0] 23) (.cells #[.int .i64 0, .int .i64 0, .string ⟨#[]⟩, .int .i64 0, .int .i64 0] 23)
    have hsz : ((w.alloc (.cells #[.int .i64 0, .int .i64 0, .string ⟨#[]⟩, .int .i64 0, .int .i64 0] 23)).alloc (.cells #[.int .i64 0, .int .i64 0, .string ⟨#[]⟩, .int .i64 0, .int .i64 0] 23)).heap.size = w.heap.size + 1 + 1 := by simp
    have hy2 := heap_alloc_new ((w.alloc (.cells #[.int .i64 0, .int .i64 0, .string ⟨#[]⟩, .int .i64 0, .int .i64 0] 23)).alloc (.cells #[.int .i64 0, .int .i64 0, .string ⟨#[]⟩, .int .i64 0, .int .i64 0] 23)) (.cells #[.slice (some ⟨b, o, none⟩) m cap] 24)
    rw [hsz] at hy2
    exact ⟨hx3.1, (heap_alloc_old _ _ (by rw [hsz]; omega)).trans hy, hy2, hx3.2, Nat.le_refl _, Nat.lt_succ_self _, Nat.lt_succ_self _⟩
  have hsz : ((w.alloc (.cells #[.int .i64 0, .int .i64 0, .string ⟨#[]⟩, .int .i64 0, .int .i64 0] 23)).alloc (.cells #[.int .i64 0, .int .i64 0, .string ⟨#[]⟩, .int .i64 0, .int .i64 0] 23)).heap.size = w.heap.size + 1 + 1 := by simp
  rw [hsz]
  clear hw1 hsz
  generalize hq : w.heap.size + 1 + 1 = q at *
  generalize ha : w.heap.size + 1 = a at *
  have hc1 := (s1.bel.cell (p := ⟨b, o, none⟩) hbB).trans hc0
  go_wp2_with fail
  refine (take11_any b o m cap 1 q (o + 1) (m - 1) (cap - 1) _ _ (by omega) s1.bq (by omega) (by omega) (by omega) (by omega) (by omega) (by omega)).mono ?_
  rintro e w2' ⟨rfl, A2, hA2, hw2⟩
  obtain rfl := hA2 (by omega)
  have s2 := s1.take (some ⟨b, (o + 1), none⟩) (m - 1) (cap - 1)
  rw [← hw2] at s2
  clear hw2 s1
  have hcc := (s2.bel.cell (p := ⟨b, o, none⟩) hbB).trans hc0
  have hcd := (s2.bel.cell (p := ⟨b, o + 9, none⟩) hbB).trans hc9
  obtain ⟨c0, c1, c2, c3, c4⟩ := s2.r5
  obtain ⟨f0, f1, f2, f3, f4⟩ := s2.f5
  have s3 := s2.put 0 (.int .i64 2) ⟨2, 0, ⟨#[]⟩, 0, 0⟩ rfl
  go_wp2_with fail
  generalize w2'.setCell ⟨a, 0, none⟩ (.int .i64 2) = w3' at *
  clear c0 c1 c2 c3 c4 f0 f1 f2 f3 f4 hcc hcd
  clear s2
  refine (take11_any b (o + 1) (m - 1) (cap - 1) 8 q (o + 9) (m - 9) (cap - 9) _ _ (by omega) s3.bq (by omega) (by omega) (by omega) (by omega) (by omega) (by omega)).mono ?_
  rintro e w4' ⟨rfl, A4, hA4, hw4⟩
  obtain rfl := hA4 (by omega)
  have s4 := s3.take (some ⟨b, (o + 9), none⟩) (m - 9) (cap - 9)
  rw [← hw4] at s4
  clear hw4 s3
  go_wp2_with fail
  refine (number11_any b o (cap - 1) 1 (o + 1) ys _ _ (HR.out.below s4.bel) (by omega) (by rw [HM.out]; omega) (by omega)).mono ?_
  rintro e w' ⟨rfl, rfl⟩
  have hcc := (s4.bel.cell (p := ⟨b, o, none⟩) hbB).trans hc0
  have hcd := (s4.bel.cell (p := ⟨b, o + 9, none⟩) hbB).trans hc9
  obtain ⟨c0, c1, c2, c3, c4⟩ := s4.r5
  obtain ⟨f0, f1, f2, f3, f4⟩ := s4.f5
  have s5 := s4.put 1 (.int .i64 (n8 ys 1)) ⟨2, n8 ys 1, ⟨#[]⟩, 0, 0⟩ rfl
  have e0 := s5.r5.1
  have e1 : (w4'.setCell ⟨a, 1, none⟩ (.int .i64 (n8 ys 1))).cell? ⟨a, 0, none⟩ = some (.int .i64 2) := e0
  clear e0
  go_wp2_with fail
  refine (hasTag_any 2 _).mono ?_
  rintro e w' ⟨rfl, rfl⟩
  rw [show tgK 2 = true from rfl]
  clear e1
  generalize w4'.setCell ⟨a, 1, none⟩ (.int .i64 (n8 ys 1)) = w5' at *
  clear c0 c1 c2 c3 c4 f0 f1 f2 f3 f4 hcc hcd
  clear s4
  go_wp2_with fail
  refine (take11_any b (o + 9) (m - 9) (cap - 9) 1 q (o + 10) (m - 10) (cap - 10) _ _ (by omega) s5.bq (by omega) (by omega) (by omega) (by omega) (by omega) (by omega)).mono ?_
  rintro e w6' ⟨rfl, A6, hA6, hw6⟩
  obtain rfl := hA6 (by omega)
  have s6 := s5.take (some ⟨b, (o + 10), none⟩) (m - 10) (cap - 10)
  rw [← hw6] at s6
  clear hw6 s5
  have hcc := (s6.bel.cell (p := ⟨b, o, none⟩) hbB).trans hc0
  have hcd := (s6.bel.cell (p := ⟨b, o + 9, none⟩) hbB).trans hc9
  obtain ⟨c0, c1, c2, c3, c4⟩ := s6.r5
  obtain ⟨f0, f1, f2, f3, f4⟩ := s6.f5
  go_wp2_with fail
  clear c0 c1 c2 c3 c4 f0 f1 f2 f3 f4 hcc hcd
  refine (take11_any b (o + 10) (m - 10) (cap - 10) N q (o + (10 + N)) (m - (10 + N)) (cap - (10 + N)) _ _ (by omega) s6.bq (by omega) (by omega) (by omega) (by omega) (by omega) (by omega)).mono ?_
  rintro e w7' ⟨rfl, A7, hA7, hw7⟩
  obtain rfl := hA7 (by omega)
  have s7 := s6.take (some ⟨b, (o + (10 + N)), none⟩) (m - (10 + N)) (cap - (10 + N))
  rw [← hw7] at s7
  clear hw7 s6
  have hcv := run_convert_bytes_arg (P := Try.prog) w7' 24 5 Try.underlying24 Try.underlying5 b (o + 10) N (cap - 10) gs HX.out (by
    intro j hj
    obtain ⟨b', o', hA, _, hcj⟩ := (HXR.out.below s7.bel).at_ (i := j) (by rw [HX.out]; exact hj)
    injection hA with hA
    injection hA with hA1 hA2
    subst hA1 hA2
    exact hcj) 9 Try.underlying9
  have hcc := (s7.bel.cell (p := ⟨b, o, none⟩) hbB).trans hc0
  have hcd := (s7.bel.cell (p := ⟨b, o + 9, none⟩) hbB).trans hc9
  obtain ⟨c0, c1, c2, c3, c4⟩ := s7.r5
  obtain ⟨f0, f1, f2, f3, f4⟩ := s7.f5
  have s8 := s7.put 2 (.string (strOfNums gs)) ⟨2, n8 ys 1, strOfNums gs, 0, 0⟩ rfl
  have e0 := s8.r5.1
  have e1 : (w7'.setCell ⟨a, 2, none⟩ (.string (strOfNums gs))).cell? ⟨a, 0, none⟩ = some (.int .i64 2) := e0
  clear e0
  go_wp2_with fail
  refine (hasId_any 2 _).mono ?_
  rintro e w' ⟨rfl, rfl⟩
  rw [show idK 2 = false from rfl]
  clear e1
  generalize w7'.setCell ⟨a, 2, none⟩ (.string (strOfNums gs)) = w8' at *
  clear c0 c1 c2 c3 c4 f0 f1 f2 f3 f4 hcc hcd
  clear s7
  have hcc := (s8.bel.cell (p := ⟨b, o, none⟩) hbB).trans hc0
  have hcd := (s8.bel.cell (p := ⟨b, o + 9, none⟩) hbB).trans hc9
  obtain ⟨c0, c1, c2, c3, c4⟩ := s8.r5
  obtain ⟨f0, f1, f2, f3, f4⟩ := s8.f5
  go_wp2_with fail
  refine (hasValue_any 2 _).mono ?_
  rintro e w' ⟨rfl, rfl⟩
  rw [show vlK 2 = true from rfl]
  clear c0 c1 c2 c3 c4 f0 f1 f2 f3 f4 hcc hcd
  go_wp2_with fail
  refine (take11_any b (o + (10 + N)) (m - (10 + N)) (cap - (10 + N)) 8 q (o + (18 + N)) (m - (18 + N)) (cap - (18 + N)) _ _ (by omega) s8.bq (by omega) (by omega) (by omega) (by omega) (by omega) (by omega)).mono ?_
  rintro e w9' ⟨rfl, A9, hA9, hw9⟩
  clear hA9
  have s9 := s8.take A9 (m - (18 + N)) (cap - (18 + N))
  rw [← hw9] at s9
  clear hw9 s8
  go_wp2_with fail
  refine (number11_any b o (cap - (10 + N)) (10 + N) (o + (10 + N)) ys _ _ (HR.out.below s9.bel) (by omega) (by rw [HM.out]; omega) (by omega)).mono ?_
  rintro e w' ⟨rfl, rfl⟩
  have hcc := (s9.bel.cell (p := ⟨b, o, none⟩) hbB).trans hc0
  have hcd := (s9.bel.cell (p := ⟨b, o + 9, none⟩) hbB).trans hc9
  obtain ⟨c0, c1, c2, c3, c4⟩ := s9.r5
  obtain ⟨f0, f1, f2, f3, f4⟩ := s9.f5
  have s10 := s9.put 3 (.int .i64 (n8 ys (10 + N))) ⟨2, n8 ys 1, strOfNums gs, n8 ys (10 + N), 0⟩ rfl
  have e5 := s10.r5
  have e6 := s10.c5
  obtain ⟨e0, e1, e2, e3, e4⟩ : (w9'.setCell ⟨a, 3, none⟩ (.int .i64 (n8 ys (10 + N)))).cell? ⟨a, 0, none⟩ = some (.int .i64 2) ∧ (w9'.setCell ⟨a, 3, none⟩ (.int .i64 (n8 ys (10 + N)))).cell? ⟨a, 1, none⟩ = some (.int .i64 (n8 ys 1)) ∧ (w9'.setCell ⟨a, 3, none⟩ (.int .i64 (n8 ys (10 + N)))).cell? ⟨a, 2, none⟩ = some (.string (strOfNums gs)) ∧ (w9'.setCell ⟨a, 3, none⟩ (.int .i64 (n8 ys (10 + N)))).cell? ⟨a, 3, none⟩ = some (.int .i64 (n8 ys (10 + N))) ∧ (w9'.setCell ⟨a, 3, none⟩ (.int .i64 (n8 ys (10 + N)))).cell? ⟨a, 4, none⟩ = some (.int .i64 (0)) := e5
  obtain ⟨⟨z0, z1, z2, z3, z4⟩, y0, y1, y2, y3, y4⟩ := e6
  have P5 := Lib.hid (s10.done (.int .i64 2) (.int .i64 (n8 ys 1)) (.string (strOfNums gs)) (.int .i64 (n8 ys (10 + N))) (.int .i64 (0)))
  go_wp2
  (try simp only [Exit.inBlock, Exit.then])
  show bodyPost _ _ _ _ _ (put5 (w9'.setCell ⟨a, 3, none⟩ (.int .i64 (n8 ys (10 + N)))) w.heap.size (.int .i64 2) (.int .i64 (n8 ys 1)) (.string (strOfNums gs)) (.int .i64 (n8 ys (10 + N))) (.int .i64 (0)))
  generalize put5 (w9'.setCell ⟨a, 3, none⟩ (.int .i64 (n8 ys (10 + N)))) w.heap.size (.int .i64 2) (.int .i64 (n8 ys 1)) (.string (strOfNums gs)) (.int .i64 (n8 ys (10 + N))) (.int .i64 (0)) = wz at *
  obtain ⟨x0, x1, x2, x3, x4⟩ := cells5 P5.out.1
  refine bodyPost_ret (v := .agg #[.int .i64 2, .int .i64 (n8 ys 1), .string (strOfNums gs), .int .i64 (n8 ys (10 + N)), .int .i64 (0)]) (by simp [results, Try.results37, go_sem, x0, x1, x2, x3, x4]) rfl ?_
  exact ⟨rfl, P5.out.2⟩
theorem rd_3 (ys : List Int) (h : nth ys 0 = 3) : rdRc ys = ⟨3, n8 ys 1, ⟨#[]⟩, n8 ys 9, 0⟩ := by unfold rdRc atVl atRc; rw [h]; simp [tgK, idK, vlK]
set_option maxHeartbeats 4000000 in
theorem read_3 (b o m cap : Nat) (ys : List Int) (w : World) (hr : Row .u8 w w.heap.size (some ⟨b, o, none⟩) ys) (hm : ys.length = m) (hlen : m = 17) (hcap : m ≤ cap) (hcb : cap ≤ 9223372036854775807) (hk : nth ys 0 = 3) :
    Calls Try.prog 37 #[.slice (some ⟨b, o, none⟩) m cap] w fun e w' => e = .returned (rcV (rdRc ys)) ∧ Below w.heap.size w w' := by
  have HD := Lib.hid (rd_3 ys hk)
  rw [HD.out]
  unfold rcV
  have HR := Lib.hid hr
  have HM := Lib.hid hm
  obtain ⟨b', o', hA, hbB, hc0⟩ := hr.at_ (i := 0) (by omega)
  injection hA with hA
  injection hA with hA1 hA2
  subst hA1 hA2
  rw [hk, Nat.add_zero] at hc0
  have hl1 := Nat.le_of_eq hlen
  have hl2 := Nat.le_of_eq hlen.symm
  clear hr hm hk HD hlen
  go_enter Try.func37, Try.ntmps37
  go_wp2_with fail
  refine (taker11_any (some ⟨b, o, none⟩) m cap _).mono ?_
  rintro e w1' ⟨rfl, hw1⟩
  have s1 : RS w w.heap.size (w.heap.size + 1) (w.heap.size + 1 + 1) zRc (some ⟨b, o, none⟩) m cap w1' := by
    subst hw1
    have hx := Bx.new w (.cells #[.int .i64 0, .int .i64 0, .string ⟨#[]⟩, .int .i64 0, .int .i64 0] 23)
    have hx2 := hx.alloc (.cells #[.int .i64 0, .int .i64 0, .string ⟨#[]⟩, .int .i64 0, .int .i64 0] 23)
    have hx3 := hx2.alloc (.cells #[.slice (some ⟨b, o, none⟩) m cap] 24)
    have hy := heap_alloc_two w (.cells #[.int .i64 0, .int .i64 0, .string ⟨#[]⟩, .int .i64 0, .int .i64 0] 23) (.cells #[.int .i64 0, .int .i64 0, .string ⟨#[]⟩, .int .i64 0, .int .i64 0] 23)
    have hsz : ((w.alloc (.cells #[.int .i64 0, .int .i64 0, .string ⟨#[]⟩, .int .i64 0, .int .i64 0] 23)).alloc (.cells #[.int .i64 0, .int .i64 0, .string ⟨#[]⟩, .int .i64 0, .int .i64 0] 23)).heap.size = w.heap.size + 1 + 1 := by simp
    have hy2 := heap_alloc_new ((w.alloc (.cells #[.int .i64 0, .int .i64 0, .string ⟨#[]⟩, .int .i64 0, .int .i64 0] 23)).alloc (.cells #[.int .i64 0, .int .i64 0, .string ⟨#[]⟩, .int .i64 0, .int .i64 0] 23)) (.cells #[.slice (some ⟨b, o, none⟩) m cap] 24)
    rw [hsz] at hy2
    exact ⟨hx3.1, (heap_alloc_old _ _ (by rw [hsz]; omega)).trans hy, hy2, hx3.2, Nat.le_refl _, Nat.lt_succ_self _, Nat.lt_succ_self _⟩
  have hsz : ((w.alloc (.cells #[.int .i64 0, .int .i64 0, .string ⟨#[]⟩, .int .i64 0, .int .i64 0] 23)).alloc (.cells #[.int .i64 0, .int .i64 0, .string ⟨#[]⟩, .int .i64 0, .int .i64 0] 23)).heap.size = w.heap.size + 1 + 1 := by simp
  rw [hsz]
  clear hw1 hsz
  generalize hq : w.heap.size + 1 + 1 = q at *
  generalize ha : w.heap.size + 1 = a at *
  have hc1 := (s1.bel.cell (p := ⟨b, o, none⟩) hbB).trans hc0
  go_wp2_with fail
  refine (take11_any b o m cap 1 q (o + 1) (m - 1) (cap - 1) _ _ (by omega) s1.bq (by omega) (by omega) (by omega) (by omega) (by omega) (by omega)).mono ?_
  rintro e w2' ⟨rfl, A2, hA2, hw2⟩
  obtain rfl := hA2 (by omega)
  have s2 := s1.take (some ⟨b, (o + 1), none⟩) (m - 1) (cap - 1)
  rw [← hw2] at s2
  clear hw2 s1
  have hcc := (s2.bel.cell (p := ⟨b, o, none⟩) hbB).trans hc0
  obtain ⟨c0, c1, c2, c3, c4⟩ := s2.r5
  obtain ⟨f0, f1, f2, f3, f4⟩ := s2.f5
  have s3 := s2.put 0 (.int .i64 3) ⟨3, 0, ⟨#[]⟩, 0, 0⟩ rfl
  go_wp2_with fail
  generalize w2'.setCell ⟨a, 0, none⟩ (.int .i64 3) = w3' at *
  clear c0 c1 c2 c3 c4 f0 f1 f2 f3 f4 hcc
  clear s2
  refine (take11_any b (o + 1) (m - 1) (cap - 1) 8 q (o + 9) (m - 9) (cap - 9) _ _ (by omega) s3.bq (by omega) (by omega) (by omega) (by omega) (by omega) (by omega)).mono ?_
  rintro e w4' ⟨rfl, A4, hA4, hw4⟩
  obtain rfl := hA4 (by omega)
  have s4 := s3.take (some ⟨b, (o + 9), none⟩) (m - 9) (cap - 9)
  rw [← hw4] at s4
  clear hw4 s3
  go_wp2_with fail
  refine (number11_any b o (cap - 1) 1 (o + 1) ys _ _ (HR.out.below s4.bel) (by omega) (by rw [HM.out]; omega) (by omega)).mono ?_
  rintro e w' ⟨rfl, rfl⟩
  have hcc := (s4.bel.cell (p := ⟨b, o, none⟩) hbB).trans hc0
  obtain ⟨c0, c1, c2, c3, c4⟩ := s4.r5
  obtain ⟨f0, f1, f2, f3, f4⟩ := s4.f5
  have s5 := s4.put 1 (.int .i64 (n8 ys 1)) ⟨3, n8 ys 1, ⟨#[]⟩, 0, 0⟩ rfl
  have e0 := s5.r5.1
  have e1 : (w4'.setCell ⟨a, 1, none⟩ (.int .i64 (n8 ys 1))).cell? ⟨a, 0, none⟩ = some (.int .i64 3) := e0
  clear e0
  go_wp2_with fail
  refine (hasTag_any 3 _).mono ?_
  rintro e w' ⟨rfl, rfl⟩
  rw [show tgK 3 = false from rfl]
  clear e1
  generalize w4'.setCell ⟨a, 1, none⟩ (.int .i64 (n8 ys 1)) = w5' at *
  clear c0 c1 c2 c3 c4 f0 f1 f2 f3 f4 hcc
  clear s4
  have hcc := (s5.bel.cell (p := ⟨b, o, none⟩) hbB).trans hc0
  obtain ⟨c0, c1, c2, c3, c4⟩ := s5.r5
  obtain ⟨f0, f1, f2, f3, f4⟩ := s5.f5
  go_wp2_with fail
  refine (hasId_any 3 _).mono ?_
  rintro e w' ⟨rfl, rfl⟩
  rw [show idK 3 = false from rfl]
  clear c0 c1 c2 c3 c4 f0 f1 f2 f3 f4 hcc
  have hcc := (s5.bel.cell (p := ⟨b, o, none⟩) hbB).trans hc0
  obtain ⟨c0, c1, c2, c3, c4⟩ := s5.r5
  obtain ⟨f0, f1, f2, f3, f4⟩ := s5.f5
  go_wp2_with fail
  refine (hasValue_any 3 _).mono ?_
  rintro e w' ⟨rfl, rfl⟩
  rw [show vlK 3 = true from rfl]
  clear c0 c1 c2 c3 c4 f0 f1 f2 f3 f4 hcc
  go_wp2_with fail
  refine (take11_any b (o + 9) (m - 9) (cap - 9) 8 q (o + 17) (m - 17) (cap - 17) _ _ (by omega) s5.bq (by omega) (by omega) (by omega) (by omega) (by omega) (by omega)).mono ?_
  rintro e w6' ⟨rfl, A6, hA6, hw6⟩
  clear hA6
  have s6 := s5.take A6 (m - 17) (cap - 17)
  rw [← hw6] at s6
  clear hw6 s5
  go_wp2_with fail
  refine (number11_any b o (cap - 9) 9 (o + 9) ys _ _ (HR.out.below s6.bel) (by omega) (by rw [HM.out]; omega) (by omega)).mono ?_
  rintro e w' ⟨rfl, rfl⟩
  have hcc := (s6.bel.cell (p := ⟨b, o, none⟩) hbB).trans hc0
  obtain ⟨c0, c1, c2, c3, c4⟩ := s6.r5
  obtain ⟨f0, f1, f2, f3, f4⟩ := s6.f5
  have s7 := s6.put 3 (.int .i64 (n8 ys 9)) ⟨3, n8 ys 1, ⟨#[]⟩, n8 ys 9, 0⟩ rfl
  have e5 := s7.r5
  have e6 := s7.c5
  obtain ⟨e0, e1, e2, e3, e4⟩ : (w6'.setCell ⟨a, 3, none⟩ (.int .i64 (n8 ys 9))).cell? ⟨a, 0, none⟩ = some (.int .i64 3) ∧ (w6'.setCell ⟨a, 3, none⟩ (.int .i64 (n8 ys 9))).cell? ⟨a, 1, none⟩ = some (.int .i64 (n8 ys 1)) ∧ (w6'.setCell ⟨a, 3, none⟩ (.int .i64 (n8 ys 9))).cell? ⟨a, 2, none⟩ = some (.string (⟨#[]⟩)) ∧ (w6'.setCell ⟨a, 3, none⟩ (.int .i64 (n8 ys 9))).cell? ⟨a, 3, none⟩ = some (.int .i64 (n8 ys 9)) ∧ (w6'.setCell ⟨a, 3, none⟩ (.int .i64 (n8 ys 9))).cell? ⟨a, 4, none⟩ = some (.int .i64 (0)) := e5
  obtain ⟨⟨z0, z1, z2, z3, z4⟩, y0, y1, y2, y3, y4⟩ := e6
  have P5 := Lib.hid (s7.done (.int .i64 3) (.int .i64 (n8 ys 1)) (.string (⟨#[]⟩)) (.int .i64 (n8 ys 9)) (.int .i64 (0)))
  go_wp2
  (try simp only [Exit.inBlock, Exit.then])
  show bodyPost _ _ _ _ _ (put5 (w6'.setCell ⟨a, 3, none⟩ (.int .i64 (n8 ys 9))) w.heap.size (.int .i64 3) (.int .i64 (n8 ys 1)) (.string (⟨#[]⟩)) (.int .i64 (n8 ys 9)) (.int .i64 (0)))
  generalize put5 (w6'.setCell ⟨a, 3, none⟩ (.int .i64 (n8 ys 9))) w.heap.size (.int .i64 3) (.int .i64 (n8 ys 1)) (.string (⟨#[]⟩)) (.int .i64 (n8 ys 9)) (.int .i64 (0)) = wz at *
  obtain ⟨x0, x1, x2, x3, x4⟩ := cells5 P5.out.1
  refine bodyPost_ret (v := .agg #[.int .i64 3, .int .i64 (n8 ys 1), .string (⟨#[]⟩), .int .i64 (n8 ys 9), .int .i64 (0)]) (by simp [results, Try.results37, go_sem, x0, x1, x2, x3, x4]) rfl ?_
  exact ⟨rfl, P5.out.2⟩
theorem rd_4 (ys : List Int) (h : nth ys 0 = 4) : rdRc ys = ⟨4, n8 ys 1, ⟨#[]⟩, n8 ys 9, 0⟩ := by unfold rdRc atVl atRc; rw [h]; simp [tgK, idK, vlK]
set_option maxHeartbeats 4000000 in
theorem read_4 (b o m cap : Nat) (ys : List Int) (w : World) (hr : Row .u8 w w.heap.size (some ⟨b, o, none⟩) ys) (hm : ys.length = m) (hlen : m = 17) (hcap : m ≤ cap) (hcb : cap ≤ 9223372036854775807) (hk : nth ys 0 = 4) :
    Calls Try.prog 37 #[.slice (some ⟨b, o, none⟩) m cap] w fun e w' => e = .returned (rcV (rdRc ys)) ∧ Below w.heap.size w w' := by
  have HD := Lib.hid (rd_4 ys hk)
  rw [HD.out]
  unfold rcV
  have HR := Lib.hid hr
  have HM := Lib.hid hm
  obtain ⟨b', o', hA, hbB, hc0⟩ := hr.at_ (i := 0) (by omega)
  injection hA with hA
  injection hA with hA1 hA2
  subst hA1 hA2
  rw [hk, Nat.add_zero] at hc0
  have hl1 := Nat.le_of_eq hlen
  have hl2 := Nat.le_of_eq hlen.symm
  clear hr hm hk HD hlen
  go_enter Try.func37, Try.ntmps37
  go_wp2_with fail
  refine (taker11_any (some ⟨b, o, none⟩) m cap _).mono ?_
  rintro e w1' ⟨rfl, hw1⟩
  have s1 : RS w w.heap.size (w.heap.size + 1) (w.heap.size + 1 + 1) zRc (some ⟨b, o, none⟩) m cap w1' := by
    subst hw1
    have hx := Bx.new w (.cells #[.int .i64 0, .int .i64 0, .string ⟨#[]⟩, .int .i64 0, .int .i64 0] 23)
    have hx2 := hx.alloc (.cells #[.int .i64 0, .int .i64 0, .string ⟨#[]⟩, .int .i64 0, .int .i64 0] 23)
    have hx3 := hx2.alloc (.cells #[.slice (some ⟨b, o, none⟩) m cap] 24)
    have hy := heap_alloc_two w (.cells #[.int .i64 0, .int .i64 0, .string ⟨#[]⟩, .int .i64 0, .int .i64 0] 23) (.cells #[.int .i64 0, .int .i64 0, .string ⟨#[]⟩, .int .i64 0, .int .i64 0] 23)
    have hsz : ((w.alloc (.cells #[.int .i64 0, .int .i64 0, .string ⟨#[]⟩, .int .i64 0, .int .i64 0] 23)).alloc (.cells #[.int .i64 0, .int .i64 0, .string ⟨#[]⟩, .int .i64 0, .int .i64 0] 23)).heap.size = w.heap.size + 1 + 1 := by simp
    have hy2 := heap_alloc_new ((w.alloc (.cells #[.int .i64 0, .int .i64 0, .string ⟨#[]⟩, .int .i64 0, .int .i64 0] 23)).alloc (.cells #[.int .i64 0, .int .i64 0, .string ⟨#[]⟩, .int .i64 0, .int .i64 0] 23)) (.cells #[.slice (some ⟨b, o, none⟩) m cap] 24)
    rw [hsz] at hy2
    exact ⟨hx3.1, (heap_alloc_old _ _ (by rw [hsz]; omega)).trans hy, hy2, hx3.2, Nat.le_refl _, Nat.lt_succ_self _, Nat.lt_succ_self _⟩
  have hsz : ((w.alloc (.cells #[.int .i64 0, .int .i64 0, .string ⟨#[]⟩, .int .i64 0, .int .i64 0] 23)).alloc (.cells #[.int .i64 0, .int .i64 0, .string ⟨#[]⟩, .int .i64 0, .int .i64 0] 23)).heap.size = w.heap.size + 1 + 1 := by simp
  rw [hsz]
  clear hw1 hsz
  generalize hq : w.heap.size + 1 + 1 = q at *
  generalize ha : w.heap.size + 1 = a at *
  have hc1 := (s1.bel.cell (p := ⟨b, o, none⟩) hbB).trans hc0
  go_wp2_with fail
  refine (take11_any b o m cap 1 q (o + 1) (m - 1) (cap - 1) _ _ (by omega) s1.bq (by omega) (by omega) (by omega) (by omega) (by omega) (by omega)).mono ?_
  rintro e w2' ⟨rfl, A2, hA2, hw2⟩
  obtain rfl := hA2 (by omega)
  have s2 := s1.take (some ⟨b, (o + 1), none⟩) (m - 1) (cap - 1)
  rw [← hw2] at s2
  clear hw2 s1
  have hcc := (s2.bel.cell (p := ⟨b, o, none⟩) hbB).trans hc0
  obtain ⟨c0, c1, c2, c3, c4⟩ := s2.r5
  obtain ⟨f0, f1, f2, f3, f4⟩ := s2.f5
  have s3 := s2.put 0 (.int .i64 4) ⟨4, 0, ⟨#[]⟩, 0, 0⟩ rfl
  go_wp2_with fail
  generalize w2'.setCell ⟨a, 0, none⟩ (.int .i64 4) = w3' at *
  clear c0 c1 c2 c3 c4 f0 f1 f2 f3 f4 hcc
  clear s2
  refine (take11_any b (o + 1) (m - 1) (cap - 1) 8 q (o + 9) (m - 9) (cap - 9) _ _ (by omega) s3.bq (by omega) (by omega) (by omega) (by omega) (by omega) (by omega)).mono ?_
  rintro e w4' ⟨rfl, A4, hA4, hw4⟩
  obtain rfl := hA4 (by omega)
  have s4 := s3.take (some ⟨b, (o + 9), none⟩) (m - 9) (cap - 9)
  rw [← hw4] at s4
  clear hw4 s3
  go_wp2_with fail
  refine (number11_any b o (cap - 1) 1 (o + 1) ys _ _ (HR.out.below s4.bel) (by omega) (by rw [HM.out]; omega) (by omega)).mono ?_
  rintro e w' ⟨rfl, rfl⟩
  have hcc := (s4.bel.cell (p := ⟨b, o, none⟩) hbB).trans hc0
  obtain ⟨c0, c1, c2, c3, c4⟩ := s4.r5
  obtain ⟨f0, f1, f2, f3, f4⟩ := s4.f5
  have s5 := s4.put 1 (.int .i64 (n8 ys 1)) ⟨4, n8 ys 1, ⟨#[]⟩, 0, 0⟩ rfl
  have e0 := s5.r5.1
  have e1 : (w4'.setCell ⟨a, 1, none⟩ (.int .i64 (n8 ys 1))).cell? ⟨a, 0, none⟩ = some (.int .i64 4) := e0
  clear e0
  go_wp2_with fail
  refine (hasTag_any 4 _).mono ?_
  rintro e w' ⟨rfl, rfl⟩
  rw [show tgK 4 = false from rfl]
  clear e1
  generalize w4'.setCell ⟨a, 1, none⟩ (.int .i64 (n8 ys 1)) = w5' at *
  clear c0 c1 c2 c3 c4 f0 f1 f2 f3 f4 hcc
  clear s4
  have hcc := (s5.bel.cell (p := ⟨b, o, none⟩) hbB).trans hc0
  obtain ⟨c0, c1, c2, c3, c4⟩ := s5.r5
  obtain ⟨f0, f1, f2, f3, f4⟩ := s5.f5
  go_wp2_with fail
  refine (hasId_any 4 _).mono ?_
  rintro e w' ⟨rfl, rfl⟩
  rw [show idK 4 = false from rfl]
  clear c0 c1 c2 c3 c4 f0 f1 f2 f3 f4 hcc
  have hcc := (s5.bel.cell (p := ⟨b, o, none⟩) hbB).trans hc0
  obtain ⟨c0, c1, c2, c3, c4⟩ := s5.r5
  obtain ⟨f0, f1, f2, f3, f4⟩ := s5.f5
  go_wp2_with fail
  refine (hasValue_any 4 _).mono ?_
  rintro e w' ⟨rfl, rfl⟩
  rw [show vlK 4 = true from rfl]
  clear c0 c1 c2 c3 c4 f0 f1 f2 f3 f4 hcc
  go_wp2_with fail
  refine (take11_any b (o + 9) (m - 9) (cap - 9) 8 q (o + 17) (m - 17) (cap - 17) _ _ (by omega) s5.bq (by omega) (by omega) (by omega) (by omega) (by omega) (by omega)).mono ?_
  rintro e w6' ⟨rfl, A6, hA6, hw6⟩
  clear hA6
  have s6 := s5.take A6 (m - 17) (cap - 17)
  rw [← hw6] at s6
  clear hw6 s5
  go_wp2_with fail
  refine (number11_any b o (cap - 9) 9 (o + 9) ys _ _ (HR.out.below s6.bel) (by omega) (by rw [HM.out]; omega) (by omega)).mono ?_
  rintro e w' ⟨rfl, rfl⟩
  have hcc := (s6.bel.cell (p := ⟨b, o, none⟩) hbB).trans hc0
  obtain ⟨c0, c1, c2, c3, c4⟩ := s6.r5
  obtain ⟨f0, f1, f2, f3, f4⟩ := s6.f5
  have s7 := s6.put 3 (.int .i64 (n8 ys 9)) ⟨4, n8 ys 1, ⟨#[]⟩, n8 ys 9, 0⟩ rfl
  have e5 := s7.r5
  have e6 := s7.c5
  obtain ⟨e0, e1, e2, e3, e4⟩ : (w6'.setCell ⟨a, 3, none⟩ (.int .i64 (n8 ys 9))).cell? ⟨a, 0, none⟩ = some (.int .i64 4) ∧ (w6'.setCell ⟨a, 3, none⟩ (.int .i64 (n8 ys 9))).cell? ⟨a, 1, none⟩ = some (.int .i64 (n8 ys 1)) ∧ (w6'.setCell ⟨a, 3, none⟩ (.int .i64 (n8 ys 9))).cell? ⟨a, 2, none⟩ = some (.string (⟨#[]⟩)) ∧ (w6'.setCell ⟨a, 3, none⟩ (.int .i64 (n8 ys 9))).cell? ⟨a, 3, none⟩ = some (.int .i64 (n8 ys 9)) ∧ (w6'.setCell ⟨a, 3, none⟩ (.int .i64 (n8 ys 9))).cell? ⟨a, 4, none⟩ = some (.int .i64 (0)) := e5
  obtain ⟨⟨z0, z1, z2, z3, z4⟩, y0, y1, y2, y3, y4⟩ := e6
  have P5 := Lib.hid (s7.done (.int .i64 4) (.int .i64 (n8 ys 1)) (.string (⟨#[]⟩)) (.int .i64 (n8 ys 9)) (.int .i64 (0)))
  go_wp2
  (try simp only [Exit.inBlock, Exit.then])
  show bodyPost _ _ _ _ _ (put5 (w6'.setCell ⟨a, 3, none⟩ (.int .i64 (n8 ys 9))) w.heap.size (.int .i64 4) (.int .i64 (n8 ys 1)) (.string (⟨#[]⟩)) (.int .i64 (n8 ys 9)) (.int .i64 (0)))
  generalize put5 (w6'.setCell ⟨a, 3, none⟩ (.int .i64 (n8 ys 9))) w.heap.size (.int .i64 4) (.int .i64 (n8 ys 1)) (.string (⟨#[]⟩)) (.int .i64 (n8 ys 9)) (.int .i64 (0)) = wz at *
  obtain ⟨x0, x1, x2, x3, x4⟩ := cells5 P5.out.1
  refine bodyPost_ret (v := .agg #[.int .i64 4, .int .i64 (n8 ys 1), .string (⟨#[]⟩), .int .i64 (n8 ys 9), .int .i64 (0)]) (by simp [results, Try.results37, go_sem, x0, x1, x2, x3, x4]) rfl ?_
  exact ⟨rfl, P5.out.2⟩
theorem rd_5 (ys : List Int) (h : nth ys 0 = 5) : rdRc ys = ⟨5, n8 ys 1, ⟨#[]⟩, 0, n8 ys 9⟩ := by unfold rdRc atVl atRc; rw [h]; simp [tgK, idK, vlK]
set_option maxHeartbeats 4000000 in
theorem read_5 (b o m cap : Nat) (ys : List Int) (w : World) (hr : Row .u8 w w.heap.size (some ⟨b, o, none⟩) ys) (hm : ys.length = m) (hlen : m = 17) (hcap : m ≤ cap) (hcb : cap ≤ 9223372036854775807) (hk : nth ys 0 = 5) :
    Calls Try.prog 37 #[.slice (some ⟨b, o, none⟩) m cap] w fun e w' => e = .returned (rcV (rdRc ys)) ∧ Below w.heap.size w w' := by
  have HD := Lib.hid (rd_5 ys hk)
  rw [HD.out]
  unfold rcV
  have HR := Lib.hid hr
  have HM := Lib.hid hm
  obtain ⟨b', o', hA, hbB, hc0⟩ := hr.at_ (i := 0) (by omega)
  injection hA with hA
  injection hA with hA1 hA2
  subst hA1 hA2
  rw [hk, Nat.add_zero] at hc0
  have hl1 := Nat.le_of_eq hlen
  have hl2 := Nat.le_of_eq hlen.symm
  clear hr hm hk HD hlen
  go_enter Try.func37, Try.ntmps37
  go_wp2_with fail
  refine (taker11_any (some ⟨b, o, none⟩) m cap _).mono ?_
  rintro e w1' ⟨rfl, hw1⟩
  have s1 : RS w w.heap.size (w.heap.size + 1) (w.heap.size + 1 + 1) zRc (some ⟨b, o, none⟩) m cap w1' := by
    subst hw1
    have hx := Bx.new w (.cells #[.int .i64 0, .int .i64 0, .string ⟨#[]⟩, .int .i64 0, .int .i64 0] 23)
    have hx2 := hx.alloc (.cells #[.int .i64 0, .int .i64 0, .string ⟨#[]⟩, .int .i64 0, .int .i64 0] 23)
    have hx3 := hx2.alloc (.cells #[.slice (some ⟨b, o, none⟩) m cap] 24)
    have hy := heap_alloc_two w (.cells #[.int .i64 0, .int .i64 0, .string ⟨#[]⟩, .int .i64 0, .int .i64 0] 23) (.cells #[.int .i64 0, .int .i64 0, .string ⟨#[]⟩, .int .i64 0, .int .i64 0] 23)
    have hsz : ((w.alloc (.cells #[.int .i64 0, .int .i64 0, .string ⟨#[]⟩, .int .i64 0, .int .i64 0] 23)).alloc (.cells #[.int .i64 0, .int .i64 0, .string ⟨#[]⟩, .int .i64 0, .int .i64 0] 23)).heap.size = w.heap.size + 1 + 1 := by simp
    have hy2 := heap_alloc_new ((w.alloc (.cells #[.int .i64 0, .int .i64 0, .string ⟨#[]⟩, .int .i64 0, .int .i64 0] 23)).alloc (.cells #[.int .i64 0, .int .i64 0, .string ⟨#[]⟩, .int .i64 0, .int .i64 0] 23)) (.cells #[.slice (some ⟨b, o, none⟩) m cap] 24)
    rw [hsz] at hy2
    exact ⟨hx3.1, (heap_alloc_old _ _ (by rw [hsz]; omega)).trans hy, hy2, hx3.2, Nat.le_refl _, Nat.lt_succ_self _, Nat.lt_succ_self _⟩
  have hsz : ((w.alloc (.cells #[.int .i64 0, .int .i64 0, .string ⟨#[]⟩, .int .i64 0, .int .i64 0] 23)).alloc (.cells #[.int .i64 0, .int .i64 0, .string ⟨#[]⟩, .int .i64 0, .int .i64 0] 23)).heap.size = w.heap.size + 1 + 1 := by simp
  rw [hsz]
  clear hw1 hsz
  generalize hq : w.heap.size + 1 + 1 = q at *
  generalize ha : w.heap.size + 1 = a at *
  have hc1 := (s1.bel.cell (p := ⟨b, o, none⟩) hbB).trans hc0
  go_wp2_with fail
  refine (take11_any b o m cap 1 q (o + 1) (m - 1) (cap - 1) _ _ (by omega) s1.bq (by omega) (by omega) (by omega) (by omega) (by omega) (by omega)).mono ?_
  rintro e w2' ⟨rfl, A2, hA2, hw2⟩
  obtain rfl := hA2 (by omega)
  have s2 := s1.take (some ⟨b, (o + 1), none⟩) (m - 1) (cap - 1)
  rw [← hw2] at s2
  clear hw2 s1
  have hcc := (s2.bel.cell (p := ⟨b, o, none⟩) hbB).trans hc0
  obtain ⟨c0, c1, c2, c3, c4⟩ := s2.r5
  obtain ⟨f0, f1, f2, f3, f4⟩ := s2.f5
  have s3 := s2.put 0 (.int .i64 5) ⟨5, 0, ⟨#[]⟩, 0, 0⟩ rfl
  go_wp2_with fail
  generalize w2'.setCell ⟨a, 0, none⟩ (.int .i64 5) = w3' at *
  clear c0 c1 c2 c3 c4 f0 f1 f2 f3 f4 hcc
  clear s2
  refine (take11_any b (o + 1) (m - 1) (cap - 1) 8 q (o + 9) (m - 9) (cap - 9) _ _ (by omega) s3.bq (by omega) (by omega) (by omega) (by omega) (by omega) (by omega)).mono ?_
  rintro e w4' ⟨rfl, A4, hA4, hw4⟩
  obtain rfl := hA4 (by omega)
  have s4 := s3.take (some ⟨b, (o + 9), none⟩) (m - 9) (cap - 9)
  rw [← hw4] at s4
  clear hw4 s3
  go_wp2_with fail
  refine (number11_any b o (cap - 1) 1 (o + 1) ys _ _ (HR.out.below s4.bel) (by omega) (by rw [HM.out]; omega) (by omega)).mono ?_
  rintro e w' ⟨rfl, rfl⟩
  have hcc := (s4.bel.cell (p := ⟨b, o, none⟩) hbB).trans hc0
  obtain ⟨c0, c1, c2, c3, c4⟩ := s4.r5
  obtain ⟨f0, f1, f2, f3, f4⟩ := s4.f5
  have s5 := s4.put 1 (.int .i64 (n8 ys 1)) ⟨5, n8 ys 1, ⟨#[]⟩, 0, 0⟩ rfl
  have e0 := s5.r5.1
  have e1 : (w4'.setCell ⟨a, 1, none⟩ (.int .i64 (n8 ys 1))).cell? ⟨a, 0, none⟩ = some (.int .i64 5) := e0
  clear e0
  go_wp2_with fail
  refine (hasTag_any 5 _).mono ?_
  rintro e w' ⟨rfl, rfl⟩
  rw [show tgK 5 = false from rfl]
  clear e1
  generalize w4'.setCell ⟨a, 1, none⟩ (.int .i64 (n8 ys 1)) = w5' at *
  clear c0 c1 c2 c3 c4 f0 f1 f2 f3 f4 hcc
  clear s4
  have hcc := (s5.bel.cell (p := ⟨b, o, none⟩) hbB).trans hc0
  obtain ⟨c0, c1, c2, c3, c4⟩ := s5.r5
  obtain ⟨f0, f1, f2, f3, f4⟩ := s5.f5
  go_wp2_with fail
  refine (hasId_any 5 _).mono ?_
  rintro e w' ⟨rfl, rfl⟩
  rw [show idK 5 = true from rfl]
  clear c0 c1 c2 c3 c4 f0 f1 f2 f3 f4 hcc
  go_wp2_with fail
  refine (take11_any b (o + 9) (m - 9) (cap - 9) 8 q (o + 17) (m - 17) (cap - 17) _ _ (by omega) s5.bq (by omega) (by omega) (by omega) (by omega) (by omega) (by omega)).mono ?_
  rintro e w6' ⟨rfl, A6, hA6, hw6⟩
  clear hA6
  have s6 := s5.take A6 (m - 17) (cap - 17)
  rw [← hw6] at s6
  clear hw6 s5
  go_wp2_with fail
  refine (number11_any b o (cap - 9) 9 (o + 9) ys _ _ (HR.out.below s6.bel) (by omega) (by rw [HM.out]; omega) (by omega)).mono ?_
  rintro e w' ⟨rfl, rfl⟩
  have hcc := (s6.bel.cell (p := ⟨b, o, none⟩) hbB).trans hc0
  obtain ⟨c0, c1, c2, c3, c4⟩ := s6.r5
  obtain ⟨f0, f1, f2, f3, f4⟩ := s6.f5
  have s7 := s6.put 4 (.int .i64 (n8 ys 9)) ⟨5, n8 ys 1, ⟨#[]⟩, 0, n8 ys 9⟩ rfl
  have e0 := s7.r5.1
  have e1 : (w6'.setCell ⟨a, 4, none⟩ (.int .i64 (n8 ys 9))).cell? ⟨a, 0, none⟩ = some (.int .i64 5) := e0
  clear e0
  go_wp2_with fail
  refine (hasValue_any 5 _).mono ?_
  rintro e w' ⟨rfl, rfl⟩
  rw [show vlK 5 = false from rfl]
  clear e1
  generalize w6'.setCell ⟨a, 4, none⟩ (.int .i64 (n8 ys 9)) = w7' at *
  clear c0 c1 c2 c3 c4 f0 f1 f2 f3 f4 hcc
  clear s6
  have hcc := (s7.bel.cell (p := ⟨b, o, none⟩) hbB).trans hc0
  obtain ⟨c0, c1, c2, c3, c4⟩ := s7.r5
  obtain ⟨f0, f1, f2, f3, f4⟩ := s7.f5
  obtain ⟨⟨z0, z1, z2, z3, z4⟩, y0, y1, y2, y3, y4⟩ := s7.c5
  have P5 := Lib.hid (s7.done (.int .i64 5) (.int .i64 (n8 ys 1)) (.string (⟨#[]⟩)) (.int .i64 (0)) (.int .i64 (n8 ys 9)))
  go_wp2
  (try simp only [Exit.inBlock, Exit.then])
  show bodyPost _ _ _ _ _ (put5 w7' w.heap.size (.int .i64 5) (.int .i64 (n8 ys 1)) (.string (⟨#[]⟩)) (.int .i64 (0)) (.int .i64 (n8 ys 9)))
  generalize put5 w7' w.heap.size (.int .i64 5) (.int .i64 (n8 ys 1)) (.string (⟨#[]⟩)) (.int .i64 (0)) (.int .i64 (n8 ys 9)) = wz at *
  obtain ⟨x0, x1, x2, x3, x4⟩ := cells5 P5.out.1
  refine bodyPost_ret (v := .agg #[.int .i64 5, .int .i64 (n8 ys 1), .string (⟨#[]⟩), .int .i64 (0), .int .i64 (n8 ys 9)]) (by simp [results, Try.results37, go_sem, x0, x1, x2, x3, x4]) rfl ?_
  exact ⟨rfl, P5.out.2⟩
theorem rd_6 (ys : List Int) (h : nth ys 0 = 6) : rdRc ys = ⟨6, n8 ys 1, ⟨#[]⟩, n8 ys 17, n8 ys 9⟩ := by unfold rdRc atVl atRc; rw [h]; simp [tgK, idK, vlK]
set_option maxHeartbeats 4000000 in
theorem read_6 (b o m cap : Nat) (ys : List Int) (w : World) (hr : Row .u8 w w.heap.size (some ⟨b, o, none⟩) ys) (hm : ys.length = m) (hlen : m = 25) (hcap : m ≤ cap) (hcb : cap ≤ 9223372036854775807) (hk : nth ys 0 = 6) :
    Calls Try.prog 37 #[.slice (some ⟨b, o, none⟩) m cap] w fun e w' => e = .returned (rcV (rdRc ys)) ∧ Below w.heap.size w w' := by
  have HD := Lib.hid (rd_6 ys hk)
  rw [HD.out]
  unfold rcV
  have HR := Lib.hid hr
  have HM := Lib.hid hm
  obtain ⟨b', o', hA, hbB, hc0⟩ := hr.at_ (i := 0) (by omega)
  injection hA with hA
  injection hA with hA1 hA2
  subst hA1 hA2
  rw [hk, Nat.add_zero] at hc0
  have hl1 := Nat.le_of_eq hlen
  have hl2 := Nat.le_of_eq hlen.symm
  clear hr hm hk HD hlen
  go_enter Try.func37, Try.ntmps37
  go_wp2_with fail
  refine (taker11_any (some ⟨b, o, none⟩) m cap _).mono ?_
  rintro e w1' ⟨rfl, hw1⟩
  have s1 : RS w w.heap.size (w.heap.size + 1) (w.heap.size + 1 + 1) zRc (some ⟨b, o, none⟩) m cap w1' := by
    subst hw1
    have hx := Bx.new w (.cells #[.int .i64 0, .int .i64 0, .string ⟨#[]⟩, .int .i64 0, .int .i64 0] 23)
    have hx2 := hx.alloc (.cells #[.int .i64 0, .int .i64 0, .string ⟨#[]⟩, .int .i64 0, .int .i64 0] 23)
    have hx3 := hx2.alloc (.cells #[.slice (some ⟨b, o, none⟩) m cap] 24)
    have hy := heap_alloc_two w (.cells #[.int .i64 0, .int .i64 0, .string ⟨#[]⟩, .int .i64 0, .int .i64 0] 23) (.cells #[.int .i64 0, .int .i64 0, .string ⟨#[]⟩, .int .i64 0, .int .i64 0] 23)
    have hsz : ((w.alloc (.cells #[.int .i64 0, .int .i64 0, .string ⟨#[]⟩, .int .i64 0, .int .i64 0] 23)).alloc (.cells #[.int .i64 0, .int .i64 0, .string ⟨#[]⟩, .int .i64 0, .int .i64 0] 23)).heap.size = w.heap.size + 1 + 1 := by simp
    have hy2 := heap_alloc_new ((w.alloc (.cells #[.int .i64 0, .int .i64 0, .string ⟨#[]⟩, .int .i64 0, .int .i64 0] 23)).alloc (.cells #[.int .i64 0, .int .i64 0, .string ⟨#[]⟩, .int .i64 0, .int .i64 0] 23)) (.cells #[.slice (some ⟨b, o, none⟩) m cap] 24)
    rw [hsz] at hy2
    exact ⟨hx3.1, (heap_alloc_old _ _ (by rw [hsz]; omega)).trans hy, hy2, hx3.2, Nat.le_refl _, Nat.lt_succ_self _, Nat.lt_succ_self _⟩
  have hsz : ((w.alloc (.cells #[.int .i64 0, .int .i64 0, .string ⟨#[]⟩, .int .i64 0, .int .i64 0] 23)).alloc (.cells #[.int .i64 0, .int .i64 0, .string ⟨#[]⟩, .int .i64 0, .int .i64 0] 23)).heap.size = w.heap.size + 1 + 1 := by simp
  rw [hsz]
  clear hw1 hsz
  generalize hq : w.heap.size + 1 + 1 = q at *
  generalize ha : w.heap.size + 1 = a at *
  have hc1 := (s1.bel.cell (p := ⟨b, o, none⟩) hbB).trans hc0
  go_wp2_with fail
  refine (take11_any b o m cap 1 q (o + 1) (m - 1) (cap - 1) _ _ (by omega) s1.bq (by omega) (by omega) (by omega) (by omega) (by omega) (by omega)).mono ?_
  rintro e w2' ⟨rfl, A2, hA2, hw2⟩
  obtain rfl := hA2 (by omega)
  have s2 := s1.take (some ⟨b, (o + 1), none⟩) (m - 1) (cap - 1)
  rw [← hw2] at s2
  clear hw2 s1
  have hcc := (s2.bel.cell (p := ⟨b, o, none⟩) hbB).trans hc0
  obtain ⟨c0, c1, c2, c3, c4⟩ := s2.r5
  obtain ⟨f0, f1, f2, f3, f4⟩ := s2.f5
  have s3 := s2.put 0 (.int .i64 6) ⟨6, 0, ⟨#[]⟩, 0, 0⟩ rfl
  go_wp2_with fail
  generalize w2'.setCell ⟨a, 0, none⟩ (.int .i64 6) = w3' at *
  clear c0 c1 c2 c3 c4 f0 f1 f2 f3 f4 hcc
  clear s2
  refine (take11_any b (o + 1) (m - 1) (cap - 1) 8 q (o + 9) (m - 9) (cap - 9) _ _ (by omega) s3.bq (by omega) (by omega) (by omega) (by omega) (by omega) (by omega)).mono ?_
  rintro e w4' ⟨rfl, A4, hA4, hw4⟩
  obtain rfl := hA4 (by omega)
  have s4 := s3.take (some ⟨b, (o + 9), none⟩) (m - 9) (cap - 9)
  rw [← hw4] at s4
  clear hw4 s3
  go_wp2_with fail
  refine (number11_any b o (cap - 1) 1 (o + 1) ys _ _ (HR.out.below s4.bel) (by omega) (by rw [HM.out]; omega) (by omega)).mono ?_
  rintro e w' ⟨rfl, rfl⟩
  have hcc := (s4.bel.cell (p := ⟨b, o, none⟩) hbB).trans hc0
  obtain ⟨c0, c1, c2, c3, c4⟩ := s4.r5
  obtain ⟨f0, f1, f2, f3, f4⟩ := s4.f5
  have s5 := s4.put 1 (.int .i64 (n8 ys 1)) ⟨6, n8 ys 1, ⟨#[]⟩, 0, 0⟩ rfl
  have e0 := s5.r5.1
  have e1 : (w4'.setCell ⟨a, 1, none⟩ (.int .i64 (n8 ys 1))).cell? ⟨a, 0, none⟩ = some (.int .i64 6) := e0
  clear e0
  go_wp2_with fail
  refine (hasTag_any 6 _).mono ?_
  rintro e w' ⟨rfl, rfl⟩
  rw [show tgK 6 = false from rfl]
  clear e1
  generalize w4'.setCell ⟨a, 1, none⟩ (.int .i64 (n8 ys 1)) = w5' at *
  clear c0 c1 c2 c3 c4 f0 f1 f2 f3 f4 hcc
  clear s4
  have hcc := (s5.bel.cell (p := ⟨b, o, none⟩) hbB).trans hc0
  obtain ⟨c0, c1, c2, c3, c4⟩ := s5.r5
  obtain ⟨f0, f1, f2, f3, f4⟩ := s5.f5
  go_wp2_with fail
  refine (hasId_any 6 _).mono ?_
  rintro e w' ⟨rfl, rfl⟩
  rw [show idK 6 = true from rfl]
  clear c0 c1 c2 c3 c4 f0 f1 f2 f3 f4 hcc
  go_wp2_with fail
  refine (take11_any b (o + 9) (m - 9) (cap - 9) 8 q (o + 17) (m - 17) (cap - 17) _ _ (by omega) s5.bq (by omega) (by omega) (by omega) (by omega) (by omega) (by omega)).mono ?_
  rintro e w6' ⟨rfl, A6, hA6, hw6⟩
  obtain rfl := hA6 (by omega)
  have s6 := s5.take (some ⟨b, (o + 17), none⟩) (m - 17) (cap - 17)
  rw [← hw6] at s6
  clear hw6 s5
  go_wp2_with fail
  refine (number11_any b o (cap - 9) 9 (o + 9) ys _ _ (HR.out.below s6.bel) (by omega) (by rw [HM.out]; omega) (by omega)).mono ?_
  rintro e w' ⟨rfl, rfl⟩
  have hcc := (s6.bel.cell (p := ⟨b, o, none⟩) hbB).trans hc0
  obtain ⟨c0, c1, c2, c3, c4⟩ := s6.r5
  obtain ⟨f0, f1, f2, f3, f4⟩ := s6.f5
  have s7 := s6.put 4 (.int .i64 (n8 ys 9)) ⟨6, n8 ys 1, ⟨#[]⟩, 0, n8 ys 9⟩ rfl
  have e0 := s7.r5.1
  have e1 : (w6'.setCell ⟨a, 4, none⟩ (.int .i64 (n8 ys 9))).cell? ⟨a, 0, none⟩ = some (.int .i64 6) := e0
  clear e0
  go_wp2_with fail
  refine (hasValue_any 6 _).mono ?_
  rintro e w' ⟨rfl, rfl⟩
  rw [show vlK 6 = true from rfl]
  clear e1
  generalize w6'.setCell ⟨a, 4, none⟩ (.int .i64 (n8 ys 9)) = w7' at *
  clear c0 c1 c2 c3 c4 f0 f1 f2 f3 f4 hcc
  clear s6
  go_wp2_with fail
  refine (take11_any b (o + 17) (m - 17) (cap - 17) 8 q (o + 25) (m - 25) (cap - 25) _ _ (by omega) s7.bq (by omega) (by omega) (by omega) (by omega) (by omega) (by omega)).mono ?_
  rintro e w8' ⟨rfl, A8, hA8, hw8⟩
  clear hA8
  have s8 := s7.take A8 (m - 25) (cap - 25)
  rw [← hw8] at s8
  clear hw8 s7
  go_wp2_with fail
  refine (number11_any b o (cap - 17) 17 (o + 17) ys _ _ (HR.out.below s8.bel) (by omega) (by rw [HM.out]; omega) (by omega)).mono ?_
  rintro e w' ⟨rfl, rfl⟩
  have hcc := (s8.bel.cell (p := ⟨b, o, none⟩) hbB).trans hc0
  obtain ⟨c0, c1, c2, c3, c4⟩ := s8.r5
  obtain ⟨f0, f1, f2, f3, f4⟩ := s8.f5
  have s9 := s8.put 3 (.int .i64 (n8 ys 17)) ⟨6, n8 ys 1, ⟨#[]⟩, n8 ys 17, n8 ys 9⟩ rfl
  have e5 := s9.r5
  have e6 := s9.c5
  obtain ⟨e0, e1, e2, e3, e4⟩ : (w8'.setCell ⟨a, 3, none⟩ (.int .i64 (n8 ys 17))).cell? ⟨a, 0, none⟩ = some (.int .i64 6) ∧ (w8'.setCell ⟨a, 3, none⟩ (.int .i64 (n8 ys 17))).cell? ⟨a, 1, none⟩ = some (.int .i64 (n8 ys 1)) ∧ (w8'.setCell ⟨a, 3, none⟩ (.int .i64 (n8 ys 17))).cell? ⟨a, 2, none⟩ = some (.string (⟨#[]⟩)) ∧ (w8'.setCell ⟨a, 3, none⟩ (.int .i64 (n8 ys 17))).cell? ⟨a, 3, none⟩ = some (.int .i64 (n8 ys 17)) ∧ (w8'.setCell ⟨a, 3, none⟩ (.int .i64 (n8 ys 17))).cell? ⟨a, 4, none⟩ = some (.int .i64 (n8 ys 9)) := e5
  obtain ⟨⟨z0, z1, z2, z3, z4⟩, y0, y1, y2, y3, y4⟩ := e6
  have P5 := Lib.hid (s9.done (.int .i64 6) (.int .i64 (n8 ys 1)) (.string (⟨#[]⟩)) (.int .i64 (n8 ys 17)) (.int .i64 (n8 ys 9)))
  go_wp2
  (try simp only [Exit.inBlock, Exit.then])
  show bodyPost _ _ _ _ _ (put5 (w8'.setCell ⟨a, 3, none⟩ (.int .i64 (n8 ys 17))) w.heap.size (.int .i64 6) (.int .i64 (n8 ys 1)) (.string (⟨#[]⟩)) (.int .i64 (n8 ys 17)) (.int .i64 (n8 ys 9)))
  generalize put5 (w8'.setCell ⟨a, 3, none⟩ (.int .i64 (n8 ys 17))) w.heap.size (.int .i64 6) (.int .i64 (n8 ys 1)) (.string (⟨#[]⟩)) (.int .i64 (n8 ys 17)) (.int .i64 (n8 ys 9)) = wz at *
  obtain ⟨x0, x1, x2, x3, x4⟩ := cells5 P5.out.1
  refine bodyPost_ret (v := .agg #[.int .i64 6, .int .i64 (n8 ys 1), .string (⟨#[]⟩), .int .i64 (n8 ys 17), .int .i64 (n8 ys 9)]) (by simp [results, Try.results37, go_sem, x0, x1, x2, x3, x4]) rfl ?_
  exact ⟨rfl, P5.out.2⟩
end Go.Proofs.Ytemjcgmoacnnfaa
