/-
  The document's Get of layer 11.
-/
import Derived.Test.YtemjcgmoacnnfaaRcRefGet0
import Derived.Test.YtemjcgmoacnnfaaRcGetAny
namespace Go.Proofs.Ytemjcgmoacnnfaa
open Go.RowKit
set_option linter.unusedVariables false
set_option maxRecDepth 100000

/-- The document's reader at work: the box of its result (noughts as yet), and the record so far. -/
structure RT (w0 : World) (z a : Nat) (r : Rc) (w : World) : Prop where
  bz : w.heap[z]? = some (.cells #[.int .i64 0, .int .i64 0, .string ⟨#[]⟩, .int .i64 0, .int .i64 0] 23 (0, 0))
  ba : w.heap[a]? = some (.cells (rcB r) 23 (0, 0))
  bel : Below w0.heap.size w0 w
  lz : w0.heap.size ≤ z
  la : z < a
theorem RT.put {w0 w : World} {z a : Nat} {r : Rc} (h : RT w0 z a r w) (j : Nat) (v : Value) (r' : Rc) (e : (rcB r).setIfInBounds j v = rcB r') : RT w0 z a r' (w.setCell ⟨a, j, none⟩ v) := by
  have h1 := h.lz; have h2 := h.la
  exact ⟨(Below.heap_setCell w ⟨a, j, none⟩ _ z (by simp; omega)).trans h.bz, (box_set h.ba j v).trans (by rw [e]), below_setCell h.bel (by omega) j _, h1, h2⟩
theorem RT.below {w0 w w' : World} {z a : Nat} {r : Rc} (h : RT w0 z a r w) (hb : Below w.heap.size w w') : RT w0 z a r w' :=
  ⟨(hb.block _ (block_lt h.bz)).trans h.bz, (hb.block _ (block_lt h.ba)).trans h.ba, h.bel.trans (hb.mono h.bel.size), h.lz, h.la⟩
theorem RT.done {w0 w : World} {z a : Nat} {r : Rc} (h : RT w0 z a r w) (v0 v1 v2 v3 v4 : Value) :
    (put5 w z v0 v1 v2 v3 v4).heap[z]? = some (.cells #[v0, v1, v2, v3, v4] 23 (0, 0)) ∧ Below w0.heap.size w0 (put5 w z v0 v1 v2 v3 v4) :=
  ⟨put5_heap h.bz v0 v1 v2 v3 v4, below_put5 h.bel h.lz v0 v1 v2 v3 v4⟩
theorem RT.r5 {w0 w : World} {z a : Nat} {r : Rc} (h : RT w0 z a r w) :
    w.cell? ⟨a, 0, none⟩ = some (.int .i64 r.k) ∧ w.cell? ⟨a, 1, none⟩ = some (.int .i64 r.t) ∧ w.cell? ⟨a, 2, none⟩ = some (.string r.g) ∧ w.cell? ⟨a, 3, none⟩ = some (.int .i64 r.v) ∧ w.cell? ⟨a, 4, none⟩ = some (.int .i64 r.i) := cells5 h.ba
theorem RT.f5 {w0 w : World} {z a : Nat} {r : Rc} (h : RT w0 z a r w) :
    w.frozen? ⟨a, 0, none⟩ = false ∧ w.frozen? ⟨a, 1, none⟩ = false ∧ w.frozen? ⟨a, 2, none⟩ = false ∧ w.frozen? ⟨a, 3, none⟩ = false ∧ w.frozen? ⟨a, 4, none⟩ = false := froz5 h.ba
theorem RT.c5 {w0 w : World} {z a : Nat} {r : Rc} (h : RT w0 z a r w) :
    (w.cell? ⟨z, 0, none⟩ = some (.int .i64 0) ∧ w.cell? ⟨z, 1, none⟩ = some (.int .i64 0) ∧ w.cell? ⟨z, 2, none⟩ = some (.string ⟨#[]⟩) ∧ w.cell? ⟨z, 3, none⟩ = some (.int .i64 0) ∧ w.cell? ⟨z, 4, none⟩ = some (.int .i64 0)) ∧
    w.frozen? ⟨z, 0, none⟩ = false ∧ w.frozen? ⟨z, 1, none⟩ = false ∧ w.frozen? ⟨z, 2, none⟩ = false ∧ w.frozen? ⟨z, 3, none⟩ = false ∧ w.frozen? ⟨z, 4, none⟩ = false := ⟨cells5 h.bz, froz5 h.bz⟩
theorem RT.new (w : World) (r : Rc) : RT w w.heap.size (w.heap.size + 1) r ((w.alloc (.cells #[.int .i64 0, .int .i64 0, .string ⟨#[]⟩, .int .i64 0, .int .i64 0] 23)).alloc (.cells (rcB r) 23)) :=
  ⟨((Bx.new w (.cells #[.int .i64 0, .int .i64 0, .string ⟨#[]⟩, .int .i64 0, .int .i64 0] 23)).alloc _).1, heap_alloc_two w _ _, ((Bx.new w (.cells #[.int .i64 0, .int .i64 0, .string ⟨#[]⟩, .int .i64 0, .int .i64 0] 23)).alloc _).2, Nat.le_refl _, Nat.lt_succ_self _⟩
theorem at_z (A : Option Addr) (m c a : Nat) (z : Int) (ys : List Int) (w : World) (B : Nat) (hr : Row .u8 w B A ys) (hm : ys.length = m) (hb : m ≤ 140737488355328) (hc : m ≤ c) (ha : a + 8 ≤ m) (hz : z = a) :
    Calls Try.prog 39 #[.slice A m c, .int .i64 z] w fun e w' => e = .returned (.int .i64 (n8 ys a)) ∧ w = w' := by
  subst hz; exact at_any A m c a ys w B hr hm hb hc ha

theorem got_err {w : World} {ys : List Int} {E : Int} (hE : rcErr ys = E) (h : E ≠ 0) {e : Ending} {w' : World} (he : e = .returned (.tuple #[.agg #[.int .i64 0, .int .i64 0, .string ⟨#[]⟩, .int .i64 0, .int .i64 0], .int .i64 E])) (hb : Below w.heap.size w w') : GotRc w ys e w' := by
  refine ⟨?_, hb⟩
  unfold rcGot
  rw [hE, if_neg h]
  exact he
set_option maxHeartbeats 1000000 in
theorem refGet11_none (A : Option Addr) (c : Nat) (w : World) :
    Calls Try.prog 16 #[.slice A 0 c] w fun e w' => e = .returned (.tuple #[.agg #[.int .i64 0, .int .i64 0, .string ⟨#[]⟩, .int .i64 0, .int .i64 0], .int .i64 1]) ∧ Below w.heap.size w w' := by
  have bx := Bx.new w (.cells #[.int .i64 0, .int .i64 0, .string ⟨#[]⟩, .int .i64 0, .int .i64 0] 23)
  obtain ⟨z0, z1, z2, z3, z4⟩ := cells5 bx.1
  obtain ⟨y0, y1, y2, y3, y4⟩ := froz5 bx.1
  go_enter Try.func16, Try.ntmps16
  go_wp2
  (try simp only [Exit.inBlock, Exit.then])
  refine bodyPost_ret (v := .tuple #[.agg #[.int .i64 0, .int .i64 0, .string ⟨#[]⟩, .int .i64 0, .int .i64 0], .int .i64 1]) (by simp [results, Try.results16, go_sem, z0, z1, z2, z3, z4]) rfl ?_
  exact ⟨rfl, bx.2⟩
set_option maxHeartbeats 1000000 in
theorem refGet11_low (b o m c : Nat) (ys : List Int) (x : Int) (w : World) (hr : Row .u8 w w.heap.size (some ⟨b, o, none⟩) ys) (hm : ys.length = m) (h0 : 0 < m) (hx : nth ys 0 = x) (h : x < 1) :
    Calls Try.prog 16 #[.slice (some ⟨b, o, none⟩) m c] w fun e w' => e = .returned (.tuple #[.agg #[.int .i64 0, .int .i64 0, .string ⟨#[]⟩, .int .i64 0, .int .i64 0], .int .i64 28]) ∧ Below w.heap.size w w' := by
  obtain ⟨b', o', hA, hbB, hc0⟩ := hr.at_ (i := 0) (by omega)
  injection hA with hA
  injection hA with hA1 hA2
  subst hA1 hA2
  have hxb := wf_u8 (hr.wf_at (i := 0) (by omega))
  rw [hx] at hc0 hxb
  rw [Nat.add_zero] at hc0
  have hm1 : ((m : Int) == 0) = false := beq_false_of_ne (by omega)
  have hm2 : ¬ m = 0 := by omega
  have hc1 := (bel_alloc w (.cells #[.int .i64 0, .int .i64 0, .string ⟨#[]⟩, .int .i64 0, .int .i64 0] 23)).cell (p := ⟨b, o, none⟩) hbB
  rw [hc0] at hc1
  have s1 := RT.new w ⟨x, 0, ⟨#[]⟩, 0, 0⟩
  obtain ⟨c0, c1, c2, c3, c4⟩ := s1.r5
  obtain ⟨⟨z0, z1, z2, z3, z4⟩, y0, y1, y2, y3, y4⟩ := s1.c5
  clear hr hm hx
  unfold rcB at *
  go_enter Try.func16, Try.ntmps16
  go_wp2
  (try simp only [Exit.inBlock, Exit.then])
  refine bodyPost_ret (v := .tuple #[.agg #[.int .i64 0, .int .i64 0, .string ⟨#[]⟩, .int .i64 0, .int .i64 0], .int .i64 28]) (by simp [results, Try.results16, go_sem, z0, z1, z2, z3, z4]) rfl ?_
  exact ⟨rfl, s1.bel⟩
set_option maxHeartbeats 1000000 in
theorem refGet11_high (b o m c : Nat) (ys : List Int) (x : Int) (w : World) (hr : Row .u8 w w.heap.size (some ⟨b, o, none⟩) ys) (hm : ys.length = m) (h0 : 0 < m) (hx : nth ys 0 = x) (h : x > 6) :
    Calls Try.prog 16 #[.slice (some ⟨b, o, none⟩) m c] w fun e w' => e = .returned (.tuple #[.agg #[.int .i64 0, .int .i64 0, .string ⟨#[]⟩, .int .i64 0, .int .i64 0], .int .i64 28]) ∧ Below w.heap.size w w' := by
  obtain ⟨b', o', hA, hbB, hc0⟩ := hr.at_ (i := 0) (by omega)
  injection hA with hA
  injection hA with hA1 hA2
  subst hA1 hA2
  have hxb := wf_u8 (hr.wf_at (i := 0) (by omega))
  rw [hx] at hc0 hxb
  rw [Nat.add_zero] at hc0
  have hm1 : ((m : Int) == 0) = false := beq_false_of_ne (by omega)
  have hm2 : ¬ m = 0 := by omega
  have hc1 := (bel_alloc w (.cells #[.int .i64 0, .int .i64 0, .string ⟨#[]⟩, .int .i64 0, .int .i64 0] 23)).cell (p := ⟨b, o, none⟩) hbB
  rw [hc0] at hc1
  have s1 := RT.new w ⟨x, 0, ⟨#[]⟩, 0, 0⟩
  obtain ⟨c0, c1, c2, c3, c4⟩ := s1.r5
  obtain ⟨⟨z0, z1, z2, z3, z4⟩, y0, y1, y2, y3, y4⟩ := s1.c5
  clear hr hm hx
  unfold rcB at *
  go_enter Try.func16, Try.ntmps16
  go_wp2
  (try simp only [Exit.inBlock, Exit.then])
  refine bodyPost_ret (v := .tuple #[.agg #[.int .i64 0, .int .i64 0, .string ⟨#[]⟩, .int .i64 0, .int .i64 0], .int .i64 28]) (by simp [results, Try.results16, go_sem, z0, z1, z2, z3, z4]) rfl ?_
  exact ⟨rfl, s1.bel⟩
set_option maxHeartbeats 1000000 in
theorem refGet11_neg (b o m c : Nat) (ys : List Int) (x L : Int) (w : World) (hr : Row .u8 w w.heap.size (some ⟨b, o, none⟩) ys) (hm : ys.length = m) (h0 : 0 < m) (hb : m ≤ 140737488355328) (hc : m ≤ c) (hx : nth ys 0 = x) (hk : betw x 1 6 = true) (hL : refLen ys = L) (h : L < 0) :
    Calls Try.prog 16 #[.slice (some ⟨b, o, none⟩) m c] w fun e w' => e = .returned (.tuple #[.agg #[.int .i64 0, .int .i64 0, .string ⟨#[]⟩, .int .i64 0, .int .i64 0], .int .i64 1]) ∧ Below w.heap.size w w' := by
  obtain ⟨b', o', hA, hbB, hc0⟩ := hr.at_ (i := 0) (by omega)
  injection hA with hA
  injection hA with hA1 hA2
  subst hA1 hA2
  have hxb := wf_u8 (hr.wf_at (i := 0) (by omega))
  have s1 := RT.new w ⟨x, 0, ⟨#[]⟩, 0, 0⟩
  have HL := Lib.hid (length11_any b o m c ys _ _ (hr.below s1.bel) hm h0 hb hc (by rw [hx]; exact hk))
  rw [hL] at HL
  rw [hx] at hc0 hxb
  rw [Nat.add_zero] at hc0
  have hm1 : ((m : Int) == 0) = false := beq_false_of_ne (by omega)
  have hm2 : ¬ m = 0 := by omega
  have hc1 := (bel_alloc w (.cells #[.int .i64 0, .int .i64 0, .string ⟨#[]⟩, .int .i64 0, .int .i64 0] 23)).cell (p := ⟨b, o, none⟩) hbB
  rw [hc0] at hc1
  have hk2 := betw_yes.1 hk
  have k1 : ¬ x < 1 := by omega
  have k2 : ¬ x > 6 := by omega
  obtain ⟨c0, c1, c2, c3, c4⟩ := s1.r5
  obtain ⟨⟨z0, z1, z2, z3, z4⟩, y0, y1, y2, y3, y4⟩ := s1.c5
  clear hr hm hx hL hk hk2
  unfold rcB at *
  go_enter Try.func16, Try.ntmps16
  go_wp2_with fail
  refine HL.out.mono ?_
  rintro e w' ⟨rfl, rfl⟩
  go_wp2
  (try simp only [Exit.inBlock, Exit.then])
  refine bodyPost_ret (v := .tuple #[.agg #[.int .i64 0, .int .i64 0, .string ⟨#[]⟩, .int .i64 0, .int .i64 0], .int .i64 1]) (by simp [results, Try.results16, go_sem, z0, z1, z2, z3, z4]) rfl ?_
  exact ⟨rfl, s1.bel⟩
set_option maxHeartbeats 1000000 in
theorem refGet11_short (b o m c : Nat) (ys : List Int) (x L : Int) (w : World) (hr : Row .u8 w w.heap.size (some ⟨b, o, none⟩) ys) (hm : ys.length = m) (h0 : 0 < m) (hb : m ≤ 140737488355328) (hc : m ≤ c) (hx : nth ys 0 = x) (hk : betw x 1 6 = true) (hL : refLen ys = L) (h : ¬ L < 0) (h2 : (m : Int) < L) :
    Calls Try.prog 16 #[.slice (some ⟨b, o, none⟩) m c] w fun e w' => e = .returned (.tuple #[.agg #[.int .i64 0, .int .i64 0, .string ⟨#[]⟩, .int .i64 0, .int .i64 0], .int .i64 1]) ∧ Below w.heap.size w w' := by
  obtain ⟨b', o', hA, hbB, hc0⟩ := hr.at_ (i := 0) (by omega)
  injection hA with hA
  injection hA with hA1 hA2
  subst hA1 hA2
  have hxb := wf_u8 (hr.wf_at (i := 0) (by omega))
  have s1 := RT.new w ⟨x, 0, ⟨#[]⟩, 0, 0⟩
  have HL := Lib.hid (length11_any b o m c ys _ _ (hr.below s1.bel) hm h0 hb hc (by rw [hx]; exact hk))
  rw [hL] at HL
  rw [hx] at hc0 hxb
  rw [Nat.add_zero] at hc0
  have hm1 : ((m : Int) == 0) = false := beq_false_of_ne (by omega)
  have hm2 : ¬ m = 0 := by omega
  have hc1 := (bel_alloc w (.cells #[.int .i64 0, .int .i64 0, .string ⟨#[]⟩, .int .i64 0, .int .i64 0] 23)).cell (p := ⟨b, o, none⟩) hbB
  rw [hc0] at hc1
  have hk2 := betw_yes.1 hk
  have k1 : ¬ x < 1 := by omega
  have k2 : ¬ x > 6 := by omega
  obtain ⟨c0, c1, c2, c3, c4⟩ := s1.r5
  obtain ⟨⟨z0, z1, z2, z3, z4⟩, y0, y1, y2, y3, y4⟩ := s1.c5
  clear hr hm hx hL hk hk2
  unfold rcB at *
  go_enter Try.func16, Try.ntmps16
  go_wp2_with fail
  refine HL.out.mono ?_
  rintro e w' ⟨rfl, rfl⟩
  go_wp2
  (try simp only [Exit.inBlock, Exit.then])
  refine bodyPost_ret (v := .tuple #[.agg #[.int .i64 0, .int .i64 0, .string ⟨#[]⟩, .int .i64 0, .int .i64 0], .int .i64 1]) (by simp [results, Try.results16, go_sem, z0, z1, z2, z3, z4]) rfl ?_
  exact ⟨rfl, s1.bel⟩
set_option maxHeartbeats 1000000 in
theorem refGet11_long (b o m c : Nat) (ys : List Int) (x L : Int) (w : World) (hr : Row .u8 w w.heap.size (some ⟨b, o, none⟩) ys) (hm : ys.length = m) (h0 : 0 < m) (hb : m ≤ 140737488355328) (hc : m ≤ c) (hx : nth ys 0 = x) (hk : betw x 1 6 = true) (hL : refLen ys = L) (h : ¬ L < 0) (h2 : ¬ (m : Int) < L) (h3 : (m : Int) > L) :
    Calls Try.prog 16 #[.slice (some ⟨b, o, none⟩) m c] w fun e w' => e = .returned (.tuple #[.agg #[.int .i64 0, .int .i64 0, .string ⟨#[]⟩, .int .i64 0, .int .i64 0], .int .i64 2]) ∧ Below w.heap.size w w' := by
  obtain ⟨b', o', hA, hbB, hc0⟩ := hr.at_ (i := 0) (by omega)
  injection hA with hA
  injection hA with hA1 hA2
  subst hA1 hA2
  have hxb := wf_u8 (hr.wf_at (i := 0) (by omega))
  have s1 := RT.new w ⟨x, 0, ⟨#[]⟩, 0, 0⟩
  have HL := Lib.hid (length11_any b o m c ys _ _ (hr.below s1.bel) hm h0 hb hc (by rw [hx]; exact hk))
  rw [hL] at HL
  rw [hx] at hc0 hxb
  rw [Nat.add_zero] at hc0
  have hm1 : ((m : Int) == 0) = false := beq_false_of_ne (by omega)
  have hm2 : ¬ m = 0 := by omega
  have hc1 := (bel_alloc w (.cells #[.int .i64 0, .int .i64 0, .string ⟨#[]⟩, .int .i64 0, .int .i64 0] 23)).cell (p := ⟨b, o, none⟩) hbB
  rw [hc0] at hc1
  have hk2 := betw_yes.1 hk
  have k1 : ¬ x < 1 := by omega
  have k2 : ¬ x > 6 := by omega
  obtain ⟨c0, c1, c2, c3, c4⟩ := s1.r5
  obtain ⟨⟨z0, z1, z2, z3, z4⟩, y0, y1, y2, y3, y4⟩ := s1.c5
  clear hr hm hx hL hk hk2
  unfold rcB at *
  go_enter Try.func16, Try.ntmps16
  go_wp2_with fail
  refine HL.out.mono ?_
  rintro e w' ⟨rfl, rfl⟩
  go_wp2
  (try simp only [Exit.inBlock, Exit.then])
  refine bodyPost_ret (v := .tuple #[.agg #[.int .i64 0, .int .i64 0, .string ⟨#[]⟩, .int .i64 0, .int .i64 0], .int .i64 2]) (by simp [results, Try.results16, go_sem, z0, z1, z2, z3, z4]) rfl ?_
  exact ⟨rfl, s1.bel⟩
set_option maxHeartbeats 4000000 in
theorem refGet11_1 (b o m cap : Nat) (ys : List Int) (w : World) (hr : Row .u8 w w.heap.size (some ⟨b, o, none⟩) ys) (hm : ys.length = m) (hb : m ≤ 140737488355328) (hlen : m = 18 + tgN ys) (hcap : m ≤ cap) (hk : nth ys 0 = 1) :
    Calls Try.prog 16 #[.slice (some ⟨b, o, none⟩) m cap] w (GotRc w ys) := by
  have hfm : fmRc ys = 0 := by
    unfold fmRc
    rw [if_neg (by omega), hk, show lenRc ys = m from (len_1 ys hk).trans hlen.symm, hm, if_neg (by omega), if_neg (by omega)]
    rfl
  have he := rcErr_form ys
  rw [if_pos hfm] at he
  have ok := rdRc_ok ys hr.1 (by rw [hm]; simp only [maxLen]; omega)
  unfold GotRc
  obtain ⟨X, hX⟩ : ∃ X, rcV (rcGot ys) = X := ⟨_, rfl⟩
  rw [hX, he]
  have HX : Hid ((if chkRc (rdRc ys) = 0 then rcV (rdRc ys) else .agg #[.int .i64 0, .int .i64 0, .string ⟨#[]⟩, .int .i64 0, .int .i64 0]) = X) := Lib.hid (by
    rw [← hX, ← he]
    unfold rcGot
    by_cases hz : rcErr ys = 0
    · rw [if_pos hz, if_pos hz]
    · rw [if_neg hz, if_neg hz]; rfl)
  have HD := rd_1 ys hk
  obtain ⟨E, hE⟩ : ∃ E, chkRc (rdRc ys) = E := ⟨_, rfl⟩
  rw [hE] at HX ⊢
  rw [HD] at hE HX ok
  have HE := Lib.hid hE
  clear hX he hE HD
  have HR := Lib.hid hr
  have HM := Lib.hid hm
  have s1 := RT.new w ⟨1, 0, ⟨#[]⟩, 0, 0⟩
  obtain ⟨b', o', hA, hbB, hc0⟩ := hr.at_ (i := 0) (by omega)
  injection hA with hA
  injection hA with hA1 hA2
  subst hA1 hA2
  rw [hk, Nat.add_zero] at hc0
  have HL := Lib.hid (length11_any b o m cap ys _ _ (hr.below s1.bel) hm (by omega) hb hcap (by rw [hk]; rfl))
  have hLn : refLen ys = (m : Int) := by
    unfold refLen
    rw [hk, show lenRc ys = m from (len_1 ys hk).trans hlen.symm, hm, decide_eq_false (show ¬ m < 10 by omega)]
    rfl
  rw [hLn] at HL
  have hm1 : ((m : Int) == 0) = false := beq_false_of_ne (by omega)
  have hm2 : ¬ m = 0 := by omega
  have hm3 : ¬ (m : Int) < 0 := by omega
  have hm4 : ¬ (m : Int) < (m : Int) := by omega
  have hm5 : ¬ (m : Int) > (m : Int) := by omega
  have hc1 := (bel_alloc w (.cells #[.int .i64 0, .int .i64 0, .string ⟨#[]⟩, .int .i64 0, .int .i64 0] 23)).cell (p := ⟨b, o, none⟩) hbB
  rw [hc0] at hc1
  have hN9 := wf_u8 (hr.wf_at (i := 9) (by omega))
  have HN : nth ys 9 = (tgN ys : Int) := by unfold tgN; omega
  obtain ⟨b', o', hA, _, hc9⟩ := hr.at_ (i := 9) (by omega)
  injection hA with hA
  injection hA with hA1 hA2
  subst hA1 hA2
  rw [HN] at hc9
  have hN := tgN_le ys hr.1
  have HXL : Hid (((ys.drop 10).take (tgN ys)).length = tgN ys) := Lib.hid (by rw [List.length_take, List.length_drop]; omega)
  have HXR := Lib.hid ((hr.drop 10).front (tgN ys))
  generalize hG : (ys.drop 10).take (tgN ys) = gs at *
  clear HN hN9 hG
  generalize tgN ys = N at *
  have t1 : (10 : Int) ≤ 10 + (N : Int) := by omega
  have t2 : 10 + (N : Int) ≤ (cap : Int) := by omega
  have t3 : (10 + (N : Int)).toNat = 10 + N := by omega
  have t4 : (10 + (N : Int)) - 10 = (N : Int) := by omega
  have t5 : ¬ cap = 10 := by omega
  have t6 : ¬ (10 : Nat) = cap := by omega
  have t7 : 10 + N - 10 = N := by omega
  have hl1 := Nat.le_of_eq hlen
  have hl2 := Nat.le_of_eq hlen.symm
  have hs := ok.1
  simp only at hs
  clear hr hm hk hlen hLn hfm ok
  obtain ⟨c0, c1, c2, c3, c4⟩ := s1.r5
  unfold rcB at *
  go_enter Try.func16, Try.ntmps16
  go_wp2_with fail
  refine HL.out.mono ?_
  rintro e w' ⟨rfl, rfl⟩
  go_wp2_with fail
  clear c0 c1 c2 c3 c4 hc1 HL
  change RT _ _ _ _ ((w.alloc (.cells #[.int .i64 0, .int .i64 0, .string ⟨#[]⟩, .int .i64 0, .int .i64 0] 23)).alloc (.cells #[.int .i64 1, .int .i64 0, .string ⟨#[]⟩, .int .i64 0, .int .i64 0] 23)) at s1
  generalize (w.alloc (.cells #[.int .i64 0, .int .i64 0, .string ⟨#[]⟩, .int .i64 0, .int .i64 0] 23)).alloc (.cells #[.int .i64 1, .int .i64 0, .string ⟨#[]⟩, .int .i64 0, .int .i64 0] 23) = w1' at *
  generalize ha : w.heap.size + 1 = a at *
  refine (at_z (some ⟨b, o, none⟩) m cap 1 _ ys _ _ (HR.out.below s1.bel) HM.out hb hcap (by omega) (by rfl)).mono ?_
  rintro e w' ⟨rfl, rfl⟩
  have hcd := (s1.bel.cell (p := ⟨b, o + 9, none⟩) hbB).trans hc9
  obtain ⟨c0, c1, c2, c3, c4⟩ := s1.r5
  obtain ⟨f0, f1, f2, f3, f4⟩ := s1.f5
  have s2 := s1.put 1 (.int .i64 (n8 ys 1)) ⟨1, n8 ys 1, ⟨#[]⟩, 0, 0⟩ rfl
  have e0 := s2.r5.1
  have e1 : (w1'.setCell ⟨a, 1, none⟩ (.int .i64 (n8 ys 1))).cell? ⟨a, 0, none⟩ = some (.int .i64 1) := e0
  clear e0
  go_wp2_with fail
  refine (tagged_any 1 _).mono ?_
  rintro e w' ⟨rfl, rfl⟩
  rw [show tgK 1 = true from rfl]
  clear e1
  generalize w1'.setCell ⟨a, 1, none⟩ (.int .i64 (n8 ys 1)) = w2' at *
  clear c0 c1 c2 c3 c4 f0 f1 f2 f3 f4 hcd
  clear s1
  have hcv := run_convert_bytes_arg (P := Try.prog) w2' 24 5 Try.underlying24 Try.underlying5 b (o + 10) N (cap - 10) gs HXL.out (by
    intro j hj
    obtain ⟨b', o', hA, _, hcj⟩ := (HXR.out.below s2.bel).at_ (i := j) (by rw [HXL.out]; exact hj)
    injection hA with hA
    injection hA with hA1 hA2
    subst hA1 hA2
    exact hcj) 9 Try.underlying9
  have hcd := (s2.bel.cell (p := ⟨b, o + 9, none⟩) hbB).trans hc9
  obtain ⟨c0, c1, c2, c3, c4⟩ := s2.r5
  obtain ⟨f0, f1, f2, f3, f4⟩ := s2.f5
  have s3 := s2.put 2 (.string (strOfNums gs)) ⟨1, n8 ys 1, strOfNums gs, 0, 0⟩ rfl
  have e0 := s3.r5.1
  have e1 : (w2'.setCell ⟨a, 2, none⟩ (.string (strOfNums gs))).cell? ⟨a, 0, none⟩ = some (.int .i64 1) := e0
  clear e0
  go_wp2_with fail
  refine (named_any 1 _).mono ?_
  rintro e w' ⟨rfl, rfl⟩
  rw [show idK 1 = false from rfl]
  clear e1
  generalize w2'.setCell ⟨a, 2, none⟩ (.string (strOfNums gs)) = w3' at *
  clear c0 c1 c2 c3 c4 f0 f1 f2 f3 f4 hcd
  clear s2
  have hcd := (s3.bel.cell (p := ⟨b, o + 9, none⟩) hbB).trans hc9
  obtain ⟨c0, c1, c2, c3, c4⟩ := s3.r5
  obtain ⟨f0, f1, f2, f3, f4⟩ := s3.f5
  go_wp2_with fail
  refine (valued_any 1 _).mono ?_
  rintro e w' ⟨rfl, rfl⟩
  rw [show vlK 1 = true from rfl]
  clear c0 c1 c2 c3 c4 f0 f1 f2 f3 f4 hcd
  go_wp2_with fail
  refine (at_z (some ⟨b, o, none⟩) m cap (10 + N) _ ys _ _ (HR.out.below s3.bel) HM.out hb hcap (by omega) (by omega)).mono ?_
  rintro e w' ⟨rfl, rfl⟩
  have hcd := (s3.bel.cell (p := ⟨b, o + 9, none⟩) hbB).trans hc9
  obtain ⟨c0, c1, c2, c3, c4⟩ := s3.r5
  obtain ⟨f0, f1, f2, f3, f4⟩ := s3.f5
  have s4 := s3.put 3 (.int .i64 (n8 ys (10 + N))) ⟨1, n8 ys 1, strOfNums gs, n8 ys (10 + N), 0⟩ rfl
  obtain ⟨e0, e1, e2, e3, e4⟩ : (w3'.setCell ⟨a, 3, none⟩ (.int .i64 (n8 ys (10 + N)))).cell? ⟨a, 0, none⟩ = some (.int .i64 1) ∧ (w3'.setCell ⟨a, 3, none⟩ (.int .i64 (n8 ys (10 + N)))).cell? ⟨a, 1, none⟩ = some (.int .i64 (n8 ys 1)) ∧ (w3'.setCell ⟨a, 3, none⟩ (.int .i64 (n8 ys (10 + N)))).cell? ⟨a, 2, none⟩ = some (.string (strOfNums gs)) ∧ (w3'.setCell ⟨a, 3, none⟩ (.int .i64 (n8 ys (10 + N)))).cell? ⟨a, 3, none⟩ = some (.int .i64 (n8 ys (10 + N))) ∧ (w3'.setCell ⟨a, 3, none⟩ (.int .i64 (n8 ys (10 + N)))).cell? ⟨a, 4, none⟩ = some (.int .i64 (0)) := s4.r5
  go_wp2_with fail
  clear e0 e1 e2 e3 e4
  clear c0 c1 c2 c3 c4 f0 f1 f2 f3 f4 hcd
  refine (refCheck11_any 1 (n8 ys 1) (strOfNums gs) (n8 ys (10 + N)) (0) _ hs).mono ?_
  rintro e wy ⟨rfl, hby⟩
  rw [HE.out]
  have sy := s4.below hby
  clear s4 hby
  obtain ⟨c0, c1, c2, c3, c4⟩ := sy.r5
  obtain ⟨⟨z0, z1, z2, z3, z4⟩, y0, y1, y2, y3, y4⟩ := sy.c5
  by_cases h0 : E = 0
  · subst h0
    have HV : Hid (X = .agg #[.int .i64 1, .int .i64 (n8 ys 1), .string (strOfNums gs), .int .i64 (n8 ys (10 + N)), .int .i64 (0)]) := Lib.hid (by rw [← HX.out]; rfl)
    have P5 := Lib.hid (sy.done (.int .i64 1) (.int .i64 (n8 ys 1)) (.string (strOfNums gs)) (.int .i64 (n8 ys (10 + N))) (.int .i64 (0)))
    go_wp2
    (try simp only [Exit.inBlock, Exit.then])
    show bodyPost _ _ _ _ _ (put5 wy w.heap.size (.int .i64 1) (.int .i64 (n8 ys 1)) (.string (strOfNums gs)) (.int .i64 (n8 ys (10 + N))) (.int .i64 (0)))
    generalize put5 wy w.heap.size (.int .i64 1) (.int .i64 (n8 ys 1)) (.string (strOfNums gs)) (.int .i64 (n8 ys (10 + N))) (.int .i64 (0)) = wz at *
    obtain ⟨x0, x1, x2, x3, x4⟩ := cells5 P5.out.1
    refine bodyPost_ret (v := .tuple #[.agg #[.int .i64 1, .int .i64 (n8 ys 1), .string (strOfNums gs), .int .i64 (n8 ys (10 + N)), .int .i64 (0)], .int .i64 0]) (by simp [results, Try.results16, go_sem, x0, x1, x2, x3, x4]) rfl ?_
    exact ⟨by rw [HV.out], P5.out.2⟩
  · have hE2 : (E != 0) = true := by simp [h0]
    have HV : Hid (X = .agg #[.int .i64 0, .int .i64 0, .string ⟨#[]⟩, .int .i64 0, .int .i64 0]) := Lib.hid (by rw [← HX.out, if_neg h0])
    clear h0
    have P5 := Lib.hid (sy.done (.int .i64 0) (.int .i64 0) (.string ⟨#[]⟩) (.int .i64 0) (.int .i64 0))
    go_wp2
    (try simp only [Exit.inBlock, Exit.then])
    show bodyPost _ _ _ _ _ (put5 wy w.heap.size (.int .i64 0) (.int .i64 0) (.string ⟨#[]⟩) (.int .i64 0) (.int .i64 0))
    generalize put5 wy w.heap.size (.int .i64 0) (.int .i64 0) (.string ⟨#[]⟩) (.int .i64 0) (.int .i64 0) = wz at *
    obtain ⟨x0, x1, x2, x3, x4⟩ := cells5 P5.out.1
    refine bodyPost_ret (v := .tuple #[.agg #[.int .i64 0, .int .i64 0, .string ⟨#[]⟩, .int .i64 0, .int .i64 0], .int .i64 E]) (by simp [results, Try.results16, go_sem, x0, x1, x2, x3, x4]) rfl ?_
    exact ⟨by rw [HV.out], P5.out.2⟩
set_option maxHeartbeats 4000000 in
theorem refGet11_2 (b o m cap : Nat) (ys : List Int) (w : World) (hr : Row .u8 w w.heap.size (some ⟨b, o, none⟩) ys) (hm : ys.length = m) (hb : m ≤ 140737488355328) (hlen : m = 18 + tgN ys) (hcap : m ≤ cap) (hk : nth ys 0 = 2) :
    Calls Try.prog 16 #[.slice (some ⟨b, o, none⟩) m cap] w (GotRc w ys) := by
  have hfm : fmRc ys = 0 := by
    unfold fmRc
    rw [if_neg (by omega), hk, show lenRc ys = m from (len_2 ys hk).trans hlen.symm, hm, if_neg (by omega), if_neg (by omega)]
    rfl
  have he := rcErr_form ys
  rw [if_pos hfm] at he
  have ok := rdRc_ok ys hr.1 (by rw [hm]; simp only [maxLen]; omega)
  unfold GotRc
  obtain ⟨X, hX⟩ : ∃ X, rcV (rcGot ys) = X := ⟨_, rfl⟩
  rw [hX, he]
  have HX : Hid ((if chkRc (rdRc ys) = 0 then rcV (rdRc ys) else .agg #[.int .i64 0, .int .i64 0, .string ⟨#[]⟩, .int .i64 0, .int .i64 0]) = X) := Lib.hid (by
    rw [← hX, ← he]
    unfold rcGot
    by_cases hz : rcErr ys = 0
    · rw [if_pos hz, if_pos hz]
    · rw [if_neg hz, if_neg hz]; rfl)
  have HD := rd_2 ys hk
  obtain ⟨E, hE⟩ : ∃ E, chkRc (rdRc ys) = E := ⟨_, rfl⟩
  rw [hE] at HX ⊢
  rw [HD] at hE HX ok
  have HE := Lib.hid hE
  clear hX he hE HD
  have HR := Lib.hid hr
  have HM := Lib.hid hm
  have s1 := RT.new w ⟨2, 0, ⟨#[]⟩, 0, 0⟩
  obtain ⟨b', o', hA, hbB, hc0⟩ := hr.at_ (i := 0) (by omega)
  injection hA with hA
  injection hA with hA1 hA2
  subst hA1 hA2
  rw [hk, Nat.add_zero] at hc0
  have HL := Lib.hid (length11_any b o m cap ys _ _ (hr.below s1.bel) hm (by omega) hb hcap (by rw [hk]; rfl))
  have hLn : refLen ys = (m : Int) := by
    unfold refLen
    rw [hk, show lenRc ys = m from (len_2 ys hk).trans hlen.symm, hm, decide_eq_false (show ¬ m < 10 by omega)]
    rfl
  rw [hLn] at HL
  have hm1 : ((m : Int) == 0) = false := beq_false_of_ne (by omega)
  have hm2 : ¬ m = 0 := by omega
  have hm3 : ¬ (m : Int) < 0 := by omega
  have hm4 : ¬ (m : Int) < (m : Int) := by omega
  have hm5 : ¬ (m : Int) > (m : Int) := by omega
  have hc1 := (bel_alloc w (.cells #[.int .i64 0, .int .i64 0, .string ⟨#[]⟩, .int .i64 0, .int .i64 0] 23)).cell (p := ⟨b, o, none⟩) hbB
  rw [hc0] at hc1
  have hN9 := wf_u8 (hr.wf_at (i := 9) (by omega))
  have HN : nth ys 9 = (tgN ys : Int) := by unfold tgN; omega
  obtain ⟨b', o', hA, _, hc9⟩ := hr.at_ (i := 9) (by omega)
  injection hA with hA
  injection hA with hA1 hA2
  subst hA1 hA2
  rw [HN] at hc9
  have hN := tgN_le ys hr.1
  have HXL : Hid (((ys.drop 10).take (tgN ys)).length = tgN ys) := Lib.hid (by rw [List.length_take, List.length_drop]; omega)
  have HXR := Lib.hid ((hr.drop 10).front (tgN ys))
  generalize hG : (ys.drop 10).take (tgN ys) = gs at *
  clear HN hN9 hG
  generalize tgN ys = N at *
  have t1 : (10 : Int) ≤ 10 + (N : Int) := by omega
  have t2 : 10 + (N : Int) ≤ (cap : Int) := by omega
  have t3 : (10 + (N : Int)).toNat = 10 + N := by omega
  have t4 : (10 + (N : Int)) - 10 = (N : Int) := by omega
  have t5 : ¬ cap = 10 := by omega
  have t6 : ¬ (10 : Nat) = cap := by omega
  have t7 : 10 + N - 10 = N := by omega
  have hl1 := Nat.le_of_eq hlen
  have hl2 := Nat.le_of_eq hlen.symm
  have hs := ok.1
  simp only at hs
  clear hr hm hk hlen hLn hfm ok
  obtain ⟨c0, c1, c2, c3, c4⟩ := s1.r5
  unfold rcB at *
  go_enter Try.func16, Try.ntmps16
  go_wp2_with fail
  refine HL.out.mono ?_
  rintro e w' ⟨rfl, rfl⟩
  go_wp2_with fail
  clear c0 c1 c2 c3 c4 hc1 HL
  change RT _ _ _ _ ((w.alloc (.cells #[.int .i64 0, .int .i64 0, .string ⟨#[]⟩, .int .i64 0, .int .i64 0] 23)).alloc (.cells #[.int .i64 2, .int .i64 0, .string ⟨#[]⟩, .int .i64 0, .int .i64 0] 23)) at s1
  generalize (w.alloc (.cells #[.int .i64 0, .int .i64 0, .string ⟨#[]⟩, .int .i64 0, .int .i64 0] 23)).alloc (.cells #[.int .i64 2, .int .i64 0, .string ⟨#[]⟩, .int .i64 0, .int .i64 0] 23) = w1' at *
  generalize ha : w.heap.size + 1 = a at *
  refine (at_z (some ⟨b, o, none⟩) m cap 1 _ ys _ _ (HR.out.below s1.bel) HM.out hb hcap (by omega) (by rfl)).mono ?_
  rintro e w' ⟨rfl, rfl⟩
  have hcd := (s1.bel.cell (p := ⟨b, o + 9, none⟩) hbB).trans hc9
  obtain ⟨c0, c1, c2, c3, c4⟩ := s1.r5
  obtain ⟨f0, f1, f2, f3, f4⟩ := s1.f5
  have s2 := s1.put 1 (.int .i64 (n8 ys 1)) ⟨2, n8 ys 1, ⟨#[]⟩, 0, 0⟩ rfl
  have e0 := s2.r5.1
  have e1 : (w1'.setCell ⟨a, 1, none⟩ (.int .i64 (n8 ys 1))).cell? ⟨a, 0, none⟩ = some (.int .i64 2) := e0
  clear e0
  go_wp2_with fail
  refine (tagged_any 2 _).mono ?_
  rintro e w' ⟨rfl, rfl⟩
  rw [show tgK 2 = true from rfl]
  clear e1
  generalize w1'.setCell ⟨a, 1, none⟩ (.int .i64 (n8 ys 1)) = w2' at *
  clear c0 c1 c2 c3 c4 f0 f1 f2 f3 f4 hcd
  clear s1
  have hcv := run_convert_bytes_arg (P := Try.prog) w2' 24 5 Try.underlying24 Try.underlying5 b (o + 10) N (cap - 10) gs HXL.out (by
    intro j hj
    obtain ⟨b', o', hA, _, hcj⟩ := (HXR.out.below s2.bel).at_ (i := j) (by rw [HXL.out]; exact hj)
    injection hA with hA
    injection hA with hA1 hA2
    subst hA1 hA2
    exact hcj) 9 Try.underlying9
  have hcd := (s2.bel.cell (p := ⟨b, o + 9, none⟩) hbB).trans hc9
  obtain ⟨c0, c1, c2, c3, c4⟩ := s2.r5
  obtain ⟨f0, f1, f2, f3, f4⟩ := s2.f5
  have s3 := s2.put 2 (.string (strOfNums gs)) ⟨2, n8 ys 1, strOfNums gs, 0, 0⟩ rfl
  have e0 := s3.r5.1
  have e1 : (w2'.setCell ⟨a, 2, none⟩ (.string (strOfNums gs))).cell? ⟨a, 0, none⟩ = some (.int .i64 2) := e0
  clear e0
  go_wp2_with fail
  refine (named_any 2 _).mono ?_
  rintro e w' ⟨rfl, rfl⟩
  rw [show idK 2 = false from rfl]
  clear e1
  generalize w2'.setCell ⟨a, 2, none⟩ (.string (strOfNums gs)) = w3' at *
  clear c0 c1 c2 c3 c4 f0 f1 f2 f3 f4 hcd
  clear s2
  have hcd := (s3.bel.cell (p := ⟨b, o + 9, none⟩) hbB).trans hc9
  obtain ⟨c0, c1, c2, c3, c4⟩ := s3.r5
  obtain ⟨f0, f1, f2, f3, f4⟩ := s3.f5
  go_wp2_with fail
  refine (valued_any 2 _).mono ?_
  rintro e w' ⟨rfl, rfl⟩
  rw [show vlK 2 = true from rfl]
  clear c0 c1 c2 c3 c4 f0 f1 f2 f3 f4 hcd
  go_wp2_with fail
  refine (at_z (some ⟨b, o, none⟩) m cap (10 + N) _ ys _ _ (HR.out.below s3.bel) HM.out hb hcap (by omega) (by omega)).mono ?_
  rintro e w' ⟨rfl, rfl⟩
  have hcd := (s3.bel.cell (p := ⟨b, o + 9, none⟩) hbB).trans hc9
  obtain ⟨c0, c1, c2, c3, c4⟩ := s3.r5
  obtain ⟨f0, f1, f2, f3, f4⟩ := s3.f5
  have s4 := s3.put 3 (.int .i64 (n8 ys (10 + N))) ⟨2, n8 ys 1, strOfNums gs, n8 ys (10 + N), 0⟩ rfl
  obtain ⟨e0, e1, e2, e3, e4⟩ : (w3'.setCell ⟨a, 3, none⟩ (.int .i64 (n8 ys (10 + N)))).cell? ⟨a, 0, none⟩ = some (.int .i64 2) ∧ (w3'.setCell ⟨a, 3, none⟩ (.int .i64 (n8 ys (10 + N)))).cell? ⟨a, 1, none⟩ = some (.int .i64 (n8 ys 1)) ∧ (w3'.setCell ⟨a, 3, none⟩ (.int .i64 (n8 ys (10 + N)))).cell? ⟨a, 2, none⟩ = some (.string (strOfNums gs)) ∧ (w3'.setCell ⟨a, 3, none⟩ (.int .i64 (n8 ys (10 + N)))).cell? ⟨a, 3, none⟩ = some (.int .i64 (n8 ys (10 + N))) ∧ (w3'.setCell ⟨a, 3, none⟩ (.int .i64 (n8 ys (10 + N)))).cell? ⟨a, 4, none⟩ = some (.int .i64 (0)) := s4.r5
  go_wp2_with fail
  clear e0 e1 e2 e3 e4
  clear c0 c1 c2 c3 c4 f0 f1 f2 f3 f4 hcd
  refine (refCheck11_any 2 (n8 ys 1) (strOfNums gs) (n8 ys (10 + N)) (0) _ hs).mono ?_
  rintro e wy ⟨rfl, hby⟩
  rw [HE.out]
  have sy := s4.below hby
  clear s4 hby
  obtain ⟨c0, c1, c2, c3, c4⟩ := sy.r5
  obtain ⟨⟨z0, z1, z2, z3, z4⟩, y0, y1, y2, y3, y4⟩ := sy.c5
  by_cases h0 : E = 0
  · subst h0
    have HV : Hid (X = .agg #[.int .i64 2, .int .i64 (n8 ys 1), .string (strOfNums gs), .int .i64 (n8 ys (10 + N)), .int .i64 (0)]) := Lib.hid (by rw [← HX.out]; rfl)
    have P5 := Lib.hid (sy.done (.int .i64 2) (.int .i64 (n8 ys 1)) (.string (strOfNums gs)) (.int .i64 (n8 ys (10 + N))) (.int .i64 (0)))
    go_wp2
    (try simp only [Exit.inBlock, Exit.then])
    show bodyPost _ _ _ _ _ (put5 wy w.heap.size (.int .i64 2) (.int .i64 (n8 ys 1)) (.string (strOfNums gs)) (.int .i64 (n8 ys (10 + N))) (.int .i64 (0)))
    generalize put5 wy w.heap.size (.int .i64 2) (.int .i64 (n8 ys 1)) (.string (strOfNums gs)) (.int .i64 (n8 ys (10 + N))) (.int .i64 (0)) = wz at *
    obtain ⟨x0, x1, x2, x3, x4⟩ := cells5 P5.out.1
    refine bodyPost_ret (v := .tuple #[.agg #[.int .i64 2, .int .i64 (n8 ys 1), .string (strOfNums gs), .int .i64 (n8 ys (10 + N)), .int .i64 (0)], .int .i64 0]) (by simp [results, Try.results16, go_sem, x0, x1, x2, x3, x4]) rfl ?_
    exact ⟨by rw [HV.out], P5.out.2⟩
  · have hE2 : (E != 0) = true := by simp [h0]
    have HV : Hid (X = .agg #[.int .i64 0, .int .i64 0, .string ⟨#[]⟩, .int .i64 0, .int .i64 0]) := Lib.hid (by rw [← HX.out, if_neg h0])
    clear h0
    have P5 := Lib.hid (sy.done (.int .i64 0) (.int .i64 0) (.string ⟨#[]⟩) (.int .i64 0) (.int .i64 0))
    go_wp2
    (try simp only [Exit.inBlock, Exit.then])
    show bodyPost _ _ _ _ _ (put5 wy w.heap.size (.int .i64 0) (.int .i64 0) (.string ⟨#[]⟩) (.int .i64 0) (.int .i64 0))
    generalize put5 wy w.heap.size (.int .i64 0) (.int .i64 0) (.string ⟨#[]⟩) (.int .i64 0) (.int .i64 0) = wz at *
    obtain ⟨x0, x1, x2, x3, x4⟩ := cells5 P5.out.1
    refine bodyPost_ret (v := .tuple #[.agg #[.int .i64 0, .int .i64 0, .string ⟨#[]⟩, .int .i64 0, .int .i64 0], .int .i64 E]) (by simp [results, Try.results16, go_sem, x0, x1, x2, x3, x4]) rfl ?_
    exact ⟨by rw [HV.out], P5.out.2⟩
set_option maxHeartbeats 4000000 in
theorem refGet11_3 (b o m cap : Nat) (ys : List Int) (w : World) (hr : Row .u8 w w.heap.size (some ⟨b, o, none⟩) ys) (hm : ys.length = m) (hb : m ≤ 140737488355328) (hlen : m = 17) (hcap : m ≤ cap) (hk : nth ys 0 = 3) :
    Calls Try.prog 16 #[.slice (some ⟨b, o, none⟩) m cap] w (GotRc w ys) := by
  have hfm : fmRc ys = 0 := by
    unfold fmRc
    rw [if_neg (by omega), hk, show lenRc ys = m from (len_3 ys hk).trans hlen.symm, hm, if_neg (by omega), if_neg (by omega)]
    rfl
  have he := rcErr_form ys
  rw [if_pos hfm] at he
  have ok := rdRc_ok ys hr.1 (by rw [hm]; simp only [maxLen]; omega)
  unfold GotRc
  obtain ⟨X, hX⟩ : ∃ X, rcV (rcGot ys) = X := ⟨_, rfl⟩
  rw [hX, he]
  have HX : Hid ((if chkRc (rdRc ys) = 0 then rcV (rdRc ys) else .agg #[.int .i64 0, .int .i64 0, .string ⟨#[]⟩, .int .i64 0, .int .i64 0]) = X) := Lib.hid (by
    rw [← hX, ← he]
    unfold rcGot
    by_cases hz : rcErr ys = 0
    · rw [if_pos hz, if_pos hz]
    · rw [if_neg hz, if_neg hz]; rfl)
  have HD := rd_3 ys hk
  obtain ⟨E, hE⟩ : ∃ E, chkRc (rdRc ys) = E := ⟨_, rfl⟩
  rw [hE] at HX ⊢
  rw [HD] at hE HX ok
  have HE := Lib.hid hE
  clear hX he hE HD
  have HR := Lib.hid hr
  have HM := Lib.hid hm
  have s1 := RT.new w ⟨3, 0, ⟨#[]⟩, 0, 0⟩
  obtain ⟨b', o', hA, hbB, hc0⟩ := hr.at_ (i := 0) (by omega)
  injection hA with hA
  injection hA with hA1 hA2
  subst hA1 hA2
  rw [hk, Nat.add_zero] at hc0
  have HL := Lib.hid (length11_any b o m cap ys _ _ (hr.below s1.bel) hm (by omega) hb hcap (by rw [hk]; rfl))
  have hLn : refLen ys = (m : Int) := by
    unfold refLen
    rw [hk, show lenRc ys = m from (len_3 ys hk).trans hlen.symm, hm, decide_eq_false (show ¬ m < 10 by omega)]
    rfl
  rw [hLn] at HL
  have hm1 : ((m : Int) == 0) = false := beq_false_of_ne (by omega)
  have hm2 : ¬ m = 0 := by omega
  have hm3 : ¬ (m : Int) < 0 := by omega
  have hm4 : ¬ (m : Int) < (m : Int) := by omega
  have hm5 : ¬ (m : Int) > (m : Int) := by omega
  have hc1 := (bel_alloc w (.cells #[.int .i64 0, .int .i64 0, .string ⟨#[]⟩, .int .i64 0, .int .i64 0] 23)).cell (p := ⟨b, o, none⟩) hbB
  rw [hc0] at hc1
  have hl1 := Nat.le_of_eq hlen
  have hl2 := Nat.le_of_eq hlen.symm
  have hs := ok.1
  simp only at hs
  clear hr hm hk hlen hLn hfm ok
  obtain ⟨c0, c1, c2, c3, c4⟩ := s1.r5
  unfold rcB at *
  go_enter Try.func16, Try.ntmps16
  go_wp2_with fail
  refine HL.out.mono ?_
  rintro e w' ⟨rfl, rfl⟩
  go_wp2_with fail
  clear c0 c1 c2 c3 c4 hc1 HL
  change RT _ _ _ _ ((w.alloc (.cells #[.int .i64 0, .int .i64 0, .string ⟨#[]⟩, .int .i64 0, .int .i64 0] 23)).alloc (.cells #[.int .i64 3, .int .i64 0, .string ⟨#[]⟩, .int .i64 0, .int .i64 0] 23)) at s1
  generalize (w.alloc (.cells #[.int .i64 0, .int .i64 0, .string ⟨#[]⟩, .int .i64 0, .int .i64 0] 23)).alloc (.cells #[.int .i64 3, .int .i64 0, .string ⟨#[]⟩, .int .i64 0, .int .i64 0] 23) = w1' at *
  generalize ha : w.heap.size + 1 = a at *
  refine (at_z (some ⟨b, o, none⟩) m cap 1 _ ys _ _ (HR.out.below s1.bel) HM.out hb hcap (by omega) (by rfl)).mono ?_
  rintro e w' ⟨rfl, rfl⟩
  obtain ⟨c0, c1, c2, c3, c4⟩ := s1.r5
  obtain ⟨f0, f1, f2, f3, f4⟩ := s1.f5
  have s2 := s1.put 1 (.int .i64 (n8 ys 1)) ⟨3, n8 ys 1, ⟨#[]⟩, 0, 0⟩ rfl
  have e0 := s2.r5.1
  have e1 : (w1'.setCell ⟨a, 1, none⟩ (.int .i64 (n8 ys 1))).cell? ⟨a, 0, none⟩ = some (.int .i64 3) := e0
  clear e0
  go_wp2_with fail
  refine (tagged_any 3 _).mono ?_
  rintro e w' ⟨rfl, rfl⟩
  rw [show tgK 3 = false from rfl]
  clear e1
  generalize w1'.setCell ⟨a, 1, none⟩ (.int .i64 (n8 ys 1)) = w2' at *
  clear c0 c1 c2 c3 c4 f0 f1 f2 f3 f4
  clear s1
  obtain ⟨c0, c1, c2, c3, c4⟩ := s2.r5
  obtain ⟨f0, f1, f2, f3, f4⟩ := s2.f5
  go_wp2_with fail
  refine (named_any 3 _).mono ?_
  rintro e w' ⟨rfl, rfl⟩
  rw [show idK 3 = false from rfl]
  clear c0 c1 c2 c3 c4 f0 f1 f2 f3 f4
  obtain ⟨c0, c1, c2, c3, c4⟩ := s2.r5
  obtain ⟨f0, f1, f2, f3, f4⟩ := s2.f5
  go_wp2_with fail
  refine (valued_any 3 _).mono ?_
  rintro e w' ⟨rfl, rfl⟩
  rw [show vlK 3 = true from rfl]
  clear c0 c1 c2 c3 c4 f0 f1 f2 f3 f4
  go_wp2_with fail
  refine (at_z (some ⟨b, o, none⟩) m cap 9 _ ys _ _ (HR.out.below s2.bel) HM.out hb hcap (by omega) (by rfl)).mono ?_
  rintro e w' ⟨rfl, rfl⟩
  obtain ⟨c0, c1, c2, c3, c4⟩ := s2.r5
  obtain ⟨f0, f1, f2, f3, f4⟩ := s2.f5
  have s3 := s2.put 3 (.int .i64 (n8 ys 9)) ⟨3, n8 ys 1, ⟨#[]⟩, n8 ys 9, 0⟩ rfl
  obtain ⟨e0, e1, e2, e3, e4⟩ : (w2'.setCell ⟨a, 3, none⟩ (.int .i64 (n8 ys 9))).cell? ⟨a, 0, none⟩ = some (.int .i64 3) ∧ (w2'.setCell ⟨a, 3, none⟩ (.int .i64 (n8 ys 9))).cell? ⟨a, 1, none⟩ = some (.int .i64 (n8 ys 1)) ∧ (w2'.setCell ⟨a, 3, none⟩ (.int .i64 (n8 ys 9))).cell? ⟨a, 2, none⟩ = some (.string (⟨#[]⟩)) ∧ (w2'.setCell ⟨a, 3, none⟩ (.int .i64 (n8 ys 9))).cell? ⟨a, 3, none⟩ = some (.int .i64 (n8 ys 9)) ∧ (w2'.setCell ⟨a, 3, none⟩ (.int .i64 (n8 ys 9))).cell? ⟨a, 4, none⟩ = some (.int .i64 (0)) := s3.r5
  go_wp2_with fail
  clear e0 e1 e2 e3 e4
  clear c0 c1 c2 c3 c4 f0 f1 f2 f3 f4
  refine (refCheck11_any 3 (n8 ys 1) (⟨#[]⟩) (n8 ys 9) (0) _ hs).mono ?_
  rintro e wy ⟨rfl, hby⟩
  rw [HE.out]
  have sy := s3.below hby
  clear s3 hby
  obtain ⟨c0, c1, c2, c3, c4⟩ := sy.r5
  obtain ⟨⟨z0, z1, z2, z3, z4⟩, y0, y1, y2, y3, y4⟩ := sy.c5
  by_cases h0 : E = 0
  · subst h0
    have HV : Hid (X = .agg #[.int .i64 3, .int .i64 (n8 ys 1), .string (⟨#[]⟩), .int .i64 (n8 ys 9), .int .i64 (0)]) := Lib.hid (by rw [← HX.out]; rfl)
    have P5 := Lib.hid (sy.done (.int .i64 3) (.int .i64 (n8 ys 1)) (.string (⟨#[]⟩)) (.int .i64 (n8 ys 9)) (.int .i64 (0)))
    go_wp2
    (try simp only [Exit.inBlock, Exit.then])
    show bodyPost _ _ _ _ _ (put5 wy w.heap.size (.int .i64 3) (.int .i64 (n8 ys 1)) (.string (⟨#[]⟩)) (.int .i64 (n8 ys 9)) (.int .i64 (0)))
    generalize put5 wy w.heap.size (.int .i64 3) (.int .i64 (n8 ys 1)) (.string (⟨#[]⟩)) (.int .i64 (n8 ys 9)) (.int .i64 (0)) = wz at *
    obtain ⟨x0, x1, x2, x3, x4⟩ := cells5 P5.out.1
    refine bodyPost_ret (v := .tuple #[.agg #[.int .i64 3, .int .i64 (n8 ys 1), .string (⟨#[]⟩), .int .i64 (n8 ys 9), .int .i64 (0)], .int .i64 0]) (by simp [results, Try.results16, go_sem, x0, x1, x2, x3, x4]) rfl ?_
    exact ⟨by rw [HV.out], P5.out.2⟩
  · have hE2 : (E != 0) = true := by simp [h0]
    have HV : Hid (X = .agg #[.int .i64 0, .int .i64 0, .string ⟨#[]⟩, .int .i64 0, .int .i64 0]) := Lib.hid (by rw [← HX.out, if_neg h0])
    clear h0
    have P5 := Lib.hid (sy.done (.int .i64 0) (.int .i64 0) (.string ⟨#[]⟩) (.int .i64 0) (.int .i64 0))
    go_wp2
    (try simp only [Exit.inBlock, Exit.then])
    show bodyPost _ _ _ _ _ (put5 wy w.heap.size (.int .i64 0) (.int .i64 0) (.string ⟨#[]⟩) (.int .i64 0) (.int .i64 0))
    generalize put5 wy w.heap.size (.int .i64 0) (.int .i64 0) (.string ⟨#[]⟩) (.int .i64 0) (.int .i64 0) = wz at *
    obtain ⟨x0, x1, x2, x3, x4⟩ := cells5 P5.out.1
    refine bodyPost_ret (v := .tuple #[.agg #[.int .i64 0, .int .i64 0, .string ⟨#[]⟩, .int .i64 0, .int .i64 0], .int .i64 E]) (by simp [results, Try.results16, go_sem, x0, x1, x2, x3, x4]) rfl ?_
    exact ⟨by rw [HV.out], P5.out.2⟩
set_option maxHeartbeats 4000000 in
theorem refGet11_4 (b o m cap : Nat) (ys : List Int) (w : World) (hr : Row .u8 w w.heap.size (some ⟨b, o, none⟩) ys) (hm : ys.length = m) (hb : m ≤ 140737488355328) (hlen : m = 17) (hcap : m ≤ cap) (hk : nth ys 0 = 4) :
    Calls Try.prog 16 #[.slice (some ⟨b, o, none⟩) m cap] w (GotRc w ys) := by
  have hfm : fmRc ys = 0 := by
    unfold fmRc
    rw [if_neg (by omega), hk, show lenRc ys = m from (len_4 ys hk).trans hlen.symm, hm, if_neg (by omega), if_neg (by omega)]
    rfl
  have he := rcErr_form ys
  rw [if_pos hfm] at he
  have ok := rdRc_ok ys hr.1 (by rw [hm]; simp only [maxLen]; omega)
  unfold GotRc
  obtain ⟨X, hX⟩ : ∃ X, rcV (rcGot ys) = X := ⟨_, rfl⟩
  rw [hX, he]
  have HX : Hid ((if chkRc (rdRc ys) = 0 then rcV (rdRc ys) else .agg #[.int .i64 0, .int .i64 0, .string ⟨#[]⟩, .int .i64 0, .int .i64 0]) = X) := Lib.hid (by
    rw [← hX, ← he]
    unfold rcGot
    by_cases hz : rcErr ys = 0
    · rw [if_pos hz, if_pos hz]
    · rw [if_neg hz, if_neg hz]; rfl)
  have HD := rd_4 ys hk
  obtain ⟨E, hE⟩ : ∃ E, chkRc (rdRc ys) = E := ⟨_, rfl⟩
  rw [hE] at HX ⊢
  rw [HD] at hE HX ok
  have HE := Lib.hid hE
  clear hX he hE HD
  have HR := Lib.hid hr
  have HM := Lib.hid hm
  have s1 := RT.new w ⟨4, 0, ⟨#[]⟩, 0, 0⟩
  obtain ⟨b', o', hA, hbB, hc0⟩ := hr.at_ (i := 0) (by omega)
  injection hA with hA
  injection hA with hA1 hA2
  subst hA1 hA2
  rw [hk, Nat.add_zero] at hc0
  have HL := Lib.hid (length11_any b o m cap ys _ _ (hr.below s1.bel) hm (by omega) hb hcap (by rw [hk]; rfl))
  have hLn : refLen ys = (m : Int) := by
    unfold refLen
    rw [hk, show lenRc ys = m from (len_4 ys hk).trans hlen.symm, hm, decide_eq_false (show ¬ m < 10 by omega)]
    rfl
  rw [hLn] at HL
  have hm1 : ((m : Int) == 0) = false := beq_false_of_ne (by omega)
  have hm2 : ¬ m = 0 := by omega
  have hm3 : ¬ (m : Int) < 0 := by omega
  have hm4 : ¬ (m : Int) < (m : Int) := by omega
  have hm5 : ¬ (m : Int) > (m : Int) := by omega
  have hc1 := (bel_alloc w (.cells #[.int .i64 0, .int .i64 0, .string ⟨#[]⟩, .int .i64 0, .int .i64 0] 23)).cell (p := ⟨b, o, none⟩) hbB
  rw [hc0] at hc1
  have hl1 := Nat.le_of_eq hlen
  have hl2 := Nat.le_of_eq hlen.symm
  have hs := ok.1
  simp only at hs
  clear hr hm hk hlen hLn hfm ok
  obtain ⟨c0, c1, c2, c3, c4⟩ := s1.r5
  unfold rcB at *
  go_enter Try.func16, Try.ntmps16
  go_wp2_with fail
  refine HL.out.mono ?_
  rintro e w' ⟨rfl, rfl⟩
  go_wp2_with fail
  clear c0 c1 c2 c3 c4 hc1 HL
  change RT _ _ _ _ ((w.alloc (.cells #[.int .i64 0, .int .i64 0, .string ⟨#[]⟩, .int .i64 0, .int .i64 0] 23)).alloc (.cells #[.int .i64 4, .int .i64 0, .string ⟨#[]⟩, .int .i64 0, .int .i64 0] 23)) at s1
  generalize (w.alloc (.cells #[.int .i64 0, .int .i64 0, .string ⟨#[]⟩, .int .i64 0, .int .i64 0] 23)).alloc (.cells #[.int .i64 4, .int .i64 0, .string ⟨#[]⟩, .int .i64 0, .int .i64 0] 23) = w1' at *
  generalize ha : w.heap.size + 1 = a at *
  refine (at_z (some ⟨b, o, none⟩) m cap 1 _ ys _ _ (HR.out.below s1.bel) HM.out hb hcap (by omega) (by rfl)).mono ?_
  rintro e w' ⟨rfl, rfl⟩
  obtain ⟨c0, c1, c2, c3, c4⟩ := s1.r5
  obtain ⟨f0, f1, f2, f3, f4⟩ := s1.f5
  have s2 := s1.put 1 (.int .i64 (n8 ys 1)) ⟨4, n8 ys 1, ⟨#[]⟩, 0, 0⟩ rfl
  have e0 := s2.r5.1
  have e1 : (w1'.setCell ⟨a, 1, none⟩ (.int .i64 (n8 ys 1))).cell? ⟨a, 0, none⟩ = some (.int .i64 4) := e0
  clear e0
  go_wp2_with fail
  refine (tagged_any 4 _).mono ?_
  rintro e w' ⟨rfl, rfl⟩
  rw [show tgK 4 = false from rfl]
  clear e1
  generalize w1'.setCell ⟨a, 1, none⟩ (.int .i64 (n8 ys 1)) = w2' at *
  clear c0 c1 c2 c3 c4 f0 f1 f2 f3 f4
  clear s1
  obtain ⟨c0, c1, c2, c3, c4⟩ := s2.r5
  obtain ⟨f0, f1, f2, f3, f4⟩ := s2.f5
  go_wp2_with fail
  refine (named_any 4 _).mono ?_
  rintro e w' ⟨rfl, rfl⟩
  rw [show idK 4 = false from rfl]
  clear c0 c1 c2 c3 c4 f0 f1 f2 f3 f4
  obtain ⟨c0, c1, c2, c3, c4⟩ := s2.r5
  obtain ⟨f0, f1, f2, f3, f4⟩ := s2.f5
  go_wp2_with fail
  refine (valued_any 4 _).mono ?_
  rintro e w' ⟨rfl, rfl⟩
  rw [show vlK 4 = true from rfl]
  clear c0 c1 c2 c3 c4 f0 f1 f2 f3 f4
  go_wp2_with fail
  refine (at_z (some ⟨b, o, none⟩) m cap 9 _ ys _ _ (HR.out.below s2.bel) HM.out hb hcap (by omega) (by rfl)).mono ?_
  rintro e w' ⟨rfl, rfl⟩
  obtain ⟨c0, c1, c2, c3, c4⟩ := s2.r5
  obtain ⟨f0, f1, f2, f3, f4⟩ := s2.f5
  have s3 := s2.put 3 (.int .i64 (n8 ys 9)) ⟨4, n8 ys 1, ⟨#[]⟩, n8 ys 9, 0⟩ rfl
  obtain ⟨e0, e1, e2, e3, e4⟩ : (w2'.setCell ⟨a, 3, none⟩ (.int .i64 (n8 ys 9))).cell? ⟨a, 0, none⟩ = some (.int .i64 4) ∧ (w2'.setCell ⟨a, 3, none⟩ (.int .i64 (n8 ys 9))).cell? ⟨a, 1, none⟩ = some (.int .i64 (n8 ys 1)) ∧ (w2'.setCell ⟨a, 3, none⟩ (.int .i64 (n8 ys 9))).cell? ⟨a, 2, none⟩ = some (.string (⟨#[]⟩)) ∧ (w2'.setCell ⟨a, 3, none⟩ (.int .i64 (n8 ys 9))).cell? ⟨a, 3, none⟩ = some (.int .i64 (n8 ys 9)) ∧ (w2'.setCell ⟨a, 3, none⟩ (.int .i64 (n8 ys 9))).cell? ⟨a, 4, none⟩ = some (.int .i64 (0)) := s3.r5
  go_wp2_with fail
  clear e0 e1 e2 e3 e4
  clear c0 c1 c2 c3 c4 f0 f1 f2 f3 f4
  refine (refCheck11_any 4 (n8 ys 1) (⟨#[]⟩) (n8 ys 9) (0) _ hs).mono ?_
  rintro e wy ⟨rfl, hby⟩
  rw [HE.out]
  have sy := s3.below hby
  clear s3 hby
  obtain ⟨c0, c1, c2, c3, c4⟩ := sy.r5
  obtain ⟨⟨z0, z1, z2, z3, z4⟩, y0, y1, y2, y3, y4⟩ := sy.c5
  by_cases h0 : E = 0
  · subst h0
    have HV : Hid (X = .agg #[.int .i64 4, .int .i64 (n8 ys 1), .string (⟨#[]⟩), .int .i64 (n8 ys 9), .int .i64 (0)]) := Lib.hid (by rw [← HX.out]; rfl)
    have P5 := Lib.hid (sy.done (.int .i64 4) (.int .i64 (n8 ys 1)) (.string (⟨#[]⟩)) (.int .i64 (n8 ys 9)) (.int .i64 (0)))
    go_wp2
    (try simp only [Exit.inBlock, Exit.then])
    show bodyPost _ _ _ _ _ (put5 wy w.heap.size (.int .i64 4) (.int .i64 (n8 ys 1)) (.string (⟨#[]⟩)) (.int .i64 (n8 ys 9)) (.int .i64 (0)))
    generalize put5 wy w.heap.size (.int .i64 4) (.int .i64 (n8 ys 1)) (.string (⟨#[]⟩)) (.int .i64 (n8 ys 9)) (.int .i64 (0)) = wz at *
    obtain ⟨x0, x1, x2, x3, x4⟩ := cells5 P5.out.1
    refine bodyPost_ret (v := .tuple #[.agg #[.int .i64 4, .int .i64 (n8 ys 1), .string (⟨#[]⟩), .int .i64 (n8 ys 9), .int .i64 (0)], .int .i64 0]) (by simp [results, Try.results16, go_sem, x0, x1, x2, x3, x4]) rfl ?_
    exact ⟨by rw [HV.out], P5.out.2⟩
  · have hE2 : (E != 0) = true := by simp [h0]
    have HV : Hid (X = .agg #[.int .i64 0, .int .i64 0, .string ⟨#[]⟩, .int .i64 0, .int .i64 0]) := Lib.hid (by rw [← HX.out, if_neg h0])
    clear h0
    have P5 := Lib.hid (sy.done (.int .i64 0) (.int .i64 0) (.string ⟨#[]⟩) (.int .i64 0) (.int .i64 0))
    go_wp2
    (try simp only [Exit.inBlock, Exit.then])
    show bodyPost _ _ _ _ _ (put5 wy w.heap.size (.int .i64 0) (.int .i64 0) (.string ⟨#[]⟩) (.int .i64 0) (.int .i64 0))
    generalize put5 wy w.heap.size (.int .i64 0) (.int .i64 0) (.string ⟨#[]⟩) (.int .i64 0) (.int .i64 0) = wz at *
    obtain ⟨x0, x1, x2, x3, x4⟩ := cells5 P5.out.1
    refine bodyPost_ret (v := .tuple #[.agg #[.int .i64 0, .int .i64 0, .string ⟨#[]⟩, .int .i64 0, .int .i64 0], .int .i64 E]) (by simp [results, Try.results16, go_sem, x0, x1, x2, x3, x4]) rfl ?_
    exact ⟨by rw [HV.out], P5.out.2⟩
set_option maxHeartbeats 4000000 in
theorem refGet11_5 (b o m cap : Nat) (ys : List Int) (w : World) (hr : Row .u8 w w.heap.size (some ⟨b, o, none⟩) ys) (hm : ys.length = m) (hb : m ≤ 140737488355328) (hlen : m = 17) (hcap : m ≤ cap) (hk : nth ys 0 = 5) :
    Calls Try.prog 16 #[.slice (some ⟨b, o, none⟩) m cap] w (GotRc w ys) := by
  have hfm : fmRc ys = 0 := by
    unfold fmRc
    rw [if_neg (by omega), hk, show lenRc ys = m from (len_5 ys hk).trans hlen.symm, hm, if_neg (by omega), if_neg (by omega)]
    rfl
  have he := rcErr_form ys
  rw [if_pos hfm] at he
  have ok := rdRc_ok ys hr.1 (by rw [hm]; simp only [maxLen]; omega)
  unfold GotRc
  obtain ⟨X, hX⟩ : ∃ X, rcV (rcGot ys) = X := ⟨_, rfl⟩
  rw [hX, he]
  have HX : Hid ((if chkRc (rdRc ys) = 0 then rcV (rdRc ys) else .agg #[.int .i64 0, .int .i64 0, .string ⟨#[]⟩, .int .i64 0, .int .i64 0]) = X) := Lib.hid (by
    rw [← hX, ← he]
    unfold rcGot
    by_cases hz : rcErr ys = 0
    · rw [if_pos hz, if_pos hz]
    · rw [if_neg hz, if_neg hz]; rfl)
  have HD := rd_5 ys hk
  obtain ⟨E, hE⟩ : ∃ E, chkRc (rdRc ys) = E := ⟨_, rfl⟩
  rw [hE] at HX ⊢
  rw [HD] at hE HX ok
  have HE := Lib.hid hE
  clear hX he hE HD
  have HR := Lib.hid hr
  have HM := Lib.hid hm
  have s1 := RT.new w ⟨5, 0, ⟨#[]⟩, 0, 0⟩
  obtain ⟨b', o', hA, hbB, hc0⟩ := hr.at_ (i := 0) (by omega)
  injection hA with hA
  injection hA with hA1 hA2
  subst hA1 hA2
  rw [hk, Nat.add_zero] at hc0
  have HL := Lib.hid (length11_any b o m cap ys _ _ (hr.below s1.bel) hm (by omega) hb hcap (by rw [hk]; rfl))
  have hLn : refLen ys = (m : Int) := by
    unfold refLen
    rw [hk, show lenRc ys = m from (len_5 ys hk).trans hlen.symm, hm, decide_eq_false (show ¬ m < 10 by omega)]
    rfl
  rw [hLn] at HL
  have hm1 : ((m : Int) == 0) = false := beq_false_of_ne (by omega)
  have hm2 : ¬ m = 0 := by omega
  have hm3 : ¬ (m : Int) < 0 := by omega
  have hm4 : ¬ (m : Int) < (m : Int) := by omega
  have hm5 : ¬ (m : Int) > (m : Int) := by omega
  have hc1 := (bel_alloc w (.cells #[.int .i64 0, .int .i64 0, .string ⟨#[]⟩, .int .i64 0, .int .i64 0] 23)).cell (p := ⟨b, o, none⟩) hbB
  rw [hc0] at hc1
  have hl1 := Nat.le_of_eq hlen
  have hl2 := Nat.le_of_eq hlen.symm
  have hs := ok.1
  simp only at hs
  clear hr hm hk hlen hLn hfm ok
  obtain ⟨c0, c1, c2, c3, c4⟩ := s1.r5
  unfold rcB at *
  go_enter Try.func16, Try.ntmps16
  go_wp2_with fail
  refine HL.out.mono ?_
  rintro e w' ⟨rfl, rfl⟩
  go_wp2_with fail
  clear c0 c1 c2 c3 c4 hc1 HL
  change RT _ _ _ _ ((w.alloc (.cells #[.int .i64 0, .int .i64 0, .string ⟨#[]⟩, .int .i64 0, .int .i64 0] 23)).alloc (.cells #[.int .i64 5, .int .i64 0, .string ⟨#[]⟩, .int .i64 0, .int .i64 0] 23)) at s1
  generalize (w.alloc (.cells #[.int .i64 0, .int .i64 0, .string ⟨#[]⟩, .int .i64 0, .int .i64 0] 23)).alloc (.cells #[.int .i64 5, .int .i64 0, .string ⟨#[]⟩, .int .i64 0, .int .i64 0] 23) = w1' at *
  generalize ha : w.heap.size + 1 = a at *
  refine (at_z (some ⟨b, o, none⟩) m cap 1 _ ys _ _ (HR.out.below s1.bel) HM.out hb hcap (by omega) (by rfl)).mono ?_
  rintro e w' ⟨rfl, rfl⟩
  obtain ⟨c0, c1, c2, c3, c4⟩ := s1.r5
  obtain ⟨f0, f1, f2, f3, f4⟩ := s1.f5
  have s2 := s1.put 1 (.int .i64 (n8 ys 1)) ⟨5, n8 ys 1, ⟨#[]⟩, 0, 0⟩ rfl
  have e0 := s2.r5.1
  have e1 : (w1'.setCell ⟨a, 1, none⟩ (.int .i64 (n8 ys 1))).cell? ⟨a, 0, none⟩ = some (.int .i64 5) := e0
  clear e0
  go_wp2_with fail
  refine (tagged_any 5 _).mono ?_
  rintro e w' ⟨rfl, rfl⟩
  rw [show tgK 5 = false from rfl]
  clear e1
  generalize w1'.setCell ⟨a, 1, none⟩ (.int .i64 (n8 ys 1)) = w2' at *
  clear c0 c1 c2 c3 c4 f0 f1 f2 f3 f4
  clear s1
  obtain ⟨c0, c1, c2, c3, c4⟩ := s2.r5
  obtain ⟨f0, f1, f2, f3, f4⟩ := s2.f5
  go_wp2_with fail
  refine (named_any 5 _).mono ?_
  rintro e w' ⟨rfl, rfl⟩
  rw [show idK 5 = true from rfl]
  clear c0 c1 c2 c3 c4 f0 f1 f2 f3 f4
  go_wp2_with fail
  refine (at_z (some ⟨b, o, none⟩) m cap 9 _ ys _ _ (HR.out.below s2.bel) HM.out hb hcap (by omega) (by rfl)).mono ?_
  rintro e w' ⟨rfl, rfl⟩
  obtain ⟨c0, c1, c2, c3, c4⟩ := s2.r5
  obtain ⟨f0, f1, f2, f3, f4⟩ := s2.f5
  have s3 := s2.put 4 (.int .i64 (n8 ys 9)) ⟨5, n8 ys 1, ⟨#[]⟩, 0, n8 ys 9⟩ rfl
  have e0 := s3.r5.1
  have e1 : (w2'.setCell ⟨a, 4, none⟩ (.int .i64 (n8 ys 9))).cell? ⟨a, 0, none⟩ = some (.int .i64 5) := e0
  clear e0
  go_wp2_with fail
  refine (valued_any 5 _).mono ?_
  rintro e w' ⟨rfl, rfl⟩
  rw [show vlK 5 = false from rfl]
  clear e1
  generalize w2'.setCell ⟨a, 4, none⟩ (.int .i64 (n8 ys 9)) = w3' at *
  clear c0 c1 c2 c3 c4 f0 f1 f2 f3 f4
  clear s2
  obtain ⟨c0, c1, c2, c3, c4⟩ := s3.r5
  obtain ⟨f0, f1, f2, f3, f4⟩ := s3.f5
  go_wp2_with fail
  clear c0 c1 c2 c3 c4 f0 f1 f2 f3 f4
  refine (refCheck11_any 5 (n8 ys 1) (⟨#[]⟩) (0) (n8 ys 9) _ hs).mono ?_
  rintro e wy ⟨rfl, hby⟩
  rw [HE.out]
  have sy := s3.below hby
  clear s3 hby
  obtain ⟨c0, c1, c2, c3, c4⟩ := sy.r5
  obtain ⟨⟨z0, z1, z2, z3, z4⟩, y0, y1, y2, y3, y4⟩ := sy.c5
  by_cases h0 : E = 0
  · subst h0
    have HV : Hid (X = .agg #[.int .i64 5, .int .i64 (n8 ys 1), .string (⟨#[]⟩), .int .i64 (0), .int .i64 (n8 ys 9)]) := Lib.hid (by rw [← HX.out]; rfl)
    have P5 := Lib.hid (sy.done (.int .i64 5) (.int .i64 (n8 ys 1)) (.string (⟨#[]⟩)) (.int .i64 (0)) (.int .i64 (n8 ys 9)))
    go_wp2
    (try simp only [Exit.inBlock, Exit.then])
    show bodyPost _ _ _ _ _ (put5 wy w.heap.size (.int .i64 5) (.int .i64 (n8 ys 1)) (.string (⟨#[]⟩)) (.int .i64 (0)) (.int .i64 (n8 ys 9)))
    generalize put5 wy w.heap.size (.int .i64 5) (.int .i64 (n8 ys 1)) (.string (⟨#[]⟩)) (.int .i64 (0)) (.int .i64 (n8 ys 9)) = wz at *
    obtain ⟨x0, x1, x2, x3, x4⟩ := cells5 P5.out.1
    refine bodyPost_ret (v := .tuple #[.agg #[.int .i64 5, .int .i64 (n8 ys 1), .string (⟨#[]⟩), .int .i64 (0), .int .i64 (n8 ys 9)], .int .i64 0]) (by simp [results, Try.results16, go_sem, x0, x1, x2, x3, x4]) rfl ?_
    exact ⟨by rw [HV.out], P5.out.2⟩
  · have hE2 : (E != 0) = true := by simp [h0]
    have HV : Hid (X = .agg #[.int .i64 0, .int .i64 0, .string ⟨#[]⟩, .int .i64 0, .int .i64 0]) := Lib.hid (by rw [← HX.out, if_neg h0])
    clear h0
    have P5 := Lib.hid (sy.done (.int .i64 0) (.int .i64 0) (.string ⟨#[]⟩) (.int .i64 0) (.int .i64 0))
    go_wp2
    (try simp only [Exit.inBlock, Exit.then])
    show bodyPost _ _ _ _ _ (put5 wy w.heap.size (.int .i64 0) (.int .i64 0) (.string ⟨#[]⟩) (.int .i64 0) (.int .i64 0))
    generalize put5 wy w.heap.size (.int .i64 0) (.int .i64 0) (.string ⟨#[]⟩) (.int .i64 0) (.int .i64 0) = wz at *
    obtain ⟨x0, x1, x2, x3, x4⟩ := cells5 P5.out.1
    refine bodyPost_ret (v := .tuple #[.agg #[.int .i64 0, .int .i64 0, .string ⟨#[]⟩, .int .i64 0, .int .i64 0], .int .i64 E]) (by simp [results, Try.results16, go_sem, x0, x1, x2, x3, x4]) rfl ?_
    exact ⟨by rw [HV.out], P5.out.2⟩
set_option maxHeartbeats 4000000 in
theorem refGet11_6 (b o m cap : Nat) (ys : List Int) (w : World) (hr : Row .u8 w w.heap.size (some ⟨b, o, none⟩) ys) (hm : ys.length = m) (hb : m ≤ 140737488355328) (hlen : m = 25) (hcap : m ≤ cap) (hk : nth ys 0 = 6) :
    Calls Try.prog 16 #[.slice (some ⟨b, o, none⟩) m cap] w (GotRc w ys) := by
  have hfm : fmRc ys = 0 := by
    unfold fmRc
    rw [if_neg (by omega), hk, show lenRc ys = m from (len_6 ys hk).trans hlen.symm, hm, if_neg (by omega), if_neg (by omega)]
    rfl
  have he := rcErr_form ys
  rw [if_pos hfm] at he
  have ok := rdRc_ok ys hr.1 (by rw [hm]; simp only [maxLen]; omega)
  unfold GotRc
  obtain ⟨X, hX⟩ : ∃ X, rcV (rcGot ys) = X := ⟨_, rfl⟩
  rw [hX, he]
  have HX : Hid ((if chkRc (rdRc ys) = 0 then rcV (rdRc ys) else .agg #[.int .i64 0, .int .i64 0, .string ⟨#[]⟩, .int .i64 0, .int .i64 0]) = X) := Lib.hid (by
    rw [← hX, ← he]
    unfold rcGot
    by_cases hz : rcErr ys = 0
    · rw [if_pos hz, if_pos hz]
    · rw [if_neg hz, if_neg hz]; rfl)
  have HD := rd_6 ys hk
  obtain ⟨E, hE⟩ : ∃ E, chkRc (rdRc ys) = E := ⟨_, rfl⟩
  rw [hE] at HX ⊢
  rw [HD] at hE HX ok
  have HE := Lib.hid hE
  clear hX he hE HD
  have HR := Lib.hid hr
  have HM := Lib.hid hm
  have s1 := RT.new w ⟨6, 0, ⟨#[]⟩, 0, 0⟩
  obtain ⟨b', o', hA, hbB, hc0⟩ := hr.at_ (i := 0) (by omega)
  injection hA with hA
  injection hA with hA1 hA2
  subst hA1 hA2
  rw [hk, Nat.add_zero] at hc0
  have HL := Lib.hid (length11_any b o m cap ys _ _ (hr.below s1.bel) hm (by omega) hb hcap (by rw [hk]; rfl))
  have hLn : refLen ys = (m : Int) := by
    unfold refLen
    rw [hk, show lenRc ys = m from (len_6 ys hk).trans hlen.symm, hm, decide_eq_false (show ¬ m < 10 by omega)]
    rfl
  rw [hLn] at HL
  have hm1 : ((m : Int) == 0) = false := beq_false_of_ne (by omega)
  have hm2 : ¬ m = 0 := by omega
  have hm3 : ¬ (m : Int) < 0 := by omega
  have hm4 : ¬ (m : Int) < (m : Int) := by omega
  have hm5 : ¬ (m : Int) > (m : Int) := by omega
  have hc1 := (bel_alloc w (.cells #[.int .i64 0, .int .i64 0, .string ⟨#[]⟩, .int .i64 0, .int .i64 0] 23)).cell (p := ⟨b, o, none⟩) hbB
  rw [hc0] at hc1
  have hl1 := Nat.le_of_eq hlen
  have hl2 := Nat.le_of_eq hlen.symm
  have hs := ok.1
  simp only at hs
  clear hr hm hk hlen hLn hfm ok
  obtain ⟨c0, c1, c2, c3, c4⟩ := s1.r5
  unfold rcB at *
  go_enter Try.func16, Try.ntmps16
  go_wp2_with fail
  refine HL.out.mono ?_
  rintro e w' ⟨rfl, rfl⟩
  go_wp2_with fail
  clear c0 c1 c2 c3 c4 hc1 HL
  change RT _ _ _ _ ((w.alloc (.cells #[.int .i64 0, .int .i64 0, .string ⟨#[]⟩, .int .i64 0, .int .i64 0] 23)).alloc (.cells #[.int .i64 6, .int .i64 0, .string ⟨#[]⟩, .int .i64 0, .int .i64 0] 23)) at s1
  generalize (w.alloc (.cells #[.int .i64 0, .int .i64 0, .string ⟨#[]⟩, .int .i64 0, .int .i64 0] 23)).alloc (.cells #[.int .i64 6, .int .i64 0, .string ⟨#[]⟩, .int .i64 0, .int .i64 0] 23) = w1' at *
  generalize ha : w.heap.size + 1 = a at *
  refine (at_z (some ⟨b, o, none⟩) m cap 1 _ ys _ _ (HR.out.below s1.bel) HM.out hb hcap (by omega) (by rfl)).mono ?_
  rintro e w' ⟨rfl, rfl⟩
  obtain ⟨c0, c1, c2, c3, c4⟩ := s1.r5
  obtain ⟨f0, f1, f2, f3, f4⟩ := s1.f5
  have s2 := s1.put 1 (.int .i64 (n8 ys 1)) ⟨6, n8 ys 1, ⟨#[]⟩, 0, 0⟩ rfl
  have e0 := s2.r5.1
  have e1 : (w1'.setCell ⟨a, 1, none⟩ (.int .i64 (n8 ys 1))).cell? ⟨a, 0, none⟩ = some (.int .i64 6) := e0
  clear e0
  go_wp2_with fail
  refine (tagged_any 6 _).mono ?_
  rintro e w' ⟨rfl, rfl⟩
  rw [show tgK 6 = false from rfl]
  clear e1
  generalize w1'.setCell ⟨a, 1, none⟩ (.int .i64 (n8 ys 1)) = w2' at *
  clear c0 c1 c2 c3 c4 f0 f1 f2 f3 f4
  clear s1
  obtain ⟨c0, c1, c2, c3, c4⟩ := s2.r5
  obtain ⟨f0, f1, f2, f3, f4⟩ := s2.f5
  go_wp2_with fail
  refine (named_any 6 _).mono ?_
  rintro e w' ⟨rfl, rfl⟩
  rw [show idK 6 = true from rfl]
  clear c0 c1 c2 c3 c4 f0 f1 f2 f3 f4
  go_wp2_with fail
  refine (at_z (some ⟨b, o, none⟩) m cap 9 _ ys _ _ (HR.out.below s2.bel) HM.out hb hcap (by omega) (by rfl)).mono ?_
  rintro e w' ⟨rfl, rfl⟩
  obtain ⟨c0, c1, c2, c3, c4⟩ := s2.r5
  obtain ⟨f0, f1, f2, f3, f4⟩ := s2.f5
  have s3 := s2.put 4 (.int .i64 (n8 ys 9)) ⟨6, n8 ys 1, ⟨#[]⟩, 0, n8 ys 9⟩ rfl
  have e0 := s3.r5.1
  have e1 : (w2'.setCell ⟨a, 4, none⟩ (.int .i64 (n8 ys 9))).cell? ⟨a, 0, none⟩ = some (.int .i64 6) := e0
  clear e0
  go_wp2_with fail
  refine (valued_any 6 _).mono ?_
  rintro e w' ⟨rfl, rfl⟩
  rw [show vlK 6 = true from rfl]
  clear e1
  generalize w2'.setCell ⟨a, 4, none⟩ (.int .i64 (n8 ys 9)) = w3' at *
  clear c0 c1 c2 c3 c4 f0 f1 f2 f3 f4
  clear s2
  go_wp2_with fail
  refine (at_z (some ⟨b, o, none⟩) m cap 17 _ ys _ _ (HR.out.below s3.bel) HM.out hb hcap (by omega) (by rfl)).mono ?_
  rintro e w' ⟨rfl, rfl⟩
  obtain ⟨c0, c1, c2, c3, c4⟩ := s3.r5
  obtain ⟨f0, f1, f2, f3, f4⟩ := s3.f5
  have s4 := s3.put 3 (.int .i64 (n8 ys 17)) ⟨6, n8 ys 1, ⟨#[]⟩, n8 ys 17, n8 ys 9⟩ rfl
  obtain ⟨e0, e1, e2, e3, e4⟩ : (w3'.setCell ⟨a, 3, none⟩ (.int .i64 (n8 ys 17))).cell? ⟨a, 0, none⟩ = some (.int .i64 6) ∧ (w3'.setCell ⟨a, 3, none⟩ (.int .i64 (n8 ys 17))).cell? ⟨a, 1, none⟩ = some (.int .i64 (n8 ys 1)) ∧ (w3'.setCell ⟨a, 3, none⟩ (.int .i64 (n8 ys 17))).cell? ⟨a, 2, none⟩ = some (.string (⟨#[]⟩)) ∧ (w3'.setCell ⟨a, 3, none⟩ (.int .i64 (n8 ys 17))).cell? ⟨a, 3, none⟩ = some (.int .i64 (n8 ys 17)) ∧ (w3'.setCell ⟨a, 3, none⟩ (.int .i64 (n8 ys 17))).cell? ⟨a, 4, none⟩ = some (.int .i64 (n8 ys 9)) := s4.r5
  go_wp2_with fail
  clear e0 e1 e2 e3 e4
  clear c0 c1 c2 c3 c4 f0 f1 f2 f3 f4
  refine (refCheck11_any 6 (n8 ys 1) (⟨#[]⟩) (n8 ys 17) (n8 ys 9) _ hs).mono ?_
  rintro e wy ⟨rfl, hby⟩
  rw [HE.out]
  have sy := s4.below hby
  clear s4 hby
  obtain ⟨c0, c1, c2, c3, c4⟩ := sy.r5
  obtain ⟨⟨z0, z1, z2, z3, z4⟩, y0, y1, y2, y3, y4⟩ := sy.c5
  by_cases h0 : E = 0
  · subst h0
    have HV : Hid (X = .agg #[.int .i64 6, .int .i64 (n8 ys 1), .string (⟨#[]⟩), .int .i64 (n8 ys 17), .int .i64 (n8 ys 9)]) := Lib.hid (by rw [← HX.out]; rfl)
    have P5 := Lib.hid (sy.done (.int .i64 6) (.int .i64 (n8 ys 1)) (.string (⟨#[]⟩)) (.int .i64 (n8 ys 17)) (.int .i64 (n8 ys 9)))
    go_wp2
    (try simp only [Exit.inBlock, Exit.then])
    show bodyPost _ _ _ _ _ (put5 wy w.heap.size (.int .i64 6) (.int .i64 (n8 ys 1)) (.string (⟨#[]⟩)) (.int .i64 (n8 ys 17)) (.int .i64 (n8 ys 9)))
    generalize put5 wy w.heap.size (.int .i64 6) (.int .i64 (n8 ys 1)) (.string (⟨#[]⟩)) (.int .i64 (n8 ys 17)) (.int .i64 (n8 ys 9)) = wz at *
    obtain ⟨x0, x1, x2, x3, x4⟩ := cells5 P5.out.1
    refine bodyPost_ret (v := .tuple #[.agg #[.int .i64 6, .int .i64 (n8 ys 1), .string (⟨#[]⟩), .int .i64 (n8 ys 17), .int .i64 (n8 ys 9)], .int .i64 0]) (by simp [results, Try.results16, go_sem, x0, x1, x2, x3, x4]) rfl ?_
    exact ⟨by rw [HV.out], P5.out.2⟩
  · have hE2 : (E != 0) = true := by simp [h0]
    have HV : Hid (X = .agg #[.int .i64 0, .int .i64 0, .string ⟨#[]⟩, .int .i64 0, .int .i64 0]) := Lib.hid (by rw [← HX.out, if_neg h0])
    clear h0
    have P5 := Lib.hid (sy.done (.int .i64 0) (.int .i64 0) (.string ⟨#[]⟩) (.int .i64 0) (.int .i64 0))
    go_wp2
    (try simp only [Exit.inBlock, Exit.then])
    show bodyPost _ _ _ _ _ (put5 wy w.heap.size (.int .i64 0) (.int .i64 0) (.string ⟨#[]⟩) (.int .i64 0) (.int .i64 0))
    generalize put5 wy w.heap.size (.int .i64 0) (.int .i64 0) (.string ⟨#[]⟩) (.int .i64 0) (.int .i64 0) = wz at *
    obtain ⟨x0, x1, x2, x3, x4⟩ := cells5 P5.out.1
    refine bodyPost_ret (v := .tuple #[.agg #[.int .i64 0, .int .i64 0, .string ⟨#[]⟩, .int .i64 0, .int .i64 0], .int .i64 E]) (by simp [results, Try.results16, go_sem, x0, x1, x2, x3, x4]) rfl ?_
    exact ⟨by rw [HV.out], P5.out.2⟩
theorem refGet11_any (A : Option Addr) (m cap : Nat) (ys : List Int) (w : World) (hr : Row .u8 w w.heap.size A ys) (hm : ys.length = m) (hb : m ≤ 140737488355328) (hcap : m ≤ cap) :
    Calls Try.prog 16 #[.slice A m cap] w (GotRc w ys) := by
  by_cases h0 : m = 0
  · subst h0
    have hE : rcErr ys = 1 := by unfold rcErr; rw [if_pos hm]
    exact (refGet11_none A cap w).mono fun e w' h => got_err hE (by decide) h.1 h.2
  obtain ⟨b, o, rfl, hbB, _⟩ := hr.at_ (i := 0) (by omega)
  cases hk : betw (nth ys 0) 1 6
  · have hE : rcErr ys = 28 := by unfold rcErr; rw [if_neg (by omega), hk]; rfl
    by_cases h1 : nth ys 0 < 1
    · exact (refGet11_low b o m cap ys _ w hr hm (by omega) rfl h1).mono fun e w' h => got_err hE (by decide) h.1 h.2
    · exact (refGet11_high b o m cap ys _ w hr hm (by omega) rfl (by have := betw_no.1 hk; omega)).mono fun e w' h => got_err hE (by decide) h.1 h.2
  by_cases hl : m = lenRc ys
  · rcases kinds hk with e | e | e | e | e | e
    · exact refGet11_1 b o m cap ys w hr hm hb (hl.trans (len_1 ys e)) hcap e
    · exact refGet11_2 b o m cap ys w hr hm hb (hl.trans (len_2 ys e)) hcap e
    · exact refGet11_3 b o m cap ys w hr hm hb (hl.trans (len_3 ys e)) hcap e
    · exact refGet11_4 b o m cap ys w hr hm hb (hl.trans (len_4 ys e)) hcap e
    · exact refGet11_5 b o m cap ys w hr hm hb (hl.trans (len_5 ys e)) hcap e
    · exact refGet11_6 b o m cap ys w hr hm hb (hl.trans (len_6 ys e)) hcap e
  by_cases hs : m < lenRc ys
  · have hE : rcErr ys = 1 := by unfold rcErr; rw [if_neg (by omega), hk, hm, if_pos hs]; rfl
    by_cases h1 : refLen ys < 0
    · exact (refGet11_neg b o m cap ys _ _ w hr hm (by omega) hb hcap rfl hk rfl h1).mono fun e w' h => got_err hE (by decide) h.1 h.2
    · refine (refGet11_short b o m cap ys _ _ w hr hm (by omega) hb hcap rfl hk rfl h1 ?_).mono fun e w' h => got_err hE (by decide) h.1 h.2
      unfold refLen at h1 ⊢
      cases hq : (tgK (nth ys 0) && decide (ys.length < 10)) <;> rw [hq] at h1
      · simp only [cond_false]; omega
      · exact absurd (show (-1 : Int) < 0 by decide) h1
  · have hE : rcErr ys = 2 := by unfold rcErr; rw [if_neg (by omega), hk, hm, if_neg hs, if_pos (by omega)]; rfl
    have h2 : refLen ys = (lenRc ys : Int) := by
      unfold refLen
      cases hq : (tgK (nth ys 0) && decide (ys.length < 10))
      · rfl
      · simp only [Bool.and_eq_true, decide_eq_true_eq] at hq
        exfalso
        have : 10 ≤ lenRc ys := by
          unfold lenRc atVl atRc
          rw [hq.1]
          cases idK (nth ys 0) <;> cases vlK (nth ys 0) <;> simp <;> omega
        omega
    exact (refGet11_long b o m cap ys _ _ w hr hm (by omega) hb hcap rfl hk h2 (by omega) (by omega) (by omega)).mono fun e w' h => got_err hE (by decide) h.1 h.2
end Go.Proofs.Ytemjcgmoacnnfaa
