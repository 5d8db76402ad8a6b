/-
  The walk of SumsLaid.
-/
import Derived.Test.YtogjamcefiegaaaOpen2
import Derived.RegionTactic
import Derived.Deep.RegionWith
namespace Go.Proofs.Ytogjamcefiegaaa
open Go.RowKit
set_option linter.unusedVariables false

/-- The first k bytes of two rows, laid over one another. -/
def xl (xs ys : List Int) (k : Nat) : List Int := (List.range k).map fun i => bits .xor .u8 (nth xs i) (nth ys i)
theorem xl_length (xs ys : List Int) (k : Nat) : (xl xs ys k).length = k := by simp [xl]
theorem xl_succ (xs ys : List Int) (k : Nat) : xl xs ys (k + 1) = xl xs ys k ++ [bits .xor .u8 (nth xs k) (nth ys k)] := by simp [xl, List.range_succ]

theorem xl_toNat (xs ys : List Int) (k : Nat) (hx : (Lit.int .u8 (nth xs k)).wf = true) (hy : (Lit.int .u8 (nth ys k)).wf = true) : (bits .xor .u8 (nth xs k) (nth ys k)).toNat = (nth xs k).toNat ^^^ (nth ys k).toNat := by
  have h1 := wf_u8 hx
  have h2 := wf_u8 hy
  rw [u8_xor _ _ h1.1 h1.2 h2.1 h2.2, Int.toNat_natCast]
theorem xl_wf (xs ys : List Int) (k : Nat) (hx : ∀ x ∈ xs, (Lit.int .u8 x).wf = true) (hy : ∀ x ∈ ys, (Lit.int .u8 x).wf = true) (h1 : k ≤ xs.length) (h2 : k ≤ ys.length) : ∀ x ∈ xl xs ys k, (Lit.int .u8 x).wf = true := by
  intro x hm
  simp only [xl, List.mem_map, List.mem_range] at hm
  obtain ⟨i, hi, rfl⟩ := hm
  have g1 := wf_u8 (hx _ (nth_mem xs i (by omega)))
  have g2 := wf_u8 (hy _ (nth_mem ys i (by omega)))
  rw [u8_xor _ _ g1.1 g1.2 g2.1 g2.2]
  exact wf_byte _ (Nat.xor_lt_two_pow (n := 8) (by omega) (by omega))
theorem xor6 (a b c x y : Nat) : (a ^^^ x) ^^^ (b ^^^ y) ^^^ (c ^^^ (x ^^^ y)) = (a ^^^ b ^^^ c) ^^^ 0 := by
  apply Nat.eq_of_testBit_eq
  intro i
  simp only [Nat.testBit_xor, Nat.zero_testBit]
  cases a.testBit i <;> cases b.testBit i <;> cases c.testBit i <;> cases x.testBit i <;> cases y.testBit i <;> rfl
theorem laid_over (p a b c : Nat) (xs ys : List Int) (hx : ∀ x ∈ xs, (Lit.int .u8 x).wf = true) (hy : ∀ x ∈ ys, (Lit.int .u8 x).wf = true) (k : Nat) (h1 : k ≤ xs.length) (h2 : k ≤ ys.length) :
    tkAll p a (xs.take k) ^^^ tkAll p b (ys.take k) ^^^ tkAll p c (xl xs ys k) = tkAll p (a ^^^ b ^^^ c) (List.replicate k 0) := by
  induction k with
  | zero => simp [tkAll, xl]
  | succ k ih =>
    rw [take_step xs k (by omega), take_step ys k (by omega), xl_succ, List.replicate_succ', tkAll_snoc, tkAll_snoc, tkAll_snoc, tkAll_snoc, xl_toNat xs ys k (hx _ (nth_mem xs k (by omega))) (hy _ (nth_mem ys k (by omega))), ← ih (by omega) (by omega)]
    unfold tk
    rw [← dnN_xor, ← dnN_xor, xor6]
    rfl
theorem laid_16 (xs ys : List Int) (hx : ∀ x ∈ xs, (Lit.int .u8 x).wf = true) (hy : ∀ x ∈ ys, (Lit.int .u8 x).wf = true) (k : Nat) (h1 : k ≤ xs.length) (h2 : k ≤ ys.length) :
    (bits .xor .u16 (bits .xor .u16 (tkAll 40961 65535 (xs.take k) : Nat) (tkAll 40961 65535 (ys.take k) : Nat)) (tkAll 40961 65535 (xl xs ys k) : Nat) == ((tkAll 40961 65535 (List.replicate k 0) : Nat) : Int)) = true := by
  have b1 : tkAll 40961 65535 (xs.take k) < 65536 := tkAll_lt (b := 16) (by decide) (by decide) (by decide) _ (toNat_u8 fun x h => hx x (List.mem_of_mem_take h))
  have b2 : tkAll 40961 65535 (ys.take k) < 65536 := tkAll_lt (b := 16) (by decide) (by decide) (by decide) _ (toNat_u8 fun x h => hy x (List.mem_of_mem_take h))
  have b3 : tkAll 40961 65535 (xl xs ys k) < 65536 := tkAll_lt (b := 16) (by decide) (by decide) (by decide) _ (toNat_u8 (xl_wf xs ys k hx hy h1 h2))
  rw [xor_16 _ _ b1 b2, xor_16 _ _ (Nat.xor_lt_two_pow (n := 16) b1 b2) b3, laid_over 40961 65535 65535 65535 xs ys hx hy k h1 h2]
  simp
theorem xor4 (a b c f : Nat) : (f ^^^ a) ^^^ (f ^^^ b) ^^^ (f ^^^ c) = f ^^^ (a ^^^ b ^^^ c) := by
  apply Nat.eq_of_testBit_eq
  intro i
  simp only [Nat.testBit_xor]
  cases a.testBit i <;> cases b.testBit i <;> cases c.testBit i <;> cases f.testBit i <;> rfl
theorem laid_32 (xs ys : List Int) (hx : ∀ x ∈ xs, (Lit.int .u8 x).wf = true) (hy : ∀ x ∈ ys, (Lit.int .u8 x).wf = true) (k : Nat) (h1 : k ≤ xs.length) (h2 : k ≤ ys.length) :
    (bits .xor .u32 (bits .xor .u32 (more32 0 (xs.take k) : Nat) (more32 0 (ys.take k) : Nat)) (more32 0 (xl xs ys k) : Nat) == ((more32 0 (List.replicate k 0) : Nat) : Int)) = true := by
  have b1 : more32 0 (xs.take k) < 4294967296 := more32_lt 0 _ (by decide) (fun x h => hx x (List.mem_of_mem_take h))
  have b2 : more32 0 (ys.take k) < 4294967296 := more32_lt 0 _ (by decide) (fun x h => hy x (List.mem_of_mem_take h))
  have b3 : more32 0 (xl xs ys k) < 4294967296 := more32_lt 0 _ (by decide) (xl_wf xs ys k hx hy h1 h2)
  rw [xor_32 _ _ b1 b2, xor_32 _ _ (Nat.xor_lt_two_pow (n := 32) b1 b2) b3]
  unfold more32
  rw [xor4, laid_over 3988292384 _ _ _ xs ys hx hy k h1 h2]
  simp
/-- A callee that leaves the world as it was, inside a region that draws. -/
theorem still_call {P : Program} {f : FuncId} {args : Array Value} {w : World} {n : Nat} {v : Value} (h : Calls P f args (w.drewN n) fun e w' => e = .returned v ∧ w.drewN n = w') :
    Calls P f args (w.drewN n) fun e w' => e = .returned v ∧ ∃ m, w' = w.drewN m :=
  Calls.quiet_of_same (h.mono fun _ _ hh => ⟨hh.1, hh.2.symm⟩)
theorem alloc_set (w : World) (t : TypeId) (L : List Int) (m i : Nat) (v : Int) : ((w.alloc (.cells (blk .u8 L) t)).drewN m).setCell ⟨w.heap.size, i, none⟩ (.int .u8 v) = (w.alloc (.cells (blk .u8 (L.set i v)) t)).drewN m := by
  show ((w.alloc (.cells (blk .u8 L) t)).setCell ⟨w.heap.size, i, none⟩ (.int .u8 v)).drewN m = _
  rw [World.setCell_alloc_at _ _ _ _ _ rfl, blk_set]

set_option maxHeartbeats 1000000 in
theorem walk_SumsLaid (a0 : Option Addr) (l0 c0 : Nat) (x0 : List Int) (a1 : Option Addr) (l1 c1 : Nat) (x1 : List Int) (w : World)
    (w0 : Row .u8 w w.heap.size a0 x0) (n0 : x0.length = l0) (s0 : l0 ≤ c0) (m0 : c0 ≤ 140737488351232)
    (w1 : Row .u8 w w.heap.size a1 x1) (n1 : x1.length = l1) (s1 : l1 ≤ c1) (m1 : c1 ≤ 140737488351232) :
    Calls Try.prog 7 #[.slice a0 l0 c0, .slice a1 l1 c1] w fun e w' => e = .returned (.bool true) ∧ Below w.heap.size w w' := by
  have hn0 := Lib.hid n0
  have hn1 := Lib.hid n1
  clear n0 n1
  obtain ⟨n, hmin, hna, hnb, hnc⟩ : ∃ n : Nat, (∀ (ts : Array TypeId) (t : TypeId) (W : World), (Builtin.min_ ts t #[.int .i64 (l0 : Int), .int .i64 (l1 : Int), .int .i64 65536]).run Try.prog W = .ok (.int .i64 (n : Int)) W) ∧ n ≤ l0 ∧ n ≤ l1 ∧ n ≤ 65536 := by
    refine ⟨min (min l0 l1) 65536, fun ts t W => ?_, by omega, by omega, by omega⟩
    rw [run_min_int3]
    congr 2
    split <;> split <;> omega
  have hmk := make_u8 n (by omega)
  go_enter Try.func7, Try.ntmps7
  go_wp2
  clear hmin
  go_loopw [7] (fun i wr => ∃ (k nq : Nat) (L : List Int), k ≤ n ∧ i = .int .i64 k ∧ Hid (L = xl x0 x1 k ++ List.replicate (n - k) 0) ∧ wr = (w.alloc (.cells (blk .u8 L) 5)).drewN nq) (fun i _ => n - (intOf i).toNat)
  case atStart => exact ⟨0, 0, List.replicate n 0, by omega, rfl, Lib.hid (by simp [xl]), rfl⟩
  case round =>
    obtain ⟨k, nr, L, hk, rfl, hL, rfl⟩ := hrel
    by_cases hlt : k < n
    · obtain ⟨b, o, rfl, hb1, hc1⟩ := w0.at_ (i := k) (by have := hn0.out; omega)
      obtain ⟨b', o', rfl, hb1', hc1'⟩ := w1.at_ (i := k) (by have := hn1.out; omega)
      have hc2 := fill_cell .u8 (xl x0 x1 k) (n - k) k 0 (xl_length _ _ _) (by omega)
      rw [← hL.out] at hc2
      have HS := Lib.hid (set_step (xl x0 x1 k) (n - (k + 1)) k 0 (bits .xor .u8 (nth x0 k) (nth x1 k)) (xl_length _ _ _))
      have i1 : (k : Int) < (l0 : Int) := by omega
      have i2 : (k : Int) < (l1 : Int) := by omega
      have i3 : (k : Int) < (n : Int) := by omega
      go_wp2
      go_region
      go_wp2
      go_roundw
      case rel => exact ⟨k + 1, nr + 1, _, by omega, by go_num, Lib.hid (by rw [hL.out, show n - k = (n - (k + 1)) + 1 by omega, HS.out, ← xl_succ]), alloc_set _ _ _ _ _ _⟩
      case measure => simp [intOf]; omega
    · obtain rfl : k = n := by omega
      have hL2 : L = xl x0 x1 k := by rw [hL.out, Nat.sub_self]; simp
      subst hL2
      have f16 := laid_16 x0 x1 w0.1 w1.1 k (by have := hn0.out; omega) (by have := hn1.out; omega)
      have f32 := laid_32 x0 x1 w0.1 w1.1 k (by have := hn0.out; omega) (by have := hn1.out; omega)
      have t0 : Hid ((x0.take k).length = k) := by show _ = _; have := hn0.out; simp; omega
      have t1 : Hid ((x1.take k).length = k) := by show _ = _; have := hn1.out; simp; omega
      have t2 := Lib.hid (xl_length x0 x1 k)
      have t3 : Hid ((List.replicate k (0 : Int)).length = k) := Lib.hid (by simp)
      have wfx := xl_wf x0 x1 k w0.1 w1.1 (by have := hn0.out; omega) (by have := hn1.out; omega)
      have r0 := w0.take k
      have r1 := w1.take k
      have bel1 : Below w.heap.size w ((w.alloc (.cells (blk .u8 (xl x0 x1 k)) 5)).drewN nr) := ⟨rfl, rfl, rfl, by simp, fun q hq => Below.heap_alloc w _ q hq⟩
      have r2 : Row .u8 ((w.alloc (.cells (blk .u8 (xl x0 x1 k)) 5)).drewN nr) (w.heap.size + 1) (some ⟨w.heap.size, 0, none⟩) (xl x0 x1 k) := Row.new .u8 w _ _ _ wfx (List.prefix_refl _)
      have hsz : ((w.alloc (.cells (blk .u8 (xl x0 x1 k)) 5)).drewN nr).heap.size = w.heap.size + 1 := by simp
      have HSZ := Lib.hid hsz
      clear hsz hlt hk hL wfx
      generalize (w.alloc (.cells (blk .u8 (xl x0 x1 k)) 5)).drewN nr = W1 at *
      have bel2 : Below w.heap.size w (W1.alloc (.cells (blk .u8 (List.replicate k 0)) 5)) := bel1.alloc bel1.size _
      have r3 : Row .u8 (W1.alloc (.cells (blk .u8 (List.replicate k 0)) 5)) (W1.heap.size + 1) (some ⟨W1.heap.size, 0, none⟩) (List.replicate k 0) := Row.new .u8 W1 _ _ _ (by intro x hx; rw [List.eq_of_mem_replicate hx]; decide) (List.prefix_refl _)
      have r2' := r2.alloc (by have := HSZ.out; omega) (.cells (blk .u8 (List.replicate k 0)) 5)
      have r0' := r0.below bel2
      have r1' := r1.below bel2
      go_wp2
      generalize hW2 : W1.alloc (.cells (blk .u8 (List.replicate k 0)) 5) = W2 at *
      clear hW2
      generalize List.replicate k (0 : Int) = zs at *
      go_quiet (first
        | (go_at_call_of 10 a0; exact still_call (crc_16 _ _ _ _ _ _ (r0'.drewN _) t0.out (by omega)))
        | (go_at_call_of 10 a1; exact still_call (crc_16 _ _ _ _ _ _ (r1'.drewN _) t1.out (by omega)))
        | (go_at_call_of 10 w.heap.size; exact still_call (crc_16 _ _ _ _ _ _ (r2'.drewN _) t2.out (by omega)))
        | (go_at_call_of 10 W1.heap.size; exact still_call (crc_16 _ _ _ _ _ _ (r3.drewN _) t3.out (by omega))))
      have bel3 : Below w.heap.size w (W2.drewN nq) := ⟨bel2.os, bel2.tape, bel2.output, bel2.size, bel2.block⟩
      have q0 := r0'.drewN nq
      have q1 := r1'.drewN nq
      have q2 := r2'.drewN nq
      have q3 := r3.drewN nq
      clear r0 r1 r2 r3 r0' r1' r2' bel1 bel2 f16
      generalize W2.drewN nq = W3 at *
      go_wp2
      go_quiet (first
        | (go_at_call_of 14 a0; exact still_call (crc_32 _ _ _ _ _ _ (q0.drewN _) t0.out (by omega)))
        | (go_at_call_of 14 a1; exact still_call (crc_32 _ _ _ _ _ _ (q1.drewN _) t1.out (by omega)))
        | (go_at_call_of 14 w.heap.size; exact still_call (crc_32 _ _ _ _ _ _ (q2.drewN _) t2.out (by omega)))
        | (go_at_call_of 14 W1.heap.size; exact still_call (crc_32 _ _ _ _ _ _ (q3.drewN _) t3.out (by omega))))
      have bel4 : Below w.heap.size w (W3.drewN nq) := ⟨bel3.os, bel3.tape, bel3.output, bel3.size, bel3.block⟩
      clear q0 q1 q2 q3 f32
      generalize W3.drewN nq = W4 at *
      go_wp2_with (go_at_call 29; refine (known_yes _).mono ?_; rintro e w' ⟨rfl, hb⟩)
      go_ret
      exact ⟨rfl, bel4.trans (hb.mono bel4.size)⟩
end Go.Proofs.Ytogjamcefiegaaa
