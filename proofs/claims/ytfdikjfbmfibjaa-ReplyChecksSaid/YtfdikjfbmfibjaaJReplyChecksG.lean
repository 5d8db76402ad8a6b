/-
  The statement ReplyChecks of outstationlaw04 holds: for every input that can be read, the call returns true, and each argument reads as it did. No condition of its own.
-/
import Derived.Test.YtfdikjfbmfibjaaJReplyChecksF
import Derived.Test.YtfdikjfbmfibjaaJReplyChecksE
import Derived.Test.YtfdikjfbmfibjaaRows
namespace Go.Proofs.Ytfdikjfbmfibjaa
open Go.RowKit
set_option linter.unusedVariables false

set_option maxHeartbeats 2000000 in
set_option maxRecDepth 100000 in
theorem rpAnswer_words (q : Req) (n : Nat) (Ao As Ap : Option Addr) (lo co ls cs lp cp : Nat) (b o m cap : Nat) (ys : List Int) (w : World) (hc : q.c = 3 ∨ q.c = 4) (hr : Row .u8 w w.heap.size (some ⟨b, o, none⟩) ys) (hy : ys.length = m) (hm : m = 2 + 2 * n) (hn : 1 ≤ n ∧ n ≤ 125) (hcap : m ≤ cap) (hcb : cap ≤ 9223372036854775807) (h1 : nth ys 1 = 2 * (n : Int)) :
    Calls Try.prog 61 #[.agg #[.int .i64 q.c, .int .i64 q.a, .int .i64 n, .slice Ao lo co, .slice As ls cs, .slice Ap lp cp], .slice (some ⟨b, o, none⟩) m cap] w fun e w' => ∃ g, w.heap.size ≤ g ∧ e = .returned (.tuple #[.agg #[.int .i64 0, .slice none 0 0, .slice (some ⟨g, 0, none⟩) n n, .slice none 0 0], .int .i64 0]) ∧ w'.heap[g]? = some (.cells (blk .u16 (wwords (ys.drop 2))) 90 (0, 0)) ∧ Below w.heap.size w w' := by
  have HR := Lib.hid hr
  have t0 := TB.new2 w #[.int .i64 q.c, .int .i64 q.a, .int .i64 n, .slice Ao lo co, .slice As ls cs, .slice Ap lp cp] #[.int .i64 0, .slice none 0 0, .slice none 0 0, .slice none 0 0] 26 29
  have HM := Lib.hid hm
  have HC := Lib.hid hc
  have HY := Lib.hid hy
  have H1 := Lib.hid h1
  have HS : Hid (∀ W, Calls Try.prog 93 #[.slice (some ⟨b, o, none⟩) m cap, .int .i64 ((2 + 2 * n : Nat) : Int)] W fun e w' => e = .returned (.int .i64 0) ∧ w' = W) := Lib.hid (fun W => (checkSize_any (some ⟨b, o, none⟩) m cap ((2 + 2 * n : Nat) : Int) W).mono fun e w' h => ⟨h.1.trans (by rw [if_neg (by omega), if_neg (by omega)]), h.2⟩)
  clear hr hm hc hy h1
  go_enter Try.func61, Try.ntmps61
  go_wp2_with fail
  refine (rpSize_words q.c q.a n Ao As Ap lo co ls cs lp cp _ HC.out (by omega)).mono ?_
  rintro e w1 ⟨rfl, b1⟩
  have t1 := t0.below b1
  clear t0 b1
  obtain ⟨d0, d1, d2, d3, d4⟩ := t1.c4
  obtain ⟨r0, r1, r2, r3, r4, r5, r6⟩ := t1.r6
  go_wp2_with fail
  refine (HS.out _).mono ?_
  rintro e w1' ⟨rfl, hw1⟩
  rw [hw1]
  clear hw1
  go_wp2_with fail
  clear d0 d1 d2 d3 d4 r0 r1 r2 r3 r4 r5 r6
  refine (rpRead_words q.c q.a n Ao As Ap lo co ls cs lp cp b o m cap ys _ HC.out ((HR.out.tb t1).more (Nat.le_of_lt (Nat.lt_of_succ_lt t1.lt))) HY.out HM.out hn hcap hcb H1.out).mono ?_
  rintro e w2 ⟨g, hg, rfl, hb, b2⟩
  have t2 := t1.below b2
  have hz1 := t1.lt
  have t3 := t2.alloc (.cells #[.int .i64 0, .slice none 0 0, .slice (some ⟨g, 0, none⟩) n n, .slice none 0 0] 29)
  have hb3 := Lib.hid ((heap_alloc_old w2 (.cells #[.int .i64 0, .slice none 0 0, .slice (some ⟨g, 0, none⟩) n n, .slice none 0 0] 29) (block_lt hb)).trans hb)
  have hx3 := heap_alloc_new w2 (.cells #[.int .i64 0, .slice none 0 0, .slice (some ⟨g, 0, none⟩) n n, .slice none 0 0] 29)
  clear t1 b2 t2 hb
  have P5 := Lib.hid (t3.put4 (.int .i64 0) (.slice none 0 0) (.slice (some ⟨g, 0, none⟩) n n) (.slice none 0 0))
  have P6 := Lib.hid ((put4_other (w := w2.alloc (.cells #[.int .i64 0, .slice none 0 0, .slice (some ⟨g, 0, none⟩) n n, .slice none 0 0] 29)) (g := w.heap.size + 1) (j := g) (by omega) (.int .i64 0) (.slice none 0 0) (.slice (some ⟨g, 0, none⟩) n n) (.slice none 0 0)).trans hb3.out)
  obtain ⟨y0, y1, y2, y3⟩ := cells4 hx3
  obtain ⟨d0, d1, d2, d3, d4⟩ := t3.c4
  clear hx3
  go_wp2
  (try simp only [Exit.inBlock, Exit.then])
  show bodyPost _ _ _ _ _ (put4 (w2.alloc (.cells #[.int .i64 0, .slice none 0 0, .slice (some ⟨g, 0, none⟩) n n, .slice none 0 0] 29)) (w.heap.size + 1) (.int .i64 0) (.slice none 0 0) (.slice (some ⟨g, 0, none⟩) n n) (.slice none 0 0))
  generalize put4 (w2.alloc (.cells #[.int .i64 0, .slice none 0 0, .slice (some ⟨g, 0, none⟩) n n, .slice none 0 0] 29)) (w.heap.size + 1) (.int .i64 0) (.slice none 0 0) (.slice (some ⟨g, 0, none⟩) n n) (.slice none 0 0) = w6 at *
  obtain ⟨x0, x1, x2, x3⟩ := cells4 P5.out.1
  refine bodyPost_ret (v := .tuple #[.agg #[.int .i64 0, .slice none 0 0, .slice (some ⟨g, 0, none⟩) n n, .slice none 0 0], .int .i64 0]) (by simp [results, Try.results61, go_sem, x0, x1, x2, x3]) rfl ?_
  exact ⟨g, by omega, rfl, P6.out, P5.out.2⟩

set_option maxHeartbeats 2000000 in
set_option maxRecDepth 100000 in
theorem rpGet_words (q : Req) (n : Nat) (hqn : q.n = n) (Ao As Ap : Option Addr) (lo co ls cs lp cp : Nat) (b o m cap : Nat) (ys : List Int) (w : World) (h : Asked w w.heap.size q Ao As Ap lo ls lp) (hk : chkQ q = 0) (hc : q.c = 3 ∨ q.c = 4) (hr : Row .u8 w w.heap.size (some ⟨b, o, none⟩) ys) (hy : ys.length = m) (hm : m = 2 + 2 * n) (hn : 1 ≤ n ∧ n ≤ 125) (hcap : m ≤ cap) (hcb : cap ≤ 9223372036854775807) (h1 : nth ys 1 = 2 * (n : Int)) (h0 : nth ys 0 = q.c) :
    Calls Try.prog 24 #[.agg #[.int .i64 q.c, .int .i64 q.a, .int .i64 n, .slice Ao lo co, .slice As ls cs, .slice Ap lp cp], .slice (some ⟨b, o, none⟩) m cap] w fun e w' => ∃ g, w.heap.size ≤ g ∧ e = .returned (.tuple #[.agg #[.int .i64 0, .slice none 0 0, .slice (some ⟨g, 0, none⟩) n n, .slice none 0 0], .int .i64 0]) ∧ w'.heap[g]? = some (.cells (blk .u16 (wwords (ys.drop 2))) 90 (0, 0)) ∧ Below w.heap.size w w' := by
  have HR := Lib.hid hr
  have t0 := TB.new2 w #[.int .i64 q.c, .int .i64 q.a, .int .i64 n, .slice Ao lo co, .slice As ls cs, .slice Ap lp cp] #[.int .i64 0, .slice none 0 0, .slice none 0 0, .slice none 0 0] 26 29
  have hsz : w.heap.size ≤ ((w.alloc (.cells #[.int .i64 q.c, .int .i64 q.a, .int .i64 n, .slice Ao lo co, .slice As ls cs, .slice Ap lp cp] 26)).alloc (.cells #[.int .i64 0, .slice none 0 0, .slice none 0 0, .slice none 0 0] 29)).heap.size := t0.bel.size
  have HC := Lib.hid (Check_Q q Ao As Ap lo ls lp co cs cp _ ((h.below t0.bel).more hsz))
  rw [hk, hqn] at HC
  have HM := Lib.hid hm
  have HCC := Lib.hid hc
  have HY := Lib.hid hy
  have H1 := Lib.hid h1
  obtain ⟨b', o', hA, hbB, hcell⟩ := hr.at_ (i := 0) (by omega)
  injection hA with hA
  injection hA with hA1 hA2
  subst hA1 hA2
  rw [h0, Nat.add_zero] at hcell
  have e0 : IntKind.i64.wrap (q.c + 128) = q.c + 128 := IntWalk.i64_in _ (by omega)
  have e1 : IntKind.i64.wrap q.c = q.c := IntWalk.i64_in _ (by omega)
  have e2 : (q.c == q.c + 128) = false := beq_false_of_ne (by omega)
  have e3 : (q.c == q.c) = true := by simp
  have tm : ((m : Int) == 0) = false := beq_false_of_ne (by omega)
  have tm2 : (0 : Int) < (m : Int) := by omega
  have tm3 : 0 < m := by omega
  clear h hr hm hc hy h1 h0 hk hqn
  go_enter Try.func24, Try.ntmps24
  go_wp2_with fail
  refine HC.out.mono ?_
  rintro e w1 ⟨rfl, b1⟩
  have t1 := t0.below b1
  clear t0 b1 HC hsz
  have hc1 : w1.cell? ⟨b, o, none⟩ = some (.int .u8 q.c) := (t1.bel.cell (p := ⟨b, o, none⟩) hbB).trans hcell
  obtain ⟨d0, d1, d2, d3, d4⟩ := t1.c4
  obtain ⟨r0, r1, r2, r3, r4, r5, r6⟩ := t1.r6
  go_wp2_with fail
  clear d0 d1 d2 d3 d4 r0 r1 r2 r3 r4 r5 r6 hc1
  refine (rpAnswer_words q n Ao As Ap lo co ls cs lp cp b o m cap ys _ HCC.out ((HR.out.tb t1).more (Nat.le_of_lt (Nat.lt_of_succ_lt t1.lt))) HY.out HM.out hn hcap hcb H1.out).mono ?_
  rintro e w3 ⟨g, hg, rfl, hb, b2⟩
  have t3 := t1.below b2
  have hz1 := t1.lt
  have hb3 := Lib.hid hb
  clear t1 b2 hb
  have P5 := Lib.hid (t3.put4 (.int .i64 0) (.slice none 0 0) (.slice (some ⟨g, 0, none⟩) n n) (.slice none 0 0))
  have P6 := Lib.hid ((put4_other (w := w3) (g := w.heap.size + 1) (j := g) (by omega) (.int .i64 0) (.slice none 0 0) (.slice (some ⟨g, 0, none⟩) n n) (.slice none 0 0)).trans hb3.out)
  obtain ⟨d0, d1, d2, d3, d4⟩ := t3.c4
  go_wp2
  (try simp only [Exit.inBlock, Exit.then])
  show bodyPost _ _ _ _ _ (put4 (w3) (w.heap.size + 1) (.int .i64 0) (.slice none 0 0) (.slice (some ⟨g, 0, none⟩) n n) (.slice none 0 0))
  generalize put4 (w3) (w.heap.size + 1) (.int .i64 0) (.slice none 0 0) (.slice (some ⟨g, 0, none⟩) n n) (.slice none 0 0) = w6 at *
  obtain ⟨x0, x1, x2, x3⟩ := cells4 P5.out.1
  refine bodyPost_ret (v := .tuple #[.agg #[.int .i64 0, .slice none 0 0, .slice (some ⟨g, 0, none⟩) n n, .slice none 0 0], .int .i64 0]) (by simp [results, Try.results24, go_sem, x0, x1, x2, x3]) rfl ?_
  exact ⟨g, by omega, rfl, P6.out, P5.out.2⟩
end Go.Proofs.Ytfdikjfbmfibjaa
namespace Go.Proofs.Ytfdikjfbmfibjaa
open Go.RowKit
set_option linter.unusedVariables false

def exA : Req := ⟨3, 0, 2, [], [], []⟩
def exR : Rep := ⟨0, [], [1, 512], []⟩
theorem exA_chk : chkQ exA = 0 := by decide
theorem exR_chk : chkR exA exR = 0 := by decide

set_option maxHeartbeats 1000000 in
set_option maxRecDepth 100000 in
theorem two_any (w : World) : Calls Try.prog 42 #[] w fun e w' => ∃ g, w.heap.size ≤ g ∧ e = .returned (.tuple #[.agg #[.int .i64 3, .int .i64 0, .int .i64 2, .slice none 0 0, .slice none 0 0, .slice none 0 0], .agg #[.int .i64 0, .slice none 0 0, .slice (some ⟨g, 0, none⟩) 2 2, .slice none 0 0]]) ∧
    w'.heap[g]? = some (.cells (blk .u16 [1, 512]) 90 (0, 0)) ∧ Below w.heap.size w w' := by
  go_enter Try.func42, Try.ntmps42
  go_wp2
  (try simp only [Exit.inBlock, Exit.then])
  refine bodyPost_ret (v := .tuple #[.agg #[.int .i64 3, .int .i64 0, .int .i64 2, .slice none 0 0, .slice none 0 0, .slice none 0 0], .agg #[.int .i64 0, .slice none 0 0, .slice (some ⟨w.heap.size + 1 + 1, 0, none⟩) 2 2, .slice none 0 0]]) (by simp [results, Try.results42, go_sem]) rfl ?_
  exact ⟨w.heap.size + 1 + 1, by omega, rfl, heap_new_at _ _ (by simp), ((bel_alloc w _).alloc (by simp) _).alloc (by simp; omega) _⟩

set_option maxHeartbeats 1000000 in
/-- SameFiles, of two lists of none. -/
theorem SameFiles_nil (A A' : Option Addr) (c c' : Nat) (w : World) : Calls Try.prog 57 #[.slice A 0 c, .slice A' 0 c'] w fun e w' => e = .returned (.bool true) ∧ w' = w := by
  go_enter Try.func57, Try.ntmps57
  go_wp2
  go_loopw [5] (fun i wr => i = .int .i64 0 ∧ wr = w) (fun _ _ => 0)
  case atStart => exact ⟨rfl, rfl⟩
  case round =>
    obtain ⟨rfl, rfl⟩ := hrel
    go_wp2
    go_ret
    exact ⟨rfl, rfl⟩

set_option maxHeartbeats 1000000 in
set_option maxRecDepth 100000 in
/-- SameReply, of two answers that are the same and have no files. -/
theorem SameReply_flat (x : Int) (on : List Bool) (set : List Int) (Bo Bs Bf Bo' Bs' Bf' : Option Addr) (mo ms eo es ef eo' es' ef' : Nat) (w : World) (h1 : L.Row () w w.heap.size Bo on) (h2 : Row .u16 w w.heap.size Bs set) (h1' : L.Row () w w.heap.size Bo' on) (h2' : Row .u16 w w.heap.size Bs' set) (l1 : on.length = mo) (l2 : set.length = ms) (c1 : mo ≤ 1000000) (c2 : ms ≤ 1000000) :
    Calls Try.prog 20 #[.agg #[.int .i64 x, .slice Bo mo eo, .slice Bs ms es, .slice Bf 0 ef], .agg #[.int .i64 x, .slice Bo' mo eo', .slice Bs' ms es', .slice Bf' 0 ef']] w fun e w' => e = .returned (.bool true) ∧ Below w.heap.size w w' := by
  have t0 := TB.new2 w #[.int .i64 x, .slice Bo mo eo, .slice Bs ms es, .slice Bf 0 ef] #[.int .i64 x, .slice Bo' mo eo', .slice Bs' ms es', .slice Bf' 0 ef'] 29 29
  have bel := t0.bel
  have H1 := Lib.hid (h1.below bel)
  have H2 := Lib.hid (h2.below bel)
  have H1' := Lib.hid (h1'.below bel)
  have H2' := Lib.hid (h2'.below bel)
  have L1 := Lib.hid l1
  have L2 := Lib.hid l2
  have ex : (x == x) = true := by simp
  clear h1 h2 h1' h2' l1 l2 t0
  go_enter Try.func20, Try.ntmps20
  go_wp2_with fail
  refine (L.same_yes_bool _ _ _ _ _ on _ _ _ H1.out H1'.out L1.out (by omega)).mono ?_
  rintro e w' ⟨rfl, m1, rfl⟩
  go_wp2_with fail
  refine (W.same_yes_u16 _ _ _ _ _ set _ _ _ (H2.out.drewN m1) (H2'.out.drewN m1) L2.out (by omega)).mono ?_
  rintro e w' ⟨rfl, m2, rfl⟩
  rw [World.drewN_drewN]
  go_wp2_with fail
  refine (SameFiles_nil _ _ _ _ _).mono ?_
  rintro e w' ⟨rfl, rfl⟩
  go_wp2
  go_ret
  exact ⟨rfl, below_drewN bel _⟩

abbrev exAO : Obj := .cells #[.int .i64 3, .int .i64 0, .int .i64 2, .slice none 0 0, .slice none 0 0, .slice none 0 0] 26 (0, 0)
set_option maxHeartbeats 2000000 in
set_option maxRecDepth 100000 in
theorem works_yes (w : World) : Calls Try.prog 13 #[] w fun e w' => e = .returned (.bool true) ∧ Below w.heap.size w w' := by
  go_enter Try.func13, Try.ntmps13
  go_wp2_with fail
  refine (two_any _).mono ?_
  rintro e w1 ⟨g, hg, rfl, hb, b1⟩
  have t0 := TB.new2 w1 #[.int .i64 3, .int .i64 0, .int .i64 2, .slice none 0 0, .slice none 0 0, .slice none 0 0] #[.int .i64 0, .slice none 0 0, .slice (some ⟨g, 0, none⟩) 2 2, .slice none 0 0] 26 29
  have hgl := block_lt hb
  have hb0 := Lib.hid ((t0.bel.block g hgl).trans hb)
  have hsz0 : w1.heap.size ≤ ((w1.alloc (.cells #[.int .i64 3, .int .i64 0, .int .i64 2, .slice none 0 0, .slice none 0 0, .slice none 0 0] 26)).alloc (.cells #[.int .i64 0, .slice none 0 0, .slice (some ⟨g, 0, none⟩) 2 2, .slice none 0 0] 29)).heap.size := t0.bel.size
  have hwf : ∀ x ∈ [(1 : Int), 512], (Lit.int .u16 x).wf = true := by decide
  have HP := Lib.hid (rpPut_words exA exR none none none none (some ⟨g, 0, none⟩) none 0 0 0 0 0 0 0 2 0 0 2 0 _ (Asked.of_nil ((w1.alloc (.cells #[.int .i64 3, .int .i64 0, .int .i64 2, .slice none 0 0, .slice none 0 0, .slice none 0 0] 26)).alloc (.cells #[.int .i64 0, .slice none 0 0, .slice (some ⟨g, 0, none⟩) 2 2, .slice none 0 0] 29)) _ _ _ _) ⟨L.Row.nil _ _ _ _, (Row.of_block hb0.out [1, 512] hwf (List.prefix_refl _)).more (by omega), FRow.nil _ _ _, rfl, rfl, rfl⟩ (by omega) exR_chk rfl (.inl rfl) (by omega))
  go_wp2_with fail
  refine HP.out.mono ?_
  rintro e w2 ⟨v2, rfl, own2, b2⟩
  have eL : exA.c :: 2 * ((2 : Nat) : Int) :: wbytes exR.set = [3, 4, 0, 1, 2, 0] := by decide
  rw [eL] at own2
  have hwL : ∀ x ∈ [(3 : Int), 4, 0, 1, 2, 0], (Lit.int .u8 x).wf = true := by decide
  obtain ⟨A2, c2, rfl, row2, hle, hmx⟩ := own2.row hwL
  obtain ⟨b, o, rfl, hb2, _⟩ := row2.at_ (i := 0) (by simp)
  have t2 := t0.below b2
  have hz2 := t2.lt
  have hb02 := Lib.hid ((b2.block g (by omega)).trans hb0.out)
  have R2 := Lib.hid row2
  have hle' : 6 ≤ c2 := hle
  have hmx' : c2 ≤ 9223372036854775807 := by simpa [maxLen] using hmx
  have HG := Lib.hid (rpGet_words exA 2 rfl none none none 0 0 0 0 0 0 b o 6 c2 [3, 4, 0, 1, 2, 0] w2 (Asked.of_nil _ _ _ _ _) exA_chk (.inl rfl) R2.out rfl rfl ⟨by omega, by omega⟩ hle' hmx' rfl rfl)
  have eW : wwords (List.drop 2 [(3 : Int), 4, 0, 1, 2, 0]) = [1, 512] := by decide
  rw [eW] at HG
  clear own2 row2 hle hmx b2 t0 HP hsz0 hb0
  obtain ⟨d0, d1, d2, d3, d4⟩ := t2.c4
  obtain ⟨r0, r1, r2, r3, r4, r5, r6⟩ := t2.r6
  go_wp2_with fail
  clear d0 d1 d2 d3 d4 r0 r1 r2 r3 r4 r5 r6
  refine HG.out.mono ?_
  rintro e w3 ⟨g3, hg3, rfl, hb3, b3⟩
  have t3 := t2.below b3
  have hg3l := block_lt hb3
  have hbg3 := Lib.hid ((b3.block g (by omega)).trans hb02.out)
  have R3 := Lib.hid ((R2.out.below b3).more b3.size)
  -- the box of what was read, and the list to hold it against
  have b4 : Below w3.heap.size w3 ((w3.alloc (.cells #[.int .i64 0, .slice none 0 0, .slice (some ⟨g3, 0, none⟩) 2 2, .slice none 0 0] 29)).alloc (.cells (blk .u8 [3, 4, 0, 1, 2, 0]) 5)) := (bel_alloc w3 _).alloc (by simp) _
  have t4 := t3.below b4
  have hlit := Lib.hid (heap_alloc_new (w3.alloc (.cells #[.int .i64 0, .slice none 0 0, .slice (some ⟨g3, 0, none⟩) 2 2, .slice none 0 0] 29)) (.cells (blk .u8 [3, 4, 0, 1, 2, 0]) 5))
  have hz3 : (w3.alloc (.cells #[.int .i64 0, .slice none 0 0, .slice (some ⟨g3, 0, none⟩) 2 2, .slice none 0 0] 29)).heap.size = w3.heap.size + 1 := by simp
  rw [hz3] at hlit
  have R4 := Lib.hid (R3.out.below b4)
  have hb34 := Lib.hid ((b4.block g3 hg3l).trans hb3)
  have hbg4 := Lib.hid ((b4.block g (by have := t3.lt; have := b3.size; omega)).trans hbg3.out)
  have hbx4 := Lib.hid ((heap_alloc_old (w3.alloc (.cells #[.int .i64 0, .slice none 0 0, .slice (some ⟨g3, 0, none⟩) 2 2, .slice none 0 0] 29)) (.cells (blk .u8 [3, 4, 0, 1, 2, 0]) 5) (r := w3.heap.size) (by simp)).trans (heap_alloc_new w3 (.cells #[.int .i64 0, .slice none 0 0, .slice (some ⟨g3, 0, none⟩) 2 2, .slice none 0 0] 29)))
  have bel3 : Below w.heap.size w w3 := (b1.trans (t3.bel.mono b1.size))
  clear t2 HG hb02 b3 R2
  go_wp2_with fail
  refine (same_yes_u8 (some ⟨b, o, none⟩) _ 6 _ _ [3, 4, 0, 1, 2, 0] _ _ _ R4.out (Row.of_block hlit.out [3, 4, 0, 1, 2, 0] hwL (List.prefix_refl _)) rfl (by omega)).mono ?_
  rintro e w5 ⟨rfl, m, rfl⟩
  have b5 := bel_drewN ((w3.alloc (.cells #[.int .i64 0, .slice none 0 0, .slice (some ⟨g3, 0, none⟩) 2 2, .slice none 0 0] 29)).alloc (.cells (blk .u8 [3, 4, 0, 1, 2, 0]) 5)) m
  have hsz4 : w3.heap.size ≤ ((w3.alloc (.cells #[.int .i64 0, .slice none 0 0, .slice (some ⟨g3, 0, none⟩) 2 2, .slice none 0 0] 29)).alloc (.cells (blk .u8 [3, 4, 0, 1, 2, 0]) 5)).heap.size := b4.size
  have t5 := t4.below b5
  have RA := Lib.hid ((Row.of_block hb34.out [1, 512] hwf (List.prefix_refl _)).more (block_lt hb34.out))
  have RB := Lib.hid ((Row.of_block hbg4.out [1, 512] hwf (List.prefix_refl _)).more (block_lt hbg4.out))
  have hbx5 := (b5.block w3.heap.size (block_lt hbx4.out)).trans hbx4.out
  obtain ⟨y0, y1, y2, y3⟩ := cells4 hbx5
  obtain ⟨d0, d1, d2, d3, d4⟩ := t5.c4
  have bel5 := bel3.trans (((b4.mono (Nat.le_refl _)).trans (b5.mono hsz4)).mono bel3.size)
  clear hbx5 t5 t4 b4
  go_wp2_with fail
  clear y0 y1 y2 y3 d0 d1 d2 d3 d4
  refine (SameReply_flat 0 [] [1, 512] none (some ⟨g3, 0, none⟩) none none (some ⟨g, 0, none⟩) none 0 2 0 2 0 0 2 0 _ (L.Row.nil _ _ _ _) (RA.out.drewN m) (L.Row.nil _ _ _ _) (RB.out.drewN m) rfl rfl (by omega) (by omega)).mono ?_
  rintro e w6 ⟨rfl, b6⟩
  go_wp2
  go_ret
  exact ⟨rfl, bel5.trans (b6.mono bel5.size)⟩
end Go.Proofs.Ytfdikjfbmfibjaa
namespace Go.Proofs.Ytfdikjfbmfibjaa
open Go.RowKit
set_option linter.unusedVariables false

set_option linter.unusedSimpArgs false in
set_option maxHeartbeats 4000000 in
set_option maxRecDepth 100000 in
theorem walk_ReplyChecks_long (q : Req) (Ao As Ap : Option Addr) (lo ls lp co cs cp : Nat) (r : Rep) (Bo Bs Bf : Option Addr) (mo ms mf eo es ef : Nat) (w : World) (h : Asked w w.heap.size q Ao As Ap lo ls lp) (hi : (Lit.int .i64 q.c).wf = true ∧ (Lit.int .i64 q.a).wf = true ∧ (Lit.int .i64 q.n).wf = true) (hr : Repd w w.heap.size r Bo Bs Bf mo ms mf) (hx : (Lit.int .i64 r.x).wf = true) (hv : (longA lo ls lp || longR mo ms mf r.fs) = true) :
    Calls Try.prog 3 #[.agg #[.int .i64 q.c, .int .i64 q.a, .int .i64 q.n, .slice Ao lo co, .slice As ls cs, .slice Ap lp cp], .agg #[.int .i64 r.x, .slice Bo mo eo, .slice Bs ms es, .slice Bf mf ef]] w fun e w' => e = .returned (.bool true) ∧ Below w.heap.size w w' := by
  have tb := TB.new2 w #[.int .i64 q.c, .int .i64 q.a, .int .i64 q.n, .slice Ao lo co, .slice As ls cs, .slice Ap lp cp] #[.int .i64 r.x, .slice Bo mo eo, .slice Bs ms es, .slice Bf mf ef] 26 29
  have H := Lib.hid h
  have HR := Lib.hid hr
  clear h hi hr hx
  have HV := Lib.hid hv
  clear hv
  go_enter Try.func3, Try.ntmps3
  go_wp2_with fail
  refine wp_region_held_drew (S := (fun w' => TB w w.heap.size (.cells #[.int .i64 q.c, .int .i64 q.a, .int .i64 q.n, .slice Ao lo co, .slice As ls cs, .slice Ap lp cp] 26 (0, 0)) (.cells #[.int .i64 r.x, .slice Bo mo eo, .slice Bs ms es, .slice Bf mf ef] 29 (0, 0)) w' ∧ w'.cell? ⟨w.heap.size, 0, none⟩ = some (.int .i64 q.c) ∧ w'.cell? ⟨w.heap.size, 1, none⟩ = some (.int .i64 q.a) ∧ w'.cell? ⟨w.heap.size, 2, none⟩ = some (.int .i64 q.n) ∧ w'.cell? ⟨w.heap.size, 3, none⟩ = some (.slice Ao lo co) ∧ w'.cell? ⟨w.heap.size, 4, none⟩ = some (.slice As ls cs) ∧ w'.cell? ⟨w.heap.size, 5, none⟩ = some (.slice Ap lp cp) ∧ w'.cell? ⟨w.heap.size + 1, 0, none⟩ = some (.int .i64 r.x) ∧ w'.cell? ⟨w.heap.size + 1, 1, none⟩ = some (.slice Bo mo eo) ∧ w'.cell? ⟨w.heap.size + 1, 2, none⟩ = some (.slice Bs ms es) ∧ w'.cell? ⟨w.heap.size + 1, 3, none⟩ = some (.slice Bf mf ef))) rfl ⟨tb.drew, tb.drew.ten⟩ (fun hS0 => ?_)
  refine wpAnyH_take (i := 0) (oi := { dst := some 5, op := Op.load 26 (Operand.tmp 2), type := 26, pos := "law.go:18", after := #[], guard := none }) (v := .agg #[.int .i64 q.c, .int .i64 q.a, .int .i64 q.n, .slice Ao lo co, .slice As ls cs, .slice Ap lp cp]) rfl (by kernel_rfl) (by kernel_rfl) (by kernel_rfl) (fun _ _ _ h => h) (Or.inl ⟨by rfl, by (intro w' hSw; (try dsimp only at hSw); go_simp)⟩) (by assumption) ?_
  simp only [Act.put, List.setIfInBounds_toArray, List.set_cons_zero, List.set_cons_succ]
  refine wpAnyH_take (i := 1) (oi := { dst := some 6, op := Op.load 29 (Operand.tmp 3), type := 29, pos := "law.go:18", after := #[], guard := none }) (v := .agg #[.int .i64 r.x, .slice Bo mo eo, .slice Bs ms es, .slice Bf mf ef]) rfl (by kernel_rfl) (by kernel_rfl) (by kernel_rfl) (fun _ _ _ h => h) (Or.inl ⟨by rfl, by (intro w' hSw; (try dsimp only at hSw); go_simp)⟩) (by assumption) ?_
  simp only [Act.put, List.setIfInBounds_toArray, List.set_cons_zero, List.set_cons_succ]
  refine wpAnyH_ready (rs := [2]) (by kernel_rfl) (by simp) ?_
  refine AllReadyH.cons (o := { dst := some 7, op := Op.call { callee := Callee.value (Operand.func 10), args := #[Operand.tmp 5, Operand.tmp 6], argTypes := #[26, 29] }, type := 4, pos := "law.go:18", after := #[{ on := 0, ground := Ground.data }, { on := 1, ground := Ground.data }], guard := none }) rfl (fun K hK => ?_) AllReadyH.nil
  go_simp
  go_at_call 10
  refine (long_any q r Ao As Ap Bo Bs Bf lo ls lp co cs cp mo ms mf eo es ef _ ((HR.out.below tb.drew.bel).more tb.drew.bel.size)).mono ?_
  rintro e w1 ⟨rfl, b1⟩
  rw [HV.out]
  have tb := tb.drew.below b1
  refine hK.out _ _ ⟨tb, tb.ten⟩ (fun hS1 => ?_)
  clear hS0
  refine wpAnyH_take (i := 3) (oi := { dst := some 8, op := Op.move (Operand.tmp 7), type := 4, pos := "law.go:18", after := #[{ on := 2, ground := Ground.data }, { on := 2, ground := Ground.chain }], guard := none }) (v := .bool true) rfl (by kernel_rfl) (by kernel_rfl) (by kernel_rfl) (fun _ _ _ h => h) (Or.inl ⟨by rfl, by (intro w' hSw; (try dsimp only at hSw); go_simp)⟩) (by assumption) ?_
  simp only [Act.put, List.setIfInBounds_toArray, List.set_cons_zero, List.set_cons_succ]
  refine wpAnyH_take (i := 4) (oi := { dst := some 9, op := Op.load 26 (Operand.tmp 2), type := 26, pos := "law.go:18", after := #[{ on := 3, ground := Ground.guard }], guard := some (3, false) }) (v := undef) rfl (by kernel_rfl) (by kernel_rfl) (by kernel_rfl) (fun _ _ _ h => h) (Or.inr ⟨by rfl, rfl⟩) (by assumption) ?_
  simp only [Act.put, List.setIfInBounds_toArray, List.set_cons_zero, List.set_cons_succ]
  refine wpAnyH_take (i := 5) (oi := { dst := some 10, op := Op.load 29 (Operand.tmp 3), type := 29, pos := "law.go:18", after := #[{ on := 3, ground := Ground.guard }], guard := some (3, false) }) (v := undef) rfl (by kernel_rfl) (by kernel_rfl) (by kernel_rfl) (fun _ _ _ h => h) (Or.inr ⟨by rfl, rfl⟩) (by assumption) ?_
  simp only [Act.put, List.setIfInBounds_toArray, List.set_cons_zero, List.set_cons_succ]
  refine wpAnyH_take (i := 6) (oi := { dst := some 11, op := Op.call { callee := Callee.value (Operand.func 11), args := #[Operand.tmp 9, Operand.tmp 10], argTypes := #[26, 29] }, type := 31, pos := "law.go:18", after := #[{ on := 4, ground := Ground.data }, { on := 5, ground := Ground.data }, { on := 3, ground := Ground.chain }, { on := 3, ground := Ground.guard }], guard := some (3, false) }) (v := undef) rfl (by kernel_rfl) (by kernel_rfl) (by kernel_rfl) (fun _ _ _ h => h) (Or.inr ⟨by rfl, rfl⟩) (by assumption) ?_
  simp only [Act.put, List.setIfInBounds_toArray, List.set_cons_zero, List.set_cons_succ]
  refine wpAnyH_take (i := 7) (oi := { dst := some 12, op := Op.load 26 (Operand.tmp 2), type := 26, pos := "law.go:18", after := #[{ on := 3, ground := Ground.guard }], guard := some (3, false) }) (v := undef) rfl (by kernel_rfl) (by kernel_rfl) (by kernel_rfl) (fun _ _ _ h => h) (Or.inr ⟨by rfl, rfl⟩) (by assumption) ?_
  simp only [Act.put, List.setIfInBounds_toArray, List.set_cons_zero, List.set_cons_succ]
  refine wpAnyH_take (i := 8) (oi := { dst := some 13, op := Op.load 29 (Operand.tmp 3), type := 29, pos := "law.go:18", after := #[{ on := 3, ground := Ground.guard }], guard := some (3, false) }) (v := undef) rfl (by kernel_rfl) (by kernel_rfl) (by kernel_rfl) (fun _ _ _ h => h) (Or.inr ⟨by rfl, rfl⟩) (by assumption) ?_
  simp only [Act.put, List.setIfInBounds_toArray, List.set_cons_zero, List.set_cons_succ]
  refine wpAnyH_take (i := 9) (oi := { dst := some 14, op := Op.call { callee := Callee.value (Operand.func 12), args := #[Operand.tmp 12, Operand.tmp 13], argTypes := #[26, 29] }, type := 31, pos := "law.go:18", after := #[{ on := 7, ground := Ground.data }, { on := 8, ground := Ground.data }, { on := 6, ground := Ground.chain }, { on := 3, ground := Ground.guard }], guard := some (3, false) }) (v := undef) rfl (by kernel_rfl) (by kernel_rfl) (by kernel_rfl) (fun _ _ _ h => h) (Or.inr ⟨by rfl, rfl⟩) (by assumption) ?_
  simp only [Act.put, List.setIfInBounds_toArray, List.set_cons_zero, List.set_cons_succ]
  refine wpAnyH_take (i := 10) (oi := { dst := some 15, op := Op.binOp BinOp.eql 31 (Operand.tmp 11) (Operand.tmp 14) 31, type := 4, pos := "law.go:18", after := #[{ on := 6, ground := Ground.data }, { on := 9, ground := Ground.data }, { on := 3, ground := Ground.guard }], guard := some (3, false) }) (v := undef) rfl (by kernel_rfl) (by kernel_rfl) (by kernel_rfl) (fun _ _ _ h => h) (Or.inr ⟨by rfl, rfl⟩) (by assumption) ?_
  simp only [Act.put, List.setIfInBounds_toArray, List.set_cons_zero, List.set_cons_succ]
  refine wpAnyH_take (i := 11) (oi := { dst := some 16, op := Op.move (Operand.tmp 15), type := 4, pos := "law.go:18", after := #[{ on := 10, ground := Ground.data }, { on := 9, ground := Ground.chain }, { on := 3, ground := Ground.guard }], guard := some (3, false) }) (v := undef) rfl (by kernel_rfl) (by kernel_rfl) (by kernel_rfl) (fun _ _ _ h => h) (Or.inr ⟨by rfl, rfl⟩) (by assumption) ?_
  simp only [Act.put, List.setIfInBounds_toArray, List.set_cons_zero, List.set_cons_succ]
  refine wpAnyH_take (i := 12) (oi := { dst := some 17, op := Op.call { callee := Callee.value (Operand.func 13), args := #[], argTypes := #[] }, type := 4, pos := "law.go:18", after := #[{ on := 11, ground := Ground.chain }, { on := 11, ground := Ground.guard }], guard := some (11, true) }) (v := undef) rfl (by kernel_rfl) (by kernel_rfl) (by kernel_rfl) (fun _ _ _ h => h) (Or.inr ⟨by rfl, rfl⟩) (by assumption) ?_
  simp only [Act.put, List.setIfInBounds_toArray, List.set_cons_zero, List.set_cons_succ]
  refine wpAnyH_take (i := 13) (oi := { dst := some 18, op := Op.pick (Operand.tmp 16) (Operand.tmp 17) (Operand.const (Value.bool false)), type := 4, pos := "law.go:18", after := #[{ on := 11, ground := Ground.data }, { on := 12, ground := Ground.data }, { on := 3, ground := Ground.guard }], guard := some (3, false) }) (v := undef) rfl (by kernel_rfl) (by kernel_rfl) (by kernel_rfl) (fun _ _ _ h => h) (Or.inr ⟨by rfl, rfl⟩) (by assumption) ?_
  simp only [Act.put, List.setIfInBounds_toArray, List.set_cons_zero, List.set_cons_succ]
  refine wpAnyH_take (i := 14) (oi := { dst := some 19, op := Op.pick (Operand.tmp 8) (Operand.const (Value.bool true)) (Operand.tmp 18), type := 4, pos := "law.go:18", after := #[{ on := 3, ground := Ground.data }, { on := 13, ground := Ground.data }], guard := none }) (v := .bool true) rfl (by kernel_rfl) (by kernel_rfl) (by kernel_rfl) (fun _ _ _ h => h) (Or.inl ⟨by rfl, by (intro w' hSw; (try dsimp only at hSw); go_simp)⟩) (by assumption) ?_
  simp only [Act.put, List.setIfInBounds_toArray, List.set_cons_zero, List.set_cons_succ]
  refine wpAnyH_take (i := 15) (oi := { dst := some 4, op := Op.assign (Operand.tmp 19), type := 4, pos := "law.go:18", after := #[{ on := 14, ground := Ground.data }, { on := 12, ground := Ground.chain }, { on := 0, ground := Ground.phase }, { on := 1, ground := Ground.phase }, { on := 2, ground := Ground.phase }, { on := 3, ground := Ground.phase }, { on := 4, ground := Ground.phase }, { on := 5, ground := Ground.phase }, { on := 6, ground := Ground.phase }, { on := 7, ground := Ground.phase }, { on := 8, ground := Ground.phase }, { on := 9, ground := Ground.phase }, { on := 10, ground := Ground.phase }, { on := 11, ground := Ground.phase }, { on := 12, ground := Ground.phase }, { on := 13, ground := Ground.phase }, { on := 14, ground := Ground.phase }], guard := none }) (v := .bool true) rfl (by kernel_rfl) (by kernel_rfl) (by kernel_rfl) (fun _ _ _ h => h) (Or.inl ⟨by rfl, by (intro w' hSw; (try dsimp only at hSw); go_simp)⟩) (by assumption) ?_
  simp only [Act.put, List.setIfInBounds_toArray, List.set_cons_zero, List.set_cons_succ]
  refine wpAnyH_done (by kernel_rfl) ?_ _
  go_wp2
  go_ret
  exact ⟨rfl, tb.bel⟩
end Go.Proofs.Ytfdikjfbmfibjaa
namespace Go.Proofs.Ytfdikjfbmfibjaa
open Go.RowKit
set_option linter.unusedVariables false

set_option maxHeartbeats 4000000 in
set_option maxRecDepth 100000 in
theorem walk_ReplyChecks_rest (q : Req) (Ao As Ap : Option Addr) (lo ls lp co cs cp : Nat) (r : Rep) (Bo Bs Bf : Option Addr) (mo ms mf eo es ef : Nat) (w : World) (h : Asked w w.heap.size q Ao As Ap lo ls lp) (hi : (Lit.int .i64 q.c).wf = true ∧ (Lit.int .i64 q.a).wf = true ∧ (Lit.int .i64 q.n).wf = true) (hr : Repd w w.heap.size r Bo Bs Bf mo ms mf) (hx : (Lit.int .i64 r.x).wf = true) (hv : (longA lo ls lp || longR mo ms mf r.fs) = false) :
    Calls Try.prog 3 #[.agg #[.int .i64 q.c, .int .i64 q.a, .int .i64 q.n, .slice Ao lo co, .slice As ls cs, .slice Ap lp cp], .agg #[.int .i64 r.x, .slice Bo mo eo, .slice Bs ms es, .slice Bf mf ef]] w fun e w' => e = .returned (.bool true) ∧ Below w.heap.size w w' := by
  have tb := TB.new2 w #[.int .i64 q.c, .int .i64 q.a, .int .i64 q.n, .slice Ao lo co, .slice As ls cs, .slice Ap lp cp] #[.int .i64 r.x, .slice Bo mo eo, .slice Bs ms es, .slice Bf mf ef] 26 29
  have H := Lib.hid h
  have HR := Lib.hid hr
  clear h hi hr hx
  have HV := Lib.hid hv
  have hlp : lp ≤ 100000 := by
    rw [Bool.or_eq_false_iff] at hv
    have := of_decide_eq_false hv.1
    omega
  clear hv
  obtain ⟨E, hE⟩ : ∃ E, Hid (chkR q r = E) := ⟨_, Lib.hid rfl⟩
  have tE : (E == E) = true := by simp
  go_enter Try.func3, Try.ntmps3
  go_wp2_with fail
  go_region_held3 (fun w' => TB w w.heap.size (.cells #[.int .i64 q.c, .int .i64 q.a, .int .i64 q.n, .slice Ao lo co, .slice As ls cs, .slice Ap lp cp] 26 (0, 0)) (.cells #[.int .i64 r.x, .slice Bo mo eo, .slice Bs ms es, .slice Bf mf ef] 29 (0, 0)) w' ∧ w'.cell? ⟨w.heap.size, 0, none⟩ = some (.int .i64 q.c) ∧ w'.cell? ⟨w.heap.size, 1, none⟩ = some (.int .i64 q.a) ∧ w'.cell? ⟨w.heap.size, 2, none⟩ = some (.int .i64 q.n) ∧ w'.cell? ⟨w.heap.size, 3, none⟩ = some (.slice Ao lo co) ∧ w'.cell? ⟨w.heap.size, 4, none⟩ = some (.slice As ls cs) ∧ w'.cell? ⟨w.heap.size, 5, none⟩ = some (.slice Ap lp cp) ∧ w'.cell? ⟨w.heap.size + 1, 0, none⟩ = some (.int .i64 r.x) ∧ w'.cell? ⟨w.heap.size + 1, 1, none⟩ = some (.slice Bo mo eo) ∧ w'.cell? ⟨w.heap.size + 1, 2, none⟩ = some (.slice Bs ms es) ∧ w'.cell? ⟨w.heap.size + 1, 3, none⟩ = some (.slice Bf mf ef))
    ((first
      | exact ⟨tb, tb.ten⟩
      | exact ⟨tb.drew, tb.drew.ten⟩))
    (first
      | (go_at_call 10; refine (long_any q r Ao As Ap Bo Bs Bf lo ls lp co cs cp mo ms mf eo es ef _ (by first | exact (HR.out.below tb.bel).more tb.bel.size | exact (HR.out.below tb.drew.bel).more tb.drew.bel.size)).mono ?_; rintro e w1 ⟨rfl, b1⟩; rw [HV.out]; first | (have tb := tb.below b1) | (have tb := tb.drew.below b1))
      | (go_at_call 11; refine (rpCheck_any q r Ao As Ap Bo Bs Bf lo ls lp co cs cp mo ms mf eo es ef _ ((H.out.below tb.bel).more tb.bel.size) ((HR.out.below tb.bel).more tb.bel.size) hlp).mono ?_; rintro e w1 ⟨rfl, b1⟩; rw [hE.out]; have tb := tb.below b1)
      | (go_at_call 12; refine (refRp_any q r Ao As Ap Bo Bs Bf lo ls lp co cs cp mo ms mf eo es ef _ ((H.out.below tb.bel).more tb.bel.size) ((HR.out.below tb.bel).more tb.bel.size) hlp).mono ?_; rintro e w1 ⟨rfl, b1⟩; rw [hE.out]; have tb := tb.below b1)
      | (go_at_call 13; refine (works_yes _).mono ?_; rintro e w1 ⟨rfl, b1⟩; have tb := tb.below b1))
  all_goals
    go_wp2
    go_ret
    exact ⟨rfl, tb.bel⟩
end Go.Proofs.Ytfdikjfbmfibjaa
namespace Go.Proofs.Ytfdikjfbmfibjaa
open Go.RowKit
set_option linter.unusedVariables false

theorem walk_ReplyChecks (q : Req) (Ao As Ap : Option Addr) (lo ls lp co cs cp : Nat) (r : Rep) (Bo Bs Bf : Option Addr) (mo ms mf eo es ef : Nat) (w : World) (h : Asked w w.heap.size q Ao As Ap lo ls lp) (hi : (Lit.int .i64 q.c).wf = true ∧ (Lit.int .i64 q.a).wf = true ∧ (Lit.int .i64 q.n).wf = true) (hr : Repd w w.heap.size r Bo Bs Bf mo ms mf) (hx : (Lit.int .i64 r.x).wf = true) :
    Calls Try.prog 3 #[.agg #[.int .i64 q.c, .int .i64 q.a, .int .i64 q.n, .slice Ao lo co, .slice As ls cs, .slice Ap lp cp], .agg #[.int .i64 r.x, .slice Bo mo eo, .slice Bs ms es, .slice Bf mf ef]] w fun e w' => e = .returned (.bool true) ∧ Below w.heap.size w w' := by
  cases hv : (longA lo ls lp || longR mo ms mf r.fs) with
  | true => exact walk_ReplyChecks_long q Ao As Ap lo ls lp co cs cp r Bo Bs Bf mo ms mf eo es ef w h hi hr hx hv
  | false => exact walk_ReplyChecks_rest q Ao As Ap lo ls lp co cs cp r Bo Bs Bf mo ms mf eo es ef w h hi hr hx hv
end Go.Proofs.Ytfdikjfbmfibjaa
namespace Go.Proofs.Ytfdikjfbmfibjaa.replyChecks
open Go.ChangeShapes Go.WideShapes Go.ChangeAt Go.RowKit
open Go.ChangeMaps (open_string shut_string)
set_option linter.unusedVariables false

theorem own : ownKnob Try.prog.godebug = none := by kernel_rfl
theorem laidOut : laidOutB Try.prog = true := by kernel_rfl

set_option maxRecDepth 100000 in
theorem lifted (os : Os) (started : os.Started) (H : Type) (enc : TypeId × Value → H) :
    ReturnsInHanded {} Try.checked os 3 .any (Rows.replyChecksSpec.pre6 enc Try.prog Try.f3 Rows.replyChecksRow.domain false) (Rows.replyChecksSpec.post enc Try.prog Try.f3 false true false false) := by
  refine returnsInHanded_of_change_sized (C := Try.checked) own started (by kernel_rfl) Try.func3
    (ChangeSpec.witness6 (enc := enc) (C := Try.checked) false ⟨#[], #[.agg #[.int .i64 0, .int .i64 0, .int .i64 0, .slice none 0 0, .slice none 0 0, .slice none 0 0], .agg #[.int .i64 0, .slice none 0 0, .slice none 0 0, .slice none 0 0]], []⟩ 8 (by kernel_rfl) (by kernel_rfl) (by kernel_rfl) (by kernel_rfl)) ?_
  intro W base args ds gs before hval0 hW hcnd hsz0 _
  have hsz : (DataW.weightsEach Try.prog (Try.f3.params.toList ++ Rows.replyChecksSpec.plain.varTypes Try.prog) (ds ++ gs)).all (· ≤ reachBytes) = true := hsz0
  clear hsz0
  have hval : ∀ (j : Nat) t v, Try.f3.params[j]? = some t → args[j]? = some v → Value.okWide Try.prog W .any base t v := hval0
  have hW' := hW
  obtain ⟨p, q, hA0, hV, rfl, hfz, hnd⟩ := hW
  have hA : DataW.TrodAll enc Try.prog W 0 (fun _ => true) true Try.f3.params.toList args.toList ds p := hA0
  rw [Try.params3] at hA hval hsz
  obtain ⟨v0, vs0, d0, ds0, p0, q0, hargs, rfl, rfl, h0, r0⟩ := trodAll_cons hA
  obtain ⟨v1, vs1, d1, ds1, p1, q1, rfl, rfl, rfl, h1, r1⟩ := trodAll_cons r0
  obtain ⟨rfl, rfl, rfl⟩ := trodAll_nil r1
  obtain rfl : args = #[v0, v1] := by cases args; simp_all
  obtain ⟨rfl, rfl⟩ := trodVars_none hV
  have k0 := h0
  have lt0 : ∀ x ∈ p0, x.block < W.heap.size := by obtain ⟨m, hm⟩ := k0; exact DataW.trod_lt m _ _ _ hm
  obtain ⟨q_0, Ao0, As0, Ap0, lo0, ls0, lp0, co0, cs0, cp0, rfl, w0, wf0⟩ := ask_in Try.underlying26 (by kernel_rfl) (by kernel_rfl) Try.underlying3 Try.underlying3 Try.underlying3 Try.underlying22 Try.underlying4 (by kernel_rfl) Try.underlying23 Try.underlying90 (by kernel_rfl) Try.underlying24 Try.underlying61 (by kernel_rfl) (by kernel_rfl) Try.underlying3 Try.underlying3 Try.underlying3 (hval 0 26 v0 rfl rfl) h0 lt0
  have k1 := h1
  have lt1 : ∀ x ∈ p1, x.block < W.heap.size := by obtain ⟨m, hm⟩ := k1; exact DataW.trod_lt m _ _ _ hm
  obtain ⟨r_1, Bo1, Bs1, Bf1, mo1, ms1, mf1, eo1, es1, ef1, rfl, w1, wf1⟩ := rep_in Try.underlying29 (by kernel_rfl) (by kernel_rfl) Try.underlying3 Try.underlying22 Try.underlying4 (by kernel_rfl) Try.underlying23 Try.underlying90 (by kernel_rfl) Try.underlying27 Try.underlying23 Try.underlying90 (by kernel_rfl) (by kernel_rfl) (hval 1 29 v1 rfl rfl) h1 lt1
  clear hA0 hval0
  refine (walk_ReplyChecks q_0 Ao0 As0 Ap0 lo0 ls0 lp0 co0 cs0 cp0 r_1 Bo1 Bs1 Bf1 mo1 ms1 mf1 eo1 es1 ef1 W w0 wf0 w1 wf1).mono fun e W' ⟨he, bel⟩ => ?_
  subst he
  exact ⟨_, rfl, _, _, _, [], _, [], hW', trodAll_mk1 (shut_bool Try.underlying4 _), (trodAll_cons_mk (Below.trod laidOut (by kernel_rfl) (of_decide_eq_true (by kernel_rfl)) k0 bel lt0) (trodAll_cons_mk (Below.trod laidOut (by kernel_rfl) (of_decide_eq_true (by kernel_rfl)) k1 bel lt1) trodAll_mk0)), rfl, bel.frame _, fun h => by cases h⟩

theorem over : Rows.replyChecksRow.holds Try.pinned (OpenSpec.ofChange Rows.replyChecksSpec) :=
  OpenClaim.holds_of_wide 3 Try.f3 rfl rfl rfl rfl rfl rfl rfl ⟨rfl, rfl, rfl, rfl, rfl⟩ rfl rfl rfl rfl rfl (by kernel_rfl) Try.func3 (by kernel_rfl)
    (of_decide_eq_true (by kernel_rfl)) (by unfold Func.isWrapper; first | (rw [if_pos (by decide +kernel)]; kernel_rfl) | (rw [if_neg (by decide +kernel)]; exact ⟨rfl, rfl⟩))
    (fun os started H enc _ => lifted os started H enc)

theorem proved : Rows.ReplyChecksSaid := over
#print axioms proved
end Go.Proofs.Ytfdikjfbmfibjaa.replyChecks
