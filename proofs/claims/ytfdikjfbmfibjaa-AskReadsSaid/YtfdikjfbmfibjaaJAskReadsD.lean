/-
  Texts of the proof of AskReads, joined.
-/
import Derived.Test.YtfdikjfbmfibjaaJAskReadsC
import Derived.Test.YtfdikjfbmfibjaaJAskReadsB
namespace Go.Proofs.Ytfdikjfbmfibjaa
open Go.RowKit
set_option linter.unusedVariables false

/-- What is wrong with a request. -/
def chkQ (q : Req) : Int := chk q.c q.a q.n q.on.length q.set.length (q.fl.length / 3) q.fl
/-- What is wrong with bytes. -/
def getE (ys : List Int) : Int :=
  if ys.length = 0 then 1 else if mm (nth ys 0) ≤ 0 then 20 else if (ys.length : Int) < szOf ys then 1 else if szOf ys < (ys.length : Int) then 2 else if rdOk ys = false then 4 else chkQ (rdQ ys)
def getQ (ys : List Int) : Req := if getE ys = 0 then rdQ ys else Req.zero

theorem Told.zero_ {w w' : World} {err : Int} {e : Ending} (h : e = .returned (.tuple #[.agg #[.int .i64 0, .int .i64 0, .int .i64 0, .slice none 0 0, .slice none 0 0, .slice none 0 0], .int .i64 err])) (hb : Below w.heap.size w w') : Told w Req.zero err e w' :=
  ⟨none, none, 0, 0, w.heap.size, w.heap.size, _, h, .inl ⟨rfl, rfl⟩, .inl ⟨rfl, rfl⟩, POwn.nil _ _ _, ⟨rfl, rfl⟩, ⟨Nat.le_refl _, Nat.le_refl _⟩, hb⟩

set_option maxRecDepth 100000 in
theorem Get_none (A : Option Addr) (c : Nat) (w : World) : Calls Try.prog 29 #[.slice A 0 c] w (Told w Req.zero 1) := by
  go_enter Try.func29, Try.ntmps29
  go_wp2
  (try simp only [Exit.inBlock, Exit.then])
  refine bodyPost_ret (v := .tuple #[.agg #[.int .i64 0, .int .i64 0, .int .i64 0, .slice none 0 0, .slice none 0 0, .slice none 0 0], .int .i64 1]) (by simp [results, Try.results29, go_sem]) rfl ?_
  exact Told.zero_ rfl (bel_alloc w _)
set_option maxRecDepth 100000 in
theorem Get_code (A : Option Addr) (n c : Nat) (ys : List Int) (w : World) (hr : Row .u8 w w.heap.size A ys) (hn : ys.length = n) (hb : n ≤ 140737488355328) (h1 : 1 ≤ n) (hm : mm (nth ys 0) ≤ 0) :
    Calls Try.prog 29 #[.slice A n c] w (Told w Req.zero 20) := by
  obtain ⟨b, o, rfl, hb1, hc1, hrg⟩ := row_head hr (by omega)
  have t0 : ((n : Int) == 0) = false := beq_false_of_ne (by omega)
  have HD : Hid (decide (0 < mm (nth ys 0)) = false) := Lib.hid (decide_eq_false (by omega))
  clear hr hn hm
  generalize nth ys 0 = v at *
  have e0 : IntKind.i64.wrap v = v := IntWalk.i64_in _ (by omega)
  go_enter Try.func29, Try.ntmps29
  go_wp2_with fail
  refine (isCode_any v _).mono ?_
  rintro e w1 ⟨rfl, rfl⟩
  rw [HD.out]
  go_wp2
  (try simp only [Exit.inBlock, Exit.then])
  refine bodyPost_ret (v := .tuple #[.agg #[.int .i64 0, .int .i64 0, .int .i64 0, .slice none 0 0, .slice none 0 0, .slice none 0 0], .int .i64 20]) (by simp [results, Try.results29, go_sem]) rfl ?_
  exact Told.zero_ rfl (bel_alloc w _)
set_option maxRecDepth 100000 in
theorem Get_size (A : Option Addr) (n c : Nat) (ys : List Int) (w : World) (hr : Row .u8 w w.heap.size A ys) (hn : ys.length = n) (hb : n ≤ 140737488355328) (h1 : 1 ≤ n) (hm : 0 < mm (nth ys 0)) (hs : (n : Int) ≠ szOf ys) :
    Calls Try.prog 29 #[.slice A n c] w (Told w Req.zero (if (n : Int) < szOf ys then 1 else 2)) := by
  obtain ⟨b, o, rfl, hb1, hc1, hrg⟩ := row_head hr (by omega)
  have t0 : ((n : Int) == 0) = false := beq_false_of_ne (by omega)
  have HD : Hid (decide (0 < mm (nth ys 0)) = true) := Lib.hid (decide_eq_true (by omega))
  have HR := Lib.hid hr
  have HN := Lib.hid hn
  clear hr hn hm
  generalize nth ys 0 = v at *
  have e0 : IntKind.i64.wrap v = v := IntWalk.i64_in _ (by omega)
  by_cases hlt : (n : Int) < szOf ys
  · rw [if_pos hlt]
    go_enter Try.func29, Try.ntmps29
    go_wp2_with fail
    refine (isCode_any v _).mono ?_
    rintro e w1 ⟨rfl, rfl⟩
    rw [HD.out]
    go_wp2_with fail
    refine (size_any b o n c ys _ w.heap.size (HR.out.alloc (Nat.le_refl _) _) HN.out h1 hb).mono ?_
    rintro e w1 ⟨rfl, rfl⟩
    generalize szOf ys = s at *
    go_wp2
    (try simp only [Exit.inBlock, Exit.then])
    refine bodyPost_ret (v := .tuple #[.agg #[.int .i64 0, .int .i64 0, .int .i64 0, .slice none 0 0, .slice none 0 0, .slice none 0 0], .int .i64 1]) (by simp [results, Try.results29, go_sem]) rfl ?_
    exact Told.zero_ rfl (bel_alloc w _)
  · rw [if_neg hlt]
    have hgt : szOf ys < (n : Int) := by omega
    go_enter Try.func29, Try.ntmps29
    go_wp2_with fail
    refine (isCode_any v _).mono ?_
    rintro e w1 ⟨rfl, rfl⟩
    rw [HD.out]
    go_wp2_with fail
    refine (size_any b o n c ys _ w.heap.size (HR.out.alloc (Nat.le_refl _) _) HN.out h1 hb).mono ?_
    rintro e w1 ⟨rfl, rfl⟩
    generalize szOf ys = s at *
    go_wp2
    (try simp only [Exit.inBlock, Exit.then])
    refine bodyPost_ret (v := .tuple #[.agg #[.int .i64 0, .int .i64 0, .int .i64 0, .slice none 0 0, .slice none 0 0, .slice none 0 0], .int .i64 2]) (by simp [results, Try.results29, go_sem]) rfl ?_
    exact Told.zero_ rfl (bel_alloc w _)

theorem POwn.row_at {e : TypeId} {w : World} {base n c : Nat} {A : Option Addr} {fl : List Int} (h : POwn e w base (.slice A n c) fl) (hw : ∀ x ∈ fl, (Lit.int .i64 x).wf = true) : Row .i64 w w.heap.size A fl ∧ fl.length = 3 * n := by
  obtain ⟨A', n', c', hv, hr, hl, _⟩ := h.row hw
  injection hv with h1 h2 h3
  subst h1 h2
  exact ⟨hr, hl⟩
theorem wf_i64_16 {x : Int} (h : 0 ≤ x ∧ x < 65536) : (Lit.int .i64 x).wf = true := by
  simp [Lit.wf, IntKind.min, IntKind.max, IntKind.signed, IntKind.bits]; omega
/-- What the lists of the request that bytes say hold. -/
theorem rdQ_wf (ys : List Int) (hw : ∀ x ∈ ys, (Lit.int .u8 x).wf = true) (h5 : nth ys 0 ≠ 20 → 5 ≤ ys.length) : (∀ x ∈ (rdQ ys).set, (Lit.int .u16 x).wf = true) ∧ ∀ x ∈ (rdQ ys).fl, (Lit.int .i64 x).wf = true := by
  unfold rdQ
  split
  · exact ⟨by simp, fun x hx => wf_i64_16 (flOf_wf _ (fun x hx => hw x (List.mem_of_mem_drop hx)) _ (by omega) x hx)⟩
  · split
    · exact ⟨by simp, by simp⟩
    · split
      · refine ⟨fun x hx => ?_, by simp⟩
        simp only [List.mem_singleton] at hx
        subst hx
        exact wf_word16 (at2_range ys hw 3 (h5 (by omega)))
      · split
        · exact ⟨by simp, by simp⟩
        · split
          · exact ⟨wwords_wf _ (fun x hx => hw x (List.mem_of_mem_drop hx)), by simp⟩
          · exact ⟨by simp, by simp⟩
theorem Told.asked {w : World} {q : Req} {A1 A2 A3 : Option Addr} {m1 m2 g1 g2 n3 c3 base : Nat} (h1 : L.Li w A1 m1 g1 q.on []) (h2 : W.Li w A2 m2 g2 q.set []) (h3 : POwn 61 w base (.slice A3 n3 c3) q.fl) (hl : q.on.length = m1 ∧ q.set.length = m2) (hw : (∀ x ∈ q.set, (Lit.int .u16 x).wf = true) ∧ ∀ x ∈ q.fl, (Lit.int .i64 x).wf = true) :
    Asked w w.heap.size q A1 A2 A3 m1 m2 n3 :=
  ⟨h1.row hl.1 (fun _ _ => rfl), h2.row hl.2 hw.1, (h3.row_at hw.2).1, hl.1, hl.2, (h3.row_at hw.2).2⟩
theorem szOf_le (ys : List Int) (hw : ∀ x ∈ ys, (Lit.int .u8 x).wf = true) : szOf ys ≤ 300 := by
  unfold szOf
  split
  · split
    · omega
    · have := wf_u8 (hw _ (nth_mem ys 5 (by omega))); omega
  · split
    · split
      · omega
      · have := wf_u8 (hw _ (nth_mem ys 1 (by omega))); omega
    · omega
theorem szOf_five (ys : List Int) (hw : ∀ x ∈ ys, (Lit.int .u8 x).wf = true) (hs : (ys.length : Int) = szOf ys) : nth ys 0 ≠ 20 → 5 ≤ ys.length := by
  intro h20
  unfold szOf at hs
  rw [if_neg h20] at hs
  split at hs
  · split at hs
    · omega
    · have := wf_u8 (hw _ (nth_mem ys 5 (by omega))); omega
  · omega

set_option maxHeartbeats 600000 in
set_option maxRecDepth 100000 in
theorem Get_rest (A : Option Addr) (n c : Nat) (ys : List Int) (w : World) (hr : Row .u8 w w.heap.size A ys) (hn : ys.length = n) (hc : n ≤ c) (h1 : 1 ≤ n) (hm : 0 < mm (nth ys 0)) (hs : (n : Int) = szOf ys) :
    Calls Try.prog 29 #[.slice A n c] w (Told w (if rdOk ys = false then Req.zero else if chkQ (rdQ ys) = 0 then rdQ ys else Req.zero) (if rdOk ys = false then 4 else chkQ (rdQ ys))) := by
  have hle := szOf_le ys hr.1
  have hwfq := Lib.hid (rdQ_wf ys hr.1 (szOf_five ys hr.1 (by rw [hn]; exact hs)))
  have hrd := Lib.hid (fun (W : World) (hR : Row .u8 W W.heap.size A ys) => read_any A n c ys W hR hn hc h1 (by omega) hm hs)
  obtain ⟨b, o, rfl, hb1, hc1, hrg⟩ := row_head hr (by omega)
  have t0 : ((n : Int) == 0) = false := beq_false_of_ne (by omega)
  have HD : Hid (decide (0 < mm (nth ys 0)) = true) := Lib.hid (decide_eq_true (by omega))
  have HR := Lib.hid hr
  have HN := Lib.hid hn
  have hn3 : n ≤ 300 := by omega
  have HS : Hid (szOf ys = (n : Int)) := Lib.hid hs.symm
  clear hr hn hm hs hle
  obtain ⟨q', hq'⟩ : ∃ q', Hid ((if rdOk ys = false then Req.zero else if chkQ (rdQ ys) = 0 then rdQ ys else Req.zero) = q') := ⟨_, Lib.hid rfl⟩
  obtain ⟨E', hE'⟩ : ∃ E', Hid ((if rdOk ys = false then 4 else chkQ (rdQ ys)) = E') := ⟨_, Lib.hid rfl⟩
  rw [hq'.out, hE'.out]
  generalize nth ys 0 = v at *
  have e0 : IntKind.i64.wrap v = v := IntWalk.i64_in _ (by omega)
  go_enter Try.func29, Try.ntmps29
  go_wp2_with fail
  refine (isCode_any v _).mono ?_
  rintro e w1 ⟨rfl, rfl⟩
  rw [HD.out]
  go_wp2_with fail
  refine (size_any b o n c ys _ w.heap.size (HR.out.alloc (Nat.le_refl _) _) HN.out h1 (by omega)).mono ?_
  rintro e w1 ⟨rfl, rfl⟩
  rw [HS.out]
  go_wp2_with fail
  refine (hrd.out _ (by exact (HR.out.alloc (Nat.le_refl _) _).more (by simp))).mono ?_
  rintro e w1 ⟨q, E, ⟨A1, A2, m1, m2, g1, g2, vp, rfl, li1, li2, own1, hl, hg, b1⟩, hok⟩
  obtain ⟨A3, n3, c3, rfl⟩ := own1.form
  have hz : (w.alloc (.cells #[.int .i64 0, .int .i64 0, .int .i64 0, .slice none 0 0, .slice none 0 0, .slice none 0 0] 26)).heap.size = w.heap.size + 1 := by simp
  rw [hz] at hg own1 b1
  have ret1 : Hid (w1.heap[w.heap.size]? = some (.cells #[.int .i64 0, .int .i64 0, .int .i64 0, .slice none 0 0, .slice none 0 0, .slice none 0 0] 26 (0, 0))) := Lib.hid ((b1.block w.heap.size (by omega)).trans (heap_alloc_new w _))
  have bel1 : Below w.heap.size w w1 := (bel_alloc w _).trans (b1.mono (by omega))
  have hs1 : w.heap.size < w1.heap.size := by have := b1.size; rw [hz] at this; omega
  have HOK := Lib.hid hok
  have L1 := Lib.hid li1
  have L2 := Lib.hid li2
  have O1 := Lib.hid own1
  have HL := Lib.hid hl
  clear hok li1 li2 own1 b1 hz hl hrd HD HS t0 e0
  cases hrk : rdOk ys with
  | false =>
    have hE : Hid (E = 4) := Lib.hid (by
      rcases HOK.out with ⟨h, _⟩ | ⟨_, h⟩
      · rw [hrk] at h; cases h
      · exact h)
    obtain rfl := hE.out
    have hsz : w.heap.size < (put6 w1 w.heap.size (.int .i64 0) (.int .i64 0) (.int .i64 0) (.slice none 0 0) (.slice none 0 0) (.slice none 0 0)).heap.size := by simpa [put6, World.setCell] using hs1
    have P4 := Lib.hid ((below_put6 bel1 (g := w.heap.size) (Nat.le_refl _) (.int .i64 0) (.int .i64 0) (.int .i64 0) (.slice none 0 0) (.slice none 0 0) (.slice none 0 0)).alloc (Nat.le_of_lt hsz) (.cells #[.int .i64 q.c, .int .i64 q.a, .int .i64 q.n, .slice A1 m1 m1, .slice A2 m2 m2, .slice A3 n3 c3] 26))
    have P5 := Lib.hid ((heap_alloc_old (put6 w1 w.heap.size (.int .i64 0) (.int .i64 0) (.int .i64 0) (.slice none 0 0) (.slice none 0 0) (.slice none 0 0)) (.cells #[.int .i64 q.c, .int .i64 q.a, .int .i64 q.n, .slice A1 m1 m1, .slice A2 m2 m2, .slice A3 n3 c3] 26) hsz).trans (put6_heap ret1.out (.int .i64 0) (.int .i64 0) (.int .i64 0) (.slice none 0 0) (.slice none 0 0) (.slice none 0 0)))
    clear hsz
    have hrk' := Lib.hid hrk
    clear hrk hg
    obtain ⟨⟨d10, d11, d12⟩, ⟨d13, d14, d15⟩, d16⟩ := cells6 ret1.out
    go_wp2
    (try simp only [Exit.inBlock, Exit.then])
    show bodyPost _ _ _ _ _ ((put6 w1 w.heap.size (.int .i64 0) (.int .i64 0) (.int .i64 0) (.slice none 0 0) (.slice none 0 0) (.slice none 0 0)).alloc (.cells #[.int .i64 q.c, .int .i64 q.a, .int .i64 q.n, .slice A1 m1 m1, .slice A2 m2 m2, .slice A3 n3 c3] 26))
    generalize (put6 w1 w.heap.size (.int .i64 0) (.int .i64 0) (.int .i64 0) (.slice none 0 0) (.slice none 0 0) (.slice none 0 0)).alloc (.cells #[.int .i64 q.c, .int .i64 q.a, .int .i64 q.n, .slice A1 m1 m1, .slice A2 m2 m2, .slice A3 n3 c3] 26) = w6 at *
    clear d10 d11 d12 d13 d14 d15 d16
    obtain ⟨⟨d10, d11, d12⟩, ⟨d13, d14, d15⟩, d16⟩ := cells6 P5.out
    refine bodyPost_ret (v := .tuple #[.agg #[.int .i64 0, .int .i64 0, .int .i64 0, .slice none 0 0, .slice none 0 0, .slice none 0 0], .int .i64 4]) (by simp [results, Try.results29, go_sem, d10, d11, d12, d13, d14, d15]) rfl ?_
    rw [← hq'.out, ← hE'.out, if_pos hrk'.out, if_pos hrk'.out]
    exact Told.zero_ rfl P4.out
  | true =>
    obtain ⟨hq, hE⟩ : Hid (q = rdQ ys) ∧ Hid (E = 0) := by
      rcases HOK.out with ⟨_, h1, h2⟩ | ⟨h, _⟩
      · exact ⟨Lib.hid h1, Lib.hid h2⟩
      · rw [hrk] at h; cases h
    obtain rfl := hE.out
    have hrk' := Lib.hid hrk
    have hwq : Hid ((∀ x ∈ q.set, (Lit.int .u16 x).wf = true) ∧ ∀ x ∈ q.fl, (Lit.int .i64 x).wf = true) := Lib.hid (by rw [hq.out]; exact hwfq.out)
    have HA := Lib.hid ((Told.asked L1.out L2.out O1.out HL.out hwq.out).upAlloc (.cells #[.int .i64 q.c, .int .i64 q.a, .int .i64 q.n, .slice A1 m1 m1, .slice A2 m2 m2, .slice A3 n3 c3] 26))
    have hk : Hid (chk q.c q.a q.n m1 m2 n3 q.fl = chkQ (rdQ ys)) := Lib.hid (by
      rw [← hq.out, chkQ, HL.out.1, HL.out.2, HA.out.lp, Nat.mul_div_cancel_left n3 (by omega)])
    obtain ⟨r, hr⟩ : ∃ r, Hid (chkQ (rdQ ys) = r) := ⟨_, Lib.hid rfl⟩
    rw [hr.out] at hk
    have HC := Lib.hid (Check_any q A1 A2 A3 m1 m2 n3 m1 m2 c3 (w1.alloc (.cells #[.int .i64 q.c, .int .i64 q.a, .int .i64 q.n, .slice A1 m1 m1, .slice A2 m2 m2, .slice A3 n3 c3] 26)) HA.out)
    rw [hk.out] at HC
    have bxn := Lib.hid (heap_alloc_new w1 (.cells #[.int .i64 q.c, .int .i64 q.a, .int .i64 q.n, .slice A1 m1 m1, .slice A2 m2 m2, .slice A3 n3 c3] 26))
    have hz1 : (w1.alloc (.cells #[.int .i64 q.c, .int .i64 q.a, .int .i64 q.n, .slice A1 m1 m1, .slice A2 m2 m2, .slice A3 n3 c3] 26)).heap.size = w1.heap.size + 1 := by simp
    have K1 := Lib.hid (L1.out.below (bel_alloc w1 (.cells #[.int .i64 q.c, .int .i64 q.a, .int .i64 q.n, .slice A1 m1 m1, .slice A2 m2 m2, .slice A3 n3 c3] 26)))
    have K2 := Lib.hid (L2.out.below (bel_alloc w1 (.cells #[.int .i64 q.c, .int .i64 q.a, .int .i64 q.n, .slice A1 m1 m1, .slice A2 m2 m2, .slice A3 n3 c3] 26)))
    have K3 := Lib.hid (O1.out.below (bel_alloc w1 (.cells #[.int .i64 q.c, .int .i64 q.a, .int .i64 q.n, .slice A1 m1 m1, .slice A2 m2 m2, .slice A3 n3 c3] 26)) (Nat.le_refl _))
    have HG := Lib.hid hg
    clear hrk hg HA
    go_wp2_with fail
    refine HC.out.mono ?_
    rintro e w2 ⟨rfl, b2⟩
    have ret2 : Hid (w2.heap[w.heap.size]? = some (.cells #[.int .i64 0, .int .i64 0, .int .i64 0, .slice none 0 0, .slice none 0 0, .slice none 0 0] 26 (0, 0))) := Lib.hid ((b2.block w.heap.size (by rw [hz1]; omega)).trans ((heap_alloc_old w1 _ hs1).trans ret1.out))
    have box2 := Lib.hid ((b2.block w1.heap.size (by rw [hz1]; omega)).trans bxn.out)
    have bel2 : Below w.heap.size w w2 := (bel1.alloc (by omega) _).trans (b2.mono (by rw [hz1]; omega))
    have J1 := Lib.hid (K1.out.below b2)
    have J2 := Lib.hid (K2.out.below b2)
    have J3 := Lib.hid (K3.out.below b2 (Nat.le_refl _))
    clear b2 bxn HC hz1 K1 K2 K3 bel1 ret1 L1 L2 O1
    obtain ⟨⟨d10, d11, d12⟩, ⟨d13, d14, d15⟩, d16⟩ := cells6 ret2.out
    by_cases hr0 : r = 0
    · have hr' := Lib.hid hr0
      obtain rfl := hr0
      have P4 := Lib.hid (below_put6 bel2 (g := w.heap.size) (Nat.le_refl _) (.int .i64 q.c) (.int .i64 q.a) (.int .i64 q.n) (.slice A1 m1 m1) (.slice A2 m2 m2) (.slice A3 n3 c3))
      have P5 := Lib.hid (put6_heap ret2.out (.int .i64 q.c) (.int .i64 q.a) (.int .i64 q.n) (.slice A1 m1 m1) (.slice A2 m2 m2) (.slice A3 n3 c3))
      have P1 := Lib.hid (J1.out.put6 (g' := w.heap.size) (by have := HG.out; omega) (.int .i64 q.c) (.int .i64 q.a) (.int .i64 q.n) (.slice A1 m1 m1) (.slice A2 m2 m2) (.slice A3 n3 c3))
      have P2 := Lib.hid (J2.out.put6 (g' := w.heap.size) (by have := HG.out; omega) (.int .i64 q.c) (.int .i64 q.a) (.int .i64 q.n) (.slice A1 m1 m1) (.slice A2 m2 m2) (.slice A3 n3 c3))
      have P3 := Lib.hid ((J3.out.put6 (g := w.heap.size) (by omega) (.int .i64 q.c) (.int .i64 q.a) (.int .i64 q.n) (.slice A1 m1 m1) (.slice A2 m2 m2) (.slice A3 n3 c3)).mono (base' := w.heap.size) (by omega))
      obtain ⟨⟨c10, c11, c12⟩, ⟨c13, c14, c15⟩, c16⟩ := cells6 box2.out
      go_wp2
      (try simp only [Exit.inBlock, Exit.then])
      show bodyPost _ _ _ _ _ (put6 (w2) w.heap.size (.int .i64 q.c) (.int .i64 q.a) (.int .i64 q.n) (.slice A1 m1 m1) (.slice A2 m2 m2) (.slice A3 n3 c3))
      generalize put6 (w2) w.heap.size (.int .i64 q.c) (.int .i64 q.a) (.int .i64 q.n) (.slice A1 m1 m1) (.slice A2 m2 m2) (.slice A3 n3 c3) = w6 at *
      clear d10 d11 d12 d13 d14 d15 d16 c10 c11 c12 c13 c14 c15 c16
      obtain ⟨⟨d10, d11, d12⟩, ⟨d13, d14, d15⟩, d16⟩ := cells6 P5.out
      refine bodyPost_ret (v := .tuple #[.agg #[.int .i64 q.c, .int .i64 q.a, .int .i64 q.n, .slice A1 m1 m1, .slice A2 m2 m2, .slice A3 n3 c3], .int .i64 0]) (by simp [results, Try.results29, go_sem, d10, d11, d12, d13, d14, d15]) rfl ?_
      have eq1 : q' = q := by rw [← hq'.out, if_neg (by rw [hrk'.out]; simp), hr.out, if_pos rfl, ← hq.out]
      have eE1 : E' = 0 := by rw [← hE'.out, if_neg (by rw [hrk'.out]; simp), hr.out]
      rw [eq1, eE1]
      exact ⟨A1, A2, m1, m2, g1, g2, _, rfl, P1.out, P2.out, P3.out, HL.out, by have := HG.out; omega, P4.out⟩
    · have b1 : (r != 0) = true := by simpa using hr0
      have b2 : (r == 0) = false := beq_false_of_ne hr0
      have hr0' := Lib.hid hr0
      have P4 := Lib.hid (below_put6 bel2 (g := w.heap.size) (Nat.le_refl _) (.int .i64 0) (.int .i64 0) (.int .i64 0) (.slice none 0 0) (.slice none 0 0) (.slice none 0 0))
      have P5 := Lib.hid (put6_heap ret2.out (.int .i64 0) (.int .i64 0) (.int .i64 0) (.slice none 0 0) (.slice none 0 0) (.slice none 0 0))
      clear hr0
      go_wp2
      (try simp only [Exit.inBlock, Exit.then])
      show bodyPost _ _ _ _ _ (put6 (w2) w.heap.size (.int .i64 0) (.int .i64 0) (.int .i64 0) (.slice none 0 0) (.slice none 0 0) (.slice none 0 0))
      generalize put6 (w2) w.heap.size (.int .i64 0) (.int .i64 0) (.int .i64 0) (.slice none 0 0) (.slice none 0 0) (.slice none 0 0) = w6 at *
      clear d10 d11 d12 d13 d14 d15 d16
      obtain ⟨⟨d10, d11, d12⟩, ⟨d13, d14, d15⟩, d16⟩ := cells6 P5.out
      refine bodyPost_ret (v := .tuple #[.agg #[.int .i64 0, .int .i64 0, .int .i64 0, .slice none 0 0, .slice none 0 0, .slice none 0 0], .int .i64 r]) (by simp [results, Try.results29, go_sem, d10, d11, d12, d13, d14, d15]) rfl ?_
      have eq1 : q' = Req.zero := by rw [← hq'.out, if_neg (by rw [hrk'.out]; simp), hr.out, if_neg hr0'.out]
      have eE1 : E' = r := by rw [← hE'.out, if_neg (by rw [hrk'.out]; simp), hr.out]
      rw [eq1, eE1]
      exact Told.zero_ rfl P4.out

/-- Get, of any bytes. -/
theorem Get_any (A : Option Addr) (n c : Nat) (ys : List Int) (w : World) (hr : Row .u8 w w.heap.size A ys) (hn : ys.length = n) (hc : n ≤ c) (hb : n ≤ 140737488355328) :
    Calls Try.prog 29 #[.slice A n c] w (Told w (getQ ys) (getE ys)) := by
  subst hn
  rw [getQ]
  by_cases h0 : ys.length = 0
  · have e : getE ys = 1 := by rw [getE, if_pos h0]
    rw [e, if_neg (by omega), h0]
    exact Get_none A c w
  · by_cases hm : mm (nth ys 0) ≤ 0
    · have e : getE ys = 20 := by rw [getE, if_neg h0, if_pos hm]
      rw [e, if_neg (by omega)]
      exact Get_code A _ c ys w hr rfl hb (by omega) hm
    · by_cases hs : (ys.length : Int) = szOf ys
      · have e : getE ys = if rdOk ys = false then 4 else chkQ (rdQ ys) := by rw [getE, if_neg h0, if_neg hm, if_neg (by omega), if_neg (by omega)]
        have h := Get_rest A _ c ys w hr rfl hc (by omega) (by omega) hs
        rw [← e] at h
        have e2 : (if getE ys = 0 then rdQ ys else Req.zero) = (if rdOk ys = false then Req.zero else if chkQ (rdQ ys) = 0 then rdQ ys else Req.zero) := by
          rw [e]
          cases rdOk ys <;> simp
        rw [e2]
        exact h
      · have e : getE ys = if (ys.length : Int) < szOf ys then 1 else 2 := by
          rw [getE, if_neg h0, if_neg hm]
          split
          · rfl
          · rw [if_pos (by omega)]
        rw [e, if_neg (by split <;> omega)]
        exact Get_size A _ c ys w hr rfl hb (by omega) (by omega) hs
end Go.Proofs.Ytfdikjfbmfibjaa
namespace Go.Proofs.Ytfdikjfbmfibjaa
open Go.RowKit
set_option linter.unusedVariables false

def pduQ (q : Req) : List Int := pduOf q q.on.length q.set.length (q.fl.length / 3)
theorem nth_zero (x : Int) (l : List Int) : nth (x :: l) 0 = x := rfl
theorem nth_succ (x : Int) (l : List Int) (i : Nat) : nth (x :: l) (i + 1) = nth l i := by simp [nth]
theorem nth_pre (l : List Int) (k i : Nat) (h : i < k) : nth (l.take k) i = nth l i := by
  simp only [nth, List.getD_eq_getElem?_getD, List.getElem?_take_of_lt h]
theorem wbytes_one (a : Int) (l : List Int) (h : 0 ≤ a ∧ a < 65536) : wbytes (a :: l) = (a / 256) :: (a % 256) :: wbytes l := by
  rw [wbytes, be_two]
  have e1 : ((a.toNat / 256 % 256 : Nat) : Int) = a / 256 := by omega
  have e2 : ((a.toNat % 256 : Nat) : Int) = a % 256 := by omega
  rw [e1, e2]; rfl
theorem at2_one (x a : Int) (l : List Int) : at2 (x :: (a / 256) :: (a % 256) :: l) 1 = a := by
  rw [at2, nth_succ, nth_zero, nth_succ, nth_succ, nth_zero]; omega
theorem at2_three (x y z a : Int) (l : List Int) : at2 (x :: y :: z :: (a / 256) :: (a % 256) :: l) 3 = a := by
  rw [at2, nth_succ, nth_succ, nth_succ, nth_zero, nth_succ, nth_succ, nth_succ, nth_succ, nth_zero]; omega
theorem nil_of_not_lt {α : Type} {l : List α} (h : decide (0 < l.length) = false) : l = [] := by
  have : ¬ 0 < l.length := of_decide_eq_false h
  exact List.eq_nil_of_length_eq_zero (by omega)
theorem one_of_length {α : Type} {l : List α} (h : l.length = 1) : ∃ x, l = [x] := by
  match l, h with
  | [x], _ => exact ⟨x, rfl⟩
theorem flOf_pbytes (fl : List Int) (m : Nat) (hl : fl.length = 3 * m) (hok : allOk fl m = true) : mkOk (pbytes fl m) m = true ∧ flOf (pbytes fl m) m = fl := by
  have key : ∀ k, k ≤ m → ∀ r : List Int, mkOk (pbytes fl k ++ r) k = true ∧ flOf (pbytes fl k ++ r) k = fl.take (3 * k) := by
    intro k
    induction k with
    | zero => intro _ r; exact ⟨rfl, by simp [flOf]⟩
    | succ k ih =>
      intro hk r
      have hin := (inPl_iff _ _ _).1 (allOk_le hok k (by omega))
      rw [pbytes, List.append_assoc]
      obtain ⟨h1, h2⟩ := ih (by omega) (6 :: wbytes [nth fl (3 * k), nth fl (3 * k + 1), nth fl (3 * k + 2)] ++ r)
      have hpl := pbytes_length fl k
      have hT : (6 :: wbytes [nth fl (3 * k), nth fl (3 * k + 1), nth fl (3 * k + 2)] ++ r) = 6 :: (nth fl (3 * k) / 256) :: (nth fl (3 * k) % 256) :: (nth fl (3 * k + 1) / 256) :: (nth fl (3 * k + 1) % 256) :: (nth fl (3 * k + 2) / 256) :: (nth fl (3 * k + 2) % 256) :: r := by
        rw [wbytes_one _ _ (by omega), wbytes_one _ _ (by omega), wbytes_one _ _ (by omega)]; rfl
      rw [hT] at h1 h2 ⊢
      clear hT
      generalize hTT : (6 :: (nth fl (3 * k) / 256) :: (nth fl (3 * k) % 256) :: (nth fl (3 * k + 1) / 256) :: (nth fl (3 * k + 1) % 256) :: (nth fl (3 * k + 2) / 256) :: (nth fl (3 * k + 2) % 256) :: r) = T at *
      have hn : ∀ j, nth (pbytes fl k ++ T) (7 * k + j) = nth T j := by intro j; rw [← hpl, nth_right]
      have a1 : ∀ i, at2 (pbytes fl k ++ T) (7 * k + i) = at2 T i := by intro i; unfold at2; rw [hn i, Nat.add_assoc, hn (i + 1)]
      have n0 := hn 0
      rw [Nat.add_zero] at n0
      refine ⟨?_, ?_⟩
      · rw [mkOk, h1, Bool.true_and, n0, ← hTT]; rfl
      · rw [flOf, h2, take_three fl k (by omega), a1 1, a1 3, a1 5, ← hTT]
        simp only [at2, nth_succ, nth_zero]
        congr 1
        congr 1
        · omega
        · congr 1
          · omega
          · congr 1
            omega
  have := key m (Nat.le_refl _) []
  rw [List.append_nil, List.take_of_length_le (by omega)] at this
  exact this

theorem getE_ok {ys : List Int} (h0 : ys.length ≠ 0) (hm : 0 < mm (nth ys 0)) (hs : (ys.length : Int) = szOf ys) (hr : rdOk ys = true) (hk : chkQ (rdQ ys) = 0) : getE ys = 0 := by
  rw [getE, if_neg h0, if_neg (by omega), if_neg (by omega), if_neg (by omega), if_neg (by simp [hr]), hk]

set_option maxHeartbeats 1000000 in
/-- A right request is said by its PDU. -/
theorem pdu_back (q : Req) (hset : ∀ x ∈ q.set, (Lit.int .u16 x).wf = true) (h3 : q.fl.length % 3 = 0) (hk : chkQ q = 0) : getE (pduQ q) = 0 ∧ rdQ (pduQ q) = q ∧ (5 ≤ (pduQ q).length ∧ (pduQ q).length ≤ 253) := by
  obtain ⟨c, a, n, on, set, fl⟩ := q
  have hk' := hk
  simp only [chkQ] at hk
  obtain ⟨h1, h2, ha, h4, h5, h6⟩ := chk_zero hk
  simp only at hset h3
  simp only [pduQ, pduOf]
  have fin : ∀ ys : List Int, ys.length ≠ 0 → nth ys 0 = c → (ys.length : Int) = szOf ys → rdOk ys = true → rdQ ys = ⟨c, a, n, on, set, fl⟩ → (5 ≤ ys.length ∧ ys.length ≤ 253) → getE ys = 0 ∧ rdQ ys = ⟨c, a, n, on, set, fl⟩ ∧ (5 ≤ ys.length ∧ ys.length ≤ 253) := by
    intro ys g0 g1 g2 g3 g4 g5
    exact ⟨getE_ok g0 (by rw [g1]; exact h1) g2 g3 (by rw [g4]; exact hk'), g4, g5⟩
  clear hk' hk
  rcases mm_pos h1 with rfl | rfl | rfl | rfl | rfl | rfl | rfl | rfl | rfl
  iterate 4
    · have h4 : 1 ≤ n ∧ n ≤ 2000 := by simp only [many, mm] at h4; omega
      simp [stray] at h2
      obtain ⟨⟨rfl, rfl⟩, h2⟩ := h2
      obtain rfl : fl = [] := List.eq_nil_of_length_eq_zero (by omega)
      simp only [tl]
      rw [if_neg (by omega), if_neg (by omega), if_neg (by omega), if_neg (by omega), if_neg (by omega), wbytes_one _ _ ha, wbytes_one _ _ (by omega)]
      refine fin _ (by simp) rfl rfl rfl ?_ (by simp [wbytes])
      unfold rdQ
      rw [if_neg (by rw [nth_zero]; omega), if_neg (by rw [nth_zero]; omega), if_neg (by rw [nth_zero]; omega), if_neg (by rw [nth_zero]; omega), if_neg (by rw [nth_zero]; omega), at2_one, at2_three, nth_zero]
  · -- 5
    have h4 : 1 ≤ (on.length : Int) ∧ (on.length : Int) ≤ 1 := h4
    simp [stray] at h2
    obtain ⟨⟨rfl, rfl⟩, h2⟩ := h2
    obtain rfl : fl = [] := List.eq_nil_of_length_eq_zero (by omega)
    obtain ⟨b, rfl⟩ := one_of_length (l := on) (by omega)
    have hb : 0 ≤ (if b = true then (65280 : Int) else 0) ∧ (if b = true then (65280 : Int) else 0) < 65536 := by split <;> omega
    have e : tl 5 a 0 [b] [] [] [b].length ([] : List Int).length (([] : List Int).length / 3) = wbytes [a, if b = true then 65280 else 0] := rfl
    rw [e, wbytes_one _ _ ha, wbytes_one _ _ hb]
    refine fin _ (by simp) rfl rfl ?_ ?_ (by simp [wbytes])
    · unfold rdOk
      rw [if_neg (by rw [nth_zero]; omega), if_pos (nth_zero _ _), at2_three]
      cases b <;> decide
    · unfold rdQ
      rw [if_neg (by rw [nth_zero]; omega), if_pos (nth_zero _ _), at2_one, at2_three]
      cases b <;> rfl
  · -- 6
    have h4 : 1 ≤ (set.length : Int) ∧ (set.length : Int) ≤ 1 := h4
    simp [stray] at h2
    obtain ⟨⟨rfl, rfl⟩, h2⟩ := h2
    obtain rfl : fl = [] := List.eq_nil_of_length_eq_zero (by omega)
    obtain ⟨x, rfl⟩ := one_of_length (l := set) (by omega)
    have hx := wf_u16 (hset x (by simp))
    have e : tl 6 a 0 [] [x] [] ([] : List Bool).length [x].length (([] : List Int).length / 3) = wbytes [a, x] := rfl
    rw [e, wbytes_one _ _ ha, wbytes_one _ _ hx]
    refine fin _ (by simp) rfl rfl rfl ?_ (by simp [wbytes])
    unfold rdQ
    rw [if_neg (by rw [nth_zero]; omega), if_neg (by rw [nth_zero]; omega), if_pos (nth_zero _ _), at2_one, at2_three]
  · -- 15
    have h4 : 1 ≤ (on.length : Int) ∧ (on.length : Int) ≤ 1968 := h4
    simp [stray] at h2
    obtain ⟨⟨rfl, rfl⟩, h2⟩ := h2
    obtain rfl : fl = [] := List.eq_nil_of_length_eq_zero (by omega)
    have e : tl 15 a 0 on [] [] on.length ([] : List Int).length (([] : List Int).length / 3) = wbytes [a, (on.length : Int)] ++ ((need on.length : Nat) : Int) :: pk on (need on.length) := rfl
    have hne : 1 ≤ need on.length ∧ need on.length ≤ 246 := by unfold need; omega
    have hpl := pk_length on (need on.length)
    have hnn : ((on.length : Int)).toNat = on.length := by omega
    rw [e, wbytes_one _ _ ha, wbytes_one _ _ (by omega)]
    refine fin _ (by simp) rfl ?_ ?_ ?_ (by simp [wbytes, hpl]; omega)
    · unfold szOf
      rw [if_pos (by left; rfl), if_neg (by simp [wbytes])]
      show _ = 6 + ((need on.length : Nat) : Int)
      simp [wbytes, hpl]; omega
    · unfold rdOk
      rw [if_neg (by rw [nth_zero]; omega), if_neg (by rw [nth_zero]; omega), if_pos (nth_zero _ _)]
      show bitsOk (pk on (need on.length)) (at2 (15 :: (a / 256) :: (a % 256) :: ((on.length : Int) / 256) :: ((on.length : Int) % 256) :: (wbytes [] ++ ((need on.length : Nat) : Int) :: pk on (need on.length))) 3).toNat = true
      rw [at2_three, hnn, bitsOk, hpl, decide_eq_true rfl, Bool.true_and]
      cases hs : spareB (pk on (need on.length)) on.length with
      | false => rfl
      | true => exact absurd ((spareB_iff _ _).1 hs) (no_spare_pk on)
    · unfold rdQ
      rw [if_neg (by rw [nth_zero]; omega), if_neg (by rw [nth_zero]; omega), if_neg (by rw [nth_zero]; omega), if_pos (nth_zero _ _)]
      show (⟨15, at2 (15 :: (a / 256) :: (a % 256) :: ((on.length : Int) / 256) :: ((on.length : Int) % 256) :: (wbytes [] ++ ((need on.length : Nat) : Int) :: pk on (need on.length))) 1, 0, unpk (pk on (need on.length)) (at2 (15 :: (a / 256) :: (a % 256) :: ((on.length : Int) / 256) :: ((on.length : Int) % 256) :: (wbytes [] ++ ((need on.length : Nat) : Int) :: pk on (need on.length))) 3).toNat, [], []⟩ : Req) = _
      rw [at2_one, at2_three, hnn, unpk_pk]
  · -- 16
    have h4 : 1 ≤ (set.length : Int) ∧ (set.length : Int) ≤ 123 := h4
    simp [stray] at h2
    obtain ⟨⟨rfl, rfl⟩, h2⟩ := h2
    obtain rfl : fl = [] := List.eq_nil_of_length_eq_zero (by omega)
    have e : tl 16 a 0 [] set [] ([] : List Bool).length set.length (([] : List Int).length / 3) = wbytes [a, (set.length : Int)] ++ ((2 * set.length : Nat) : Int) :: wbytes set := rfl
    have hpl := wbytes_length set
    have hnn : ((set.length : Int)).toNat = set.length := by omega
    rw [e, wbytes_one _ _ ha, wbytes_one _ _ (by omega)]
    refine fin _ (by simp) rfl ?_ ?_ ?_ (by simp [wbytes, hpl]; omega)
    · unfold szOf
      rw [if_pos (by right; rfl), if_neg (by simp [wbytes])]
      show _ = 6 + ((2 * set.length : Nat) : Int)
      simp [wbytes, hpl]; omega
    · unfold rdOk
      rw [if_neg (by rw [nth_zero]; omega), if_neg (by rw [nth_zero]; omega), if_neg (by rw [nth_zero]; omega), if_pos (nth_zero _ _)]
      show decide ((wbytes set).length = 2 * (at2 (16 :: (a / 256) :: (a % 256) :: ((set.length : Int) / 256) :: ((set.length : Int) % 256) :: (wbytes [] ++ ((2 * set.length : Nat) : Int) :: wbytes set)) 3).toNat) = true
      rw [at2_three, hnn, hpl]; simp
    · unfold rdQ
      rw [if_neg (by rw [nth_zero]; omega), if_neg (by rw [nth_zero]; omega), if_neg (by rw [nth_zero]; omega), if_neg (by rw [nth_zero]; omega), if_pos (nth_zero _ _)]
      show (⟨16, at2 (16 :: (a / 256) :: (a % 256) :: ((set.length : Int) / 256) :: ((set.length : Int) % 256) :: (wbytes [] ++ ((2 * set.length : Nat) : Int) :: wbytes set)) 1, 0, [], wwords (wbytes set), []⟩ : Req) = _
      rw [at2_one, wwords_wbytes set hset]
  · -- 20
    have h4 : 1 ≤ ((fl.length / 3 : Nat) : Int) ∧ ((fl.length / 3 : Nat) : Int) ≤ 35 := h4
    simp [stray] at h2
    obtain ⟨⟨⟨rfl, rfl⟩, rfl⟩, rfl⟩ := h2
    obtain ⟨m, hm⟩ : ∃ m, fl.length = 3 * m := ⟨fl.length / 3, by omega⟩
    have hd : fl.length / 3 = m := by omega
    rw [hd] at h4 h5 ⊢
    have hok := (h5 rfl).1
    obtain ⟨k1, k2⟩ := flOf_pbytes fl m hm hok
    have hpl := pbytes_length fl m
    have e : tl 20 0 0 [] [] fl ([] : List Bool).length ([] : List Int).length m = ((7 * m : Nat) : Int) :: pbytes fl m := rfl
    rw [e]
    have hd7 : (pbytes fl m).length / 7 = m := by rw [hpl]; omega
    refine fin _ (by simp) rfl ?_ ?_ ?_ (by simp [hpl]; omega)
    · unfold szOf
      rw [if_neg (by rw [nth_zero]; omega), if_pos (nth_zero _ _), if_neg (by simp)]
      show _ = 2 + ((7 * m : Nat) : Int)
      simp [hpl]; omega
    · unfold rdOk
      rw [if_pos (nth_zero _ _)]
      show partsOk (pbytes fl m) = true
      rw [partsOk, hd7, k1, hpl, decide_eq_true (by omega)]; rfl
    · unfold rdQ
      rw [if_pos (nth_zero _ _)]
      show (⟨20, 0, 0, [], [], flOf (pbytes fl m) ((pbytes fl m).length / 7)⟩ : Req) = _
      rw [hd7, k2]

/-- What is left of parts that were read is put again. -/
theorem pbytes_flOf (ys : List Int) (hw : ∀ x ∈ ys, (Lit.int .u8 x).wf = true) (m : Nat) (hl : ys.length = 7 * m) (hok : mkOk ys m = true) : pbytes (flOf ys m) m = ys := by
  have hfl : ∀ k, k ≤ m → flOf ys k = (flOf ys m).take (3 * k) := by
    intro k hk
    have : ∀ d, flOf ys k = (flOf ys (k + d)).take (3 * k) := by
      intro d
      induction d with
      | zero => rw [Nat.add_zero, List.take_of_length_le (by rw [flOf_length]; omega)]
      | succ d ih =>
        rw [← Nat.add_assoc, flOf, List.take_append_of_le_length (by rw [flOf_length]; omega)]
        exact ih
    have h2 := this (m - k)
    rwa [show k + (m - k) = m by omega] at h2
  have hnth : ∀ k i, k < m → i < 3 → nth (flOf ys m) (3 * k + i) = at2 ys (7 * k + (1 + 2 * i)) := by
    intro k i hk hi
    rw [← nth_pre (flOf ys m) (3 * (k + 1)) (3 * k + i) (by omega), ← hfl (k + 1) (by omega), flOf]
    have hfk := flOf_length ys k
    rw [← hfk, nth_right]
    rcases (show i = 0 ∨ i = 1 ∨ i = 2 by omega) with rfl | rfl | rfl <;> rfl
  have key : ∀ k, k ≤ m → pbytes (flOf ys m) k = ys.take (7 * k) := by
    intro k
    induction k with
    | zero => intro _; rfl
    | succ k ih =>
      intro hk
      have h6 := mkOk_le hok k (by omega)
      have hb : ∀ i, i < 7 → (0 ≤ nth ys (7 * k + i) ∧ nth ys (7 * k + i) < 256) := fun i hi => wf_u8 (hw _ (nth_mem ys _ (by omega)))
      have r1 := at2_range ys hw (7 * k + 1) (by omega)
      have r3 := at2_range ys hw (7 * k + 3) (by omega)
      have r5 := at2_range ys hw (7 * k + 5) (by omega)
      have b1 := hb 1 (by omega)
      have b2 := hb 2 (by omega)
      have b3 := hb 3 (by omega)
      have b4 := hb 4 (by omega)
      have b5 := hb 5 (by omega)
      have b6 := hb 6 (by omega)
      have e0 := hnth k 0 (by omega) (by omega)
      have e1 := hnth k 1 (by omega) (by omega)
      have e2 := hnth k 2 (by omega) (by omega)
      simp only [Nat.add_zero, Nat.mul_zero, Nat.mul_one] at e0 e1 e2
      rw [pbytes, ih (by omega), e0, e1, e2, show 1 + 2 * 2 = 5 from rfl, show 1 + 2 = 3 from rfl, wbytes_one _ _ r1, wbytes_one _ _ r3, wbytes_one _ _ r5]
      rw [show 7 * (k + 1) = 7 * k + 1 + 1 + 1 + 1 + 1 + 1 + 1 by omega, take_step _ _ (by omega), take_step _ _ (by omega), take_step _ _ (by omega), take_step _ _ (by omega), take_step _ _ (by omega), take_step _ _ (by omega), take_step _ _ (by omega)]
      simp only [List.append_assoc, List.cons_append, List.nil_append]
      unfold at2
      rw [h6]
      simp only [Nat.add_assoc, Nat.reduceAdd, wbytes]
      congr 2
      congr 1
      · omega
      · congr 1
        · omega
        · congr 1
          · omega
          · congr 1
            · omega
            · congr 1
              · omega
              · congr 1
                omega
  rw [key m (Nat.le_refl _), List.take_of_length_le (by omega)]
theorem cons_of_length {α : Type} {l : List α} {n : Nat} (h : l.length = n + 1) : ∃ x t, l = x :: t ∧ t.length = n := by
  match l, h with
  | x :: t, h => exact ⟨x, t, rfl, by simpa using h⟩
theorem five_of {l : List Int} (h : l.length = 5) : ∃ x0 x1 x2 x3 x4, l = [x0, x1, x2, x3, x4] := by
  match l, h with
  | [x0, x1, x2, x3, x4], _ => exact ⟨_, _, _, _, _, rfl⟩
theorem six_of {l : List Int} (h : 6 ≤ l.length) : ∃ x0 x1 x2 x3 x4 x5 t, l = x0 :: x1 :: x2 :: x3 :: x4 :: x5 :: t := by
  match l, h with
  | x0 :: x1 :: x2 :: x3 :: x4 :: x5 :: t, _ => exact ⟨_, _, _, _, _, _, _, rfl⟩
theorem two_of {l : List Int} (h : 2 ≤ l.length) : ∃ x0 x1 t, l = x0 :: x1 :: t := by
  match l, h with
  | x0 :: x1 :: t, _ => exact ⟨_, _, _, rfl⟩
end Go.Proofs.Ytfdikjfbmfibjaa
namespace Go.Proofs.Ytfdikjfbmfibjaa
open Go.RowKit
set_option linter.unusedVariables false

theorem getE_zero {ys : List Int} (h : getE ys = 0) : ys.length ≠ 0 ∧ 0 < mm (nth ys 0) ∧ (ys.length : Int) = szOf ys ∧ rdOk ys = true ∧ chkQ (rdQ ys) = 0 := by
  unfold getE at h
  split at h
  · cases h
  split at h
  · cases h
  split at h
  · cases h
  split at h
  · cases h
  split at h
  · cases h
  rename_i h1 h2 h3 h4 h5
  exact ⟨h1, by omega, by omega, by simpa using h5, h⟩

set_option maxHeartbeats 1000000 in
theorem pdu_only (ys : List Int) (hw : ∀ x ∈ ys, (Lit.int .u8 x).wf = true) (h : getE ys = 0) : pduQ (rdQ ys) = ys := by
  obtain ⟨h0, hm, hs, hr, hk⟩ := getE_zero h
  have hb : ∀ i, i < ys.length → 0 ≤ nth ys i ∧ nth ys i < 256 := fun i hi => wf_u8 (hw _ (nth_mem ys i hi))
  have five : nth ys 0 ≠ 20 → nth ys 0 ≠ 15 → nth ys 0 ≠ 16 → ys.length = 5 := by
    intro a b c
    unfold szOf at hs
    rw [if_neg (by omega), if_neg a] at hs
    omega
  rcases mm_pos hm with hc | hc | hc | hc | hc | hc | hc | hc | hc
  iterate 4
    · obtain ⟨x0, x1, x2, x3, x4, rfl⟩ := five_of (five (by omega) (by omega) (by omega))
      rw [nth_zero] at hc
      have b1 := hb 1 (by simp)
      have b2 := hb 2 (by simp)
      have b3 := hb 3 (by simp)
      have b4 := hb 4 (by simp)
      simp only [nth_succ, nth_zero] at b1 b2 b3 b4
      have e : rdQ [x0, x1, x2, x3, x4] = ⟨x0, x1 * 256 + x2, x3 * 256 + x4, [], [], []⟩ := by
        unfold rdQ
        rw [if_neg (by rw [nth_zero]; omega), if_neg (by rw [nth_zero]; omega), if_neg (by rw [nth_zero]; omega), if_neg (by rw [nth_zero]; omega), if_neg (by rw [nth_zero]; omega)]
        rfl
      rw [e]
      show x0 :: tl x0 (x1 * 256 + x2) (x3 * 256 + x4) [] [] [] ([] : List Bool).length ([] : List Int).length (([] : List Int).length / 3) = _
      unfold tl
      rw [if_neg (by omega), if_neg (by omega), if_neg (by omega), if_neg (by omega), if_neg (by omega), wbytes_one _ _ (by omega), wbytes_one _ _ (by omega)]
      congr 1
      congr 1
      · omega
      · congr 1
        · omega
        · congr 1
          · omega
          · congr 1
            omega
  · -- 5
    obtain ⟨x0, x1, x2, x3, x4, rfl⟩ := five_of (five (by omega) (by omega) (by omega))
    rw [nth_zero] at hc
    subst hc
    have b1 := hb 1 (by simp)
    have b2 := hb 2 (by simp)
    have b3 := hb 3 (by simp)
    have b4 := hb 4 (by simp)
    simp only [nth_succ, nth_zero] at b1 b2 b3 b4
    have ea : at2 [5, x1, x2, x3, x4] 3 = x3 * 256 + x4 := rfl
    unfold rdOk at hr
    rw [if_neg (by rw [nth_zero]; omega), if_pos (nth_zero _ _), ea, decide_eq_true_eq] at hr
    have e : rdQ [5, x1, x2, x3, x4] = ⟨5, x1 * 256 + x2, 0, coilL (x3 * 256 + x4), [], []⟩ := by
      unfold rdQ
      rw [if_neg (by rw [nth_zero]; omega), if_pos (nth_zero _ _)]
      rfl
    rw [e]
    have e2 : ∀ on : List Bool, pduQ ⟨5, x1 * 256 + x2, 0, on, [], []⟩ = 5 :: wbytes [x1 * 256 + x2, if L.nth on 0 = true then 65280 else 0] := fun _ => rfl
    rw [e2, wbytes_one _ _ (by omega), wbytes_one _ _ (by split <;> omega)]
    rcases hr with hr | hr
    · have e3 : (if L.nth (coilL (x3 * 256 + x4)) 0 = true then (65280 : Int) else 0) = 65280 := by rw [hr]; rfl
      rw [e3]
      congr 1
      congr 1
      · omega
      · congr 1
        · omega
        · congr 1
          · omega
          · congr 1
            omega
    · have e3 : (if L.nth (coilL (x3 * 256 + x4)) 0 = true then (65280 : Int) else 0) = 0 := by rw [hr]; rfl
      rw [e3]
      congr 1
      congr 1
      · omega
      · congr 1
        · omega
        · congr 1
          · omega
          · congr 1
            omega
  · -- 6
    obtain ⟨x0, x1, x2, x3, x4, rfl⟩ := five_of (five (by omega) (by omega) (by omega))
    rw [nth_zero] at hc
    subst hc
    have b1 := hb 1 (by simp)
    have b2 := hb 2 (by simp)
    have b3 := hb 3 (by simp)
    have b4 := hb 4 (by simp)
    simp only [nth_succ, nth_zero] at b1 b2 b3 b4
    have e : rdQ [6, x1, x2, x3, x4] = ⟨6, x1 * 256 + x2, 0, [], [x3 * 256 + x4], []⟩ := by
      unfold rdQ
      rw [if_neg (by rw [nth_zero]; omega), if_neg (by rw [nth_zero]; omega), if_pos (nth_zero _ _)]
      rfl
    rw [e]
    have e2 : ∀ x : Int, pduQ ⟨6, x1 * 256 + x2, 0, [], [x], []⟩ = 6 :: wbytes [x1 * 256 + x2, x] := fun _ => rfl
    rw [e2, wbytes_one _ _ (by omega), wbytes_one _ _ (by omega)]
    congr 1
    congr 1
    · omega
    · congr 1
      · omega
      · congr 1
        · omega
        · congr 1
          omega
  · -- 15
    have hlen : 6 ≤ ys.length := by
      unfold szOf at hs
      rw [if_pos (.inl hc)] at hs
      split at hs <;> omega
    obtain ⟨x0, x1, x2, x3, x4, x5, t, rfl⟩ := six_of hlen
    rw [nth_zero] at hc
    subst hc
    have b1 := hb 1 (by simp)
    have b2 := hb 2 (by simp)
    have b3 := hb 3 (by simp)
    have b4 := hb 4 (by simp)
    have b5 := hb 5 (by simp)
    simp only [nth_succ, nth_zero] at b1 b2 b3 b4 b5
    have ht : (t.length : Int) = x5 := by
      unfold szOf at hs
      rw [if_pos (.inl (nth_zero _ _)), if_neg (by simp)] at hs
      simp only [nth_succ, nth_zero, List.length_cons] at hs
      omega
    have hwt : ∀ x ∈ t, (Lit.int .u8 x).wf = true := fun x hx => hw x (by simp [hx])
    obtain ⟨n, hn⟩ : ∃ n : Nat, x3 * 256 + x4 = n := ⟨(x3 * 256 + x4).toNat, by omega⟩
    have ea : at2 (15 :: x1 :: x2 :: x3 :: x4 :: x5 :: t) 3 = n := hn
    have e : rdQ (15 :: x1 :: x2 :: x3 :: x4 :: x5 :: t) = ⟨15, x1 * 256 + x2, 0, unpk t n, [], []⟩ := by
      unfold rdQ
      rw [if_neg (by rw [nth_zero]; omega), if_neg (by rw [nth_zero]; omega), if_neg (by rw [nth_zero]; omega), if_pos (nth_zero _ _), ea, Int.toNat_natCast]
      rfl
    unfold rdOk at hr
    rw [if_neg (by rw [nth_zero]; omega), if_neg (by rw [nth_zero]; omega), if_pos (nth_zero _ _), ea, Int.toNat_natCast] at hr
    have hr : bitsOk t n = true := hr
    simp only [bitsOk, Bool.and_eq_true, decide_eq_true_eq, Bool.not_eq_true'] at hr
    have hsp : ¬ spare t n := fun h => by rw [(spareB_iff t n).2 h] at hr; cases hr.2
    rw [e]
    have e2 : pduQ ⟨15, x1 * 256 + x2, 0, unpk t n, [], []⟩ = 15 :: (wbytes [x1 * 256 + x2, ((unpk t n).length : Int)] ++ ((need (unpk t n).length : Nat) : Int) :: pk (unpk t n) (need (unpk t n).length)) := rfl
    rw [e2, unpk_length, pk_unpk t n hwt hr.1 hsp, wbytes_one _ _ (by omega), wbytes_one _ _ (by omega)]
    show 15 :: (x1 * 256 + x2) / 256 :: (x1 * 256 + x2) % 256 :: (n : Int) / 256 :: (n : Int) % 256 :: ((need n : Nat) : Int) :: t = _
    congr 1
    congr 1
    · omega
    · congr 1
      · omega
      · congr 1
        · omega
        · congr 1
          · omega
          · congr 1
            omega
  · -- 16
    have hlen : 6 ≤ ys.length := by
      unfold szOf at hs
      rw [if_pos (.inr hc)] at hs
      split at hs <;> omega
    obtain ⟨x0, x1, x2, x3, x4, x5, t, rfl⟩ := six_of hlen
    rw [nth_zero] at hc
    subst hc
    have b1 := hb 1 (by simp)
    have b2 := hb 2 (by simp)
    have b3 := hb 3 (by simp)
    have b4 := hb 4 (by simp)
    have b5 := hb 5 (by simp)
    simp only [nth_succ, nth_zero] at b1 b2 b3 b4 b5
    have ht : (t.length : Int) = x5 := by
      unfold szOf at hs
      rw [if_pos (.inr (nth_zero _ _)), if_neg (by simp)] at hs
      simp only [nth_succ, nth_zero, List.length_cons] at hs
      omega
    have hwt : ∀ x ∈ t, (Lit.int .u8 x).wf = true := fun x hx => hw x (by simp [hx])
    obtain ⟨n, hn⟩ : ∃ n : Nat, x3 * 256 + x4 = n := ⟨(x3 * 256 + x4).toNat, by omega⟩
    have ea : at2 (16 :: x1 :: x2 :: x3 :: x4 :: x5 :: t) 3 = n := hn
    have e : rdQ (16 :: x1 :: x2 :: x3 :: x4 :: x5 :: t) = ⟨16, x1 * 256 + x2, 0, [], wwords t, []⟩ := by
      unfold rdQ
      rw [if_neg (by rw [nth_zero]; omega), if_neg (by rw [nth_zero]; omega), if_neg (by rw [nth_zero]; omega), if_neg (by rw [nth_zero]; omega), if_pos (nth_zero _ _)]
      rfl
    unfold rdOk at hr
    rw [if_neg (by rw [nth_zero]; omega), if_neg (by rw [nth_zero]; omega), if_neg (by rw [nth_zero]; omega), if_pos (nth_zero _ _), ea, Int.toNat_natCast, decide_eq_true_eq] at hr
    have hr : t.length = 2 * n := hr
    rw [e]
    have e2 : pduQ ⟨16, x1 * 256 + x2, 0, [], wwords t, []⟩ = 16 :: (wbytes [x1 * 256 + x2, ((wwords t).length : Int)] ++ ((2 * (wwords t).length : Nat) : Int) :: wbytes (wwords t)) := rfl
    have hwl : (wwords t).length = n := by rw [wwords_length]; omega
    rw [e2, hwl, wbytes_wwords t hwt (by omega), wbytes_one _ _ (by omega), wbytes_one _ _ (by omega)]
    show 16 :: (x1 * 256 + x2) / 256 :: (x1 * 256 + x2) % 256 :: (n : Int) / 256 :: (n : Int) % 256 :: ((2 * n : Nat) : Int) :: t = _
    congr 1
    congr 1
    · omega
    · congr 1
      · omega
      · congr 1
        · omega
        · congr 1
          · omega
          · congr 1
            omega
  · -- 20
    have hlen : 2 ≤ ys.length := by
      unfold szOf at hs
      rw [if_neg (by omega), if_pos hc] at hs
      split at hs <;> omega
    obtain ⟨x0, x1, t, rfl⟩ := two_of hlen
    rw [nth_zero] at hc
    subst hc
    have ht : (t.length : Int) = x1 := by
      unfold szOf at hs
      rw [if_neg (by rw [nth_zero]; omega), if_pos (nth_zero _ _), if_neg (by simp)] at hs
      simp only [nth_succ, nth_zero, List.length_cons] at hs
      omega
    have hwt : ∀ x ∈ t, (Lit.int .u8 x).wf = true := fun x hx => hw x (by simp [hx])
    have e : rdQ (20 :: x1 :: t) = ⟨20, 0, 0, [], [], flOf t (t.length / 7)⟩ := by
      unfold rdQ
      rw [if_pos (nth_zero _ _)]
      rfl
    unfold rdOk at hr
    rw [if_pos (nth_zero _ _)] at hr
    have hr : partsOk t = true := hr
    simp only [partsOk, Bool.and_eq_true, decide_eq_true_eq] at hr
    have hl3 : (flOf t (t.length / 7)).length / 3 = t.length / 7 := by rw [flOf_length]; omega
    rw [e]
    have e2 : ∀ m, (flOf t (t.length / 7)).length / 3 = m → pduQ ⟨20, 0, 0, [], [], flOf t (t.length / 7)⟩ = 20 :: ((7 * m : Nat) : Int) :: pbytes (flOf t (t.length / 7)) m := fun m hm => by subst hm; rfl
    rw [e2 _ hl3, pbytes_flOf t hwt _ (by omega) hr.2]
    congr 2
    omega

theorem szOf_take {ys : List Int} (hs : (ys.length : Int) = szOf ys) {k : Nat} (h1 : 1 ≤ k) (h2 : k < ys.length) : (k : Int) < szOf (ys.take k) := by
  have hl : (ys.take k).length = k := by simp; omega
  have h0 := nth_pre ys k 0 (by omega)
  unfold szOf at hs ⊢
  rw [h0, hl]
  split
  · rename_i hc
    rw [if_pos hc] at hs
    split
    · omega
    · rw [if_neg (by omega)] at hs
      rw [nth_pre ys k 5 (by omega)]
      omega
  · rename_i hc
    rw [if_neg hc] at hs
    split
    · rename_i h20
      rw [if_pos h20] at hs
      split
      · omega
      · rw [if_neg (by omega)] at hs
        rw [nth_pre ys k 1 (by omega)]
        omega
    · rename_i h20
      rw [if_neg h20] at hs
      omega
/-- A beginning of a PDU is too short. -/
theorem getE_take {ys : List Int} (h : getE ys = 0) (k : Nat) (hk : k < ys.length) : getE (ys.take k) = 1 := by
  obtain ⟨h0, hm, hs, hr, hc⟩ := getE_zero h
  have hl : (ys.take k).length = k := by simp; omega
  unfold getE
  rw [hl]
  split
  · rfl
  · rename_i hk0
    rw [nth_pre ys k 0 (by omega), if_neg (by omega), if_pos (szOf_take hs (by omega) hk)]
/-- A PDU with more bytes behind it is too long. -/
theorem getE_more {ys : List Int} (h : getE ys = 0) (more : List Int) (hm0 : 0 < more.length) : getE (ys ++ more) = 2 := by
  obtain ⟨h0, hm, hs, hr, hc⟩ := getE_zero h
  have hl : (ys ++ more).length = ys.length + more.length := List.length_append
  have n0 : nth (ys ++ more) 0 = nth ys 0 := nth_left _ _ _ (by omega)
  have hsz : szOf (ys ++ more) = szOf ys := by
    unfold szOf at hs ⊢
    rw [n0, hl]
    split
    · rename_i hc
      rw [if_pos hc] at hs
      split at hs
      · omega
      · rw [if_neg (by omega), if_neg (by omega), nth_left _ _ _ (by omega)]
    · rename_i hc
      rw [if_neg hc] at hs
      split
      · rename_i h20
        rw [if_pos h20] at hs
        split at hs
        · omega
        · rw [if_neg (by omega), if_neg (by omega), nth_left _ _ _ (by omega)]
      · rfl
  unfold getE
  rw [hl, n0, hsz, if_neg (by omega), if_neg (by omega), if_neg (by omega), if_pos (by omega)]
end Go.Proofs.Ytfdikjfbmfibjaa
namespace Go.Proofs.Ytfdikjfbmfibjaa
open Go.RowKit
set_option linter.unusedVariables false

/-- What Put tells: the PDU. -/
def putL (q : Req) : List Int := if chkQ q = 0 then pduQ q else []
theorem chkQ_of {w : World} {B : Nat} {q : Req} {Ao As Ap : Option Addr} {lo ls lp : Nat} (h : Asked w B q Ao As Ap lo ls lp) : chk q.c q.a q.n lo ls lp q.fl = chkQ q := by
  rw [chkQ, h.lo, h.ls, h.lp, Nat.mul_div_cancel_left lp (by omega)]
theorem pduQ_of {w : World} {B : Nat} {q : Req} {Ao As Ap : Option Addr} {lo ls lp : Nat} (h : Asked w B q Ao As Ap lo ls lp) : pduOf q lo ls lp = pduQ q := by
  rw [pduQ, h.lo, h.ls, h.lp, Nat.mul_div_cancel_left lp (by omega)]
theorem right_lengths {q : Req} (hk : chkQ q = 0) : (q.on.length ≤ 1968 ∧ q.set.length ≤ 123) ∧ q.fl.length / 3 ≤ 35 := right_many hk
theorem putL_len (q : Req) (hset : ∀ x ∈ q.set, (Lit.int .u16 x).wf = true) (h3 : q.fl.length % 3 = 0) : (putL q).length ≤ 253 := by
  unfold putL
  split
  · rename_i hk; exact (pdu_back q hset h3 hk).2.2.2
  · simp
theorem putL_wf (q : Req) : ∀ x ∈ putL q, (Lit.int .u8 x).wf = true := by
  unfold putL
  split
  · rename_i hk
    have h2 := right_lengths hk
    have hc := mm_pos (chk_zero hk).1
    intro x hx
    rw [pduQ, pduOf] at hx
    rcases List.mem_cons.1 hx with rfl | hx
    · have := wf_byte q.c.toNat (by omega)
      rwa [show ((q.c.toNat : Nat) : Int) = q.c by omega] at this
    · exact tl_wf (by unfold need; omega) x hx
  · intro x hx; cases hx
/-- Put, of any request. -/
theorem Put_any (q : Req) (Ao As Ap : Option Addr) (lo ls lp co cs cp : Nat) (w : World) (h : Asked w w.heap.size q Ao As Ap lo ls lp) :
    Calls Try.prog 110 #[.agg #[.int .i64 q.c, .int .i64 q.a, .int .i64 q.n, .slice Ao lo co, .slice As ls cs, .slice Ap lp cp]] w (GivesOwn w (putL q) (chkQ q)) := by
  by_cases hk : chkQ q = 0
  · rw [hk, putL, if_pos hk, ← pduQ_of h]
    exact (Put_ok q Ao As Ap lo ls lp co cs cp w h (by rw [chkQ_of h, hk])).mono fun e w' ⟨v, he, ho, hb⟩ => ⟨v, he, ho, hb⟩
  · have h2 := Put_no q Ao As Ap lo ls lp co cs cp w h (by rw [chkQ_of h]; exact hk)
    rw [chkQ_of h] at h2
    rw [putL, if_neg hk]
    exact h2.mono fun e w' ⟨he, hb⟩ => ⟨_, he, Own.nil _ _ _ _, hb⟩
/-- Check, of any request. -/
theorem Check_Q (q : Req) (Ao As Ap : Option Addr) (lo ls lp co cs cp : Nat) (w : World) (h : Asked w w.heap.size q Ao As Ap lo ls lp) :
    Calls Try.prog 34 #[.agg #[.int .i64 q.c, .int .i64 q.a, .int .i64 q.n, .slice Ao lo co, .slice As ls cs, .slice Ap lp cp]] w fun e w' => e = .returned (.int .i64 (chkQ q)) ∧ Below w.heap.size w w' := by
  have h2 := Check_any q Ao As Ap lo ls lp co cs cp w h
  rwa [chkQ_of h] at h2

def ex3 : Req := ⟨3, 107, 3, [], [], []⟩
def ex3L : List Int := [3, 0, 107, 0, 3]
theorem ex3_put : putL ex3 = ex3L := by decide
theorem ex3_chk : chkQ ex3 = 0 := by decide
theorem ex3_getE : getE ex3L = 0 := by decide
theorem ex3_getQ : getQ ex3L = ex3 := by
  unfold getQ
  rw [if_pos ex3_getE]
  rfl
theorem ex3_wf : ∀ x ∈ ex3L, (Lit.int .u8 x).wf = true := by decide
theorem Asked.of_nil (w : World) (B : Nat) (c a n : Int) : Asked w B ⟨c, a, n, [], [], []⟩ none none none 0 0 0 := ⟨L.Row.nil _ _ _ _, Row.nil _ _ _ _, Row.nil _ _ _ _, rfl, rfl, rfl⟩
/-- A request of the call's own, told with a number, reads as its lists. -/
theorem Told.view {w w' : World} {q : Req} {err : Int} {e : Ending} (h : Told w q err e w') (hw : (∀ x ∈ q.set, (Lit.int .u16 x).wf = true) ∧ ∀ x ∈ q.fl, (Lit.int .i64 x).wf = true) :
    ∃ (A1 A2 A3 : Option Addr) (m1 m2 n3 c3 : Nat), e = .returned (.tuple #[.agg #[.int .i64 q.c, .int .i64 q.a, .int .i64 q.n, .slice A1 m1 m1, .slice A2 m2 m2, .slice A3 n3 c3], .int .i64 err]) ∧ Asked w' w'.heap.size q A1 A2 A3 m1 m2 n3 ∧ Below w.heap.size w w' := by
  obtain ⟨A1, A2, m1, m2, g1, g2, vp, he, h1, h2, h3, hl, hg, hb⟩ := h
  obtain ⟨A3, n3, c3, rfl⟩ := h3.form
  exact ⟨A1, A2, A3, m1, m2, n3, c3, he, Told.asked h1 h2 h3 hl hw, hb⟩
/-- Get of what is refused, or of what is right, holds what it may. -/
theorem getQ_wf (ys : List Int) (hw : ∀ x ∈ ys, (Lit.int .u8 x).wf = true) : (∀ x ∈ (getQ ys).set, (Lit.int .u16 x).wf = true) ∧ ∀ x ∈ (getQ ys).fl, (Lit.int .i64 x).wf = true := by
  unfold getQ
  split
  · rename_i h
    obtain ⟨h0, hm, hs, hr, hk⟩ := getE_zero h
    exact rdQ_wf ys hw (szOf_five ys hw hs)
  · exact ⟨by simp [Req.zero], by simp [Req.zero]⟩
theorem Get_view (A : Option Addr) (n c : Nat) (ys : List Int) (w : World) (hr : Row .u8 w w.heap.size A ys) (hn : ys.length = n) (hc : n ≤ c) (hb : n ≤ 140737488355328) :
    Calls Try.prog 29 #[.slice A n c] w fun e w' => ∃ (A1 A2 A3 : Option Addr) (m1 m2 n3 c3 : Nat), e = .returned (.tuple #[.agg #[.int .i64 (getQ ys).c, .int .i64 (getQ ys).a, .int .i64 (getQ ys).n, .slice A1 m1 m1, .slice A2 m2 m2, .slice A3 n3 c3], .int .i64 (getE ys)]) ∧ Asked w' w'.heap.size (getQ ys) A1 A2 A3 m1 m2 n3 ∧ Below w.heap.size w w' :=
  (Get_any A n c ys w hr hn hc hb).mono fun e w' h => h.view (getQ_wf ys hr.1)
end Go.Proofs.Ytfdikjfbmfibjaa
namespace Go.Proofs.Ytfdikjfbmfibjaa
open Go.RowKit
set_option linter.unusedVariables false

theorem grown_of_alloc {w w' : World} {o : Obj} {row : Option Nat} (h : (w.alloc o).grownBy w' row) : w.grownBy w' row :=
  ⟨h.os, h.tape, h.output, by have := h.size; simp at this; omega, fun k hk hne => (h.block k (by simp; omega) hne).trans (heap_alloc_old w o hk)⟩
theorem refTwo_any (v : Value) (xs : List Int) (x : Int) (base : Nat) (w : World) (hown : Own .u8 5 w base v xs) (hx : 0 ≤ x ∧ x < 65536) (hl : xs.length ≤ 1000) (hb : base ≤ w.heap.size) :
    Calls Try.prog 91 #[v, .int .i64 x] w fun e w' => ∃ v', e = .returned v' ∧ Own .u8 5 w' base v' (xs ++ wbytes [x]) ∧ w.grownBy w' v.ownBlock ∧ (∀ g, v'.ownBlock = some g → v.ownBlock = some g ∨ w.heap.size ≤ g) := by
  have e1 : IntKind.u8.wrap (x / 256) = x / 256 := by rw [IntKind.wrap_u8]; omega
  have e2 : IntKind.u8.wrap (x % 256) = x % 256 := by rw [IntKind.wrap_u8]; omega
  have HW : Hid (wbytes [x] = [x / 256, x % 256]) := Lib.hid (by rw [wbytes_one _ _ hx]; rfl)
  have HR : Hid (Row .u8 (w.alloc (.cells #[.int .u8 (x / 256), .int .u8 (x % 256)] 5)) (w.heap.size + 1) (some ⟨w.heap.size, 0, none⟩) [x / 256, x % 256]) := Lib.hid (Row.lit_at .u8 w 5 [x / 256, x % 256] (by
    intro y hy
    simp only [List.mem_cons, List.not_mem_nil, or_false] at hy
    rcases hy with rfl | rfl
    · have := wf_byte (x / 256).toNat (by omega); rwa [show (((x / 256).toNat : Nat) : Int) = x / 256 by omega] at this
    · have := wf_byte (x % 256).toNat (by omega); rwa [show (((x % 256).toNat : Nat) : Int) = x % 256 by omega] at this) rfl)
  have hl' := Lib.hid hl
  rw [HW.out]
  clear hl
  obtain ⟨Av, nv, cv, rfl⟩ : ∃ Av nv cv, v = .slice Av nv cv := by
    rcases hown.2 with ⟨rfl, _⟩ | ⟨g, cap, cur, rfl, _⟩
    · exact ⟨_, _, _, rfl⟩
    · exact ⟨_, _, _, rfl⟩
  go_enter Try.func91, Try.ntmps91
  go_wp2_with (at_builtin; refine wpList_append_row2 _ rfl (.tmp 5) (.tmp 12) 36 rfl base .u8 5 1 Try.underlying36 info_u8 (.slice Av nv cv) xs rfl (hown.alloc _) _ _ 2 2 _ rfl HR.out rfl (by have := hl'.out; omega) (by have := hl'.out; simp only [maxLen]; omega) (by simp; omega) ?_; intro v1 w1 hown1 hg1 hat1)
  go_ret
  exact ⟨_, rfl, hown1, grown_of_alloc hg1, fun g hg => by
    rcases hat1 with h | h
    · exact .inl (h.symm.trans hg)
    · have h2 := hg.symm.trans h
      injection h2 with h2
      simp at h2
      exact .inr (by omega)⟩

theorem shl_pow (r : Nat) (h : r < 8) : (2 : Nat) ^ r < 256 := Nat.lt_of_le_of_lt (Nat.pow_le_pow_right (n := 2) (by omega) (show r ≤ 7 by omega)) (by omega)
set_option maxHeartbeats 2000000 in
set_option maxRecDepth 100000 in
theorem Packed_any (A : Option Addr) (n c : Nat) (bs : List Bool) (w : World) (hr : L.Row () w w.heap.size A bs) (hn : bs.length = n) (hb : n ≤ 100000) :
    Calls Try.prog 92 #[.slice A n c] w (Lays .u8 5 w (pk bs (need n)) (need n)) := by
  have hn' := Lib.hid hn
  clear hn
  have hne : need n ≤ 1000000 := by unfold need; omega
  have hne2 := Lib.hid (show ∀ k, k < n → k / 8 < need n by unfold need; omega)
  have em : ((n : Int) + 7) / 8 = ((need n : Nat) : Int) := by unfold need; omega
  obtain ⟨m, hm⟩ : ∃ m, Hid (need n = m) := ⟨_, Lib.hid rfl⟩
  rw [hm.out] at hne hne2 em ⊢
  have hmk := make_u8 m (by omega)
  have hz : List.replicate m (0 : Int) = pk (bs.take 0) m := by
    refine ext_nth _ _ (by rw [pk_length, List.length_replicate]) fun j hj => ?_
    rw [List.length_replicate] at hj
    rw [nth_replicate _ _ _ hj, pk_nth _ _ _ hj, bsum_stop _ _ 0 8 (by omega) (fun r _ => nth_take_off _ _ _ (by omega))]
    rfl
  rw [hz] at hmk
  clear hz
  have hg0 := Lib.hid (heap_alloc_new w (.cells (blk .u8 (pk (bs.take 0) m)) 5))
  have bel0 : Below w.heap.size w (w.alloc (.cells (blk .u8 (pk (bs.take 0) m)) 5)) := bel_alloc w _
  have hs0 : w.heap.size < (w.alloc (.cells (blk .u8 (pk (bs.take 0) m)) 5)).heap.size := by simp
  go_enter Try.func92, Try.ntmps92
  go_wp2
  go_loopw [4] (fun i wr => ∃ k : Nat, k ≤ n ∧ i = .int .i64 k ∧ Hid (wr.heap[w.heap.size]? = some (.cells (blk .u8 (pk (bs.take k) m)) 5 (0, 0))) ∧ Below w.heap.size w wr ∧ w.heap.size < wr.heap.size) (fun i _ => n - (intOf i).toNat)
  case atStart => exact ⟨0, by omega, rfl, hg0, bel0, hs0⟩
  case round =>
    clear bel0 hs0 hg0 hmk em
    obtain ⟨k, hk, rfl, hg, bel, hs⟩ := hrel
    by_cases hlt : k < n
    · obtain ⟨b, o, rfl, hb1, hc1⟩ := (hr.below bel).at_ (i := k) (by have := hn'.out; omega)
      obtain ⟨v, hv⟩ : ∃ v, Hid (L.nth bs k = v) := ⟨_, Lib.hid rfl⟩
      rw [hv.out] at hc1
      cases v with
      | false =>
        have hg1 := hg
        rw [← pk_off bs k m hv.out] at hg1
        go_wp2
        go_roundw
        case rel => exact ⟨k + 1, by omega, by go_num, hg1, bel, hs⟩
        case measure => simp [intOf]; omega
      | true =>
        have hk8 := hne2.out k hlt
        have hlow := pk_low bs k
        have hc2 : wr.cell? ⟨w.heap.size, k / 8, none⟩ = some (.int .u8 ((bsum (bs.take k) (k / 8) 8 : Nat) : Int)) := by
          rw [cell_of_row wr w.heap.size (k / 8) _ _ _ hg.out, blk_get _ _ _ (by rw [pk_length]; exact hk8), pk_nth _ _ _ hk8]
        have hfz := block_frozen wr w.heap.size (k / 8) _ _ hg.out
        have hnew := Lib.hid (block_setCell wr w.heap.size (k / 8) .u8 5 _ ((bsum (bs.take k) (k / 8) 8 + 2 ^ (k % 8) : Nat) : Int) hg.out)
        rw [pk_on bs k m hk8 hv.out] at hnew
        have bel2 : Below w.heap.size w (wr.setCell ⟨w.heap.size, k / 8, none⟩ (.int .u8 ((bsum (bs.take k) (k / 8) 8 + 2 ^ (k % 8) : Nat) : Int))) := bel.setCell (Nat.le_refl _) _
        have hs2 : w.heap.size < (wr.setCell ⟨w.heap.size, k / 8, none⟩ (.int .u8 ((bsum (bs.take k) (k / 8) 8 + 2 ^ (k % 8) : Nat) : Int))).heap.size := by simpa [World.setCell] using hs
        generalize bsum (bs.take k) (k / 8) 8 = a at *
        obtain ⟨j, hj⟩ : ∃ j, k / 8 = j := ⟨_, rfl⟩
        obtain ⟨r, hr8⟩ : ∃ r, k % 8 = r := ⟨_, rfl⟩
        have er : (k : Int) % 8 = (r : Int) := by omega
        have hr9 : r < 8 := by omega
        have e1 : (k : Int) / 8 = (j : Int) := by omega
        have e2 : (j : Int) < (m : Int) := by omega
        rw [hr8] at hlow hnew bel2 hs2
        rw [hj] at hc2 hfz hnew bel2 hs2 hk8
        clear hj hr8 hg
        obtain rfl | rfl | rfl | rfl | rfl | rfl | rfl | rfl : r = 0 ∨ r = 1 ∨ r = 2 ∨ r = 3 ∨ r = 4 ∨ r = 5 ∨ r = 6 ∨ r = 7 := by omega
        iterate 8
          · simp only [Nat.reducePow] at hlow hnew bel2 hs2
            push_cast at hnew bel2 hs2
            go_wp2
            go_roundw
            case rel => exact ⟨k + 1, by omega, by go_num, hnew, bel2, hs2⟩
            case measure => simp [intOf]; omega
    · obtain rfl : k = n := by omega
      have hx : bs.take k = bs := List.take_of_length_le (by have := hn'.out; omega)
      rw [hx] at hg
      clear hx
      go_wp2
      go_ret
      exact ⟨rfl, hg.out, bel⟩
end Go.Proofs.Ytfdikjfbmfibjaa
namespace Go.Proofs.Ytfdikjfbmfibjaa
open Go.RowKit
set_option linter.unusedVariables false
theorem wbytes_cons (a : Int) (l : List Int) : wbytes (a :: l) = wbytes [a] ++ wbytes l := by simp [wbytes]
theorem Bx.old {w0 w : World} {g : Nat} {o : Obj} (h : Bx w0 g o w) {b i : Nat} {v : Value} (hb : b < g) (hc : w0.cell? ⟨b, i, none⟩ = some v) : w.cell? ⟨b, i, none⟩ = some v := (h.2.cell (p := ⟨b, i, none⟩) hb).trans hc

set_option maxHeartbeats 1000000 in
set_option maxRecDepth 100000 in
theorem refPut_plain (c a n : Int) (on : List Bool) (set fl : List Int) (Ao As Ap : Option Addr) (lo ls lp co cs cp : Nat) (w : World) (h : Asked w w.heap.size ⟨c, a, n, on, set, fl⟩ Ao As Ap lo ls lp) (hk : chkQ ⟨c, a, n, on, set, fl⟩ = 0) (hc : c = 1 ∨ c = 2 ∨ c = 3 ∨ c = 4) :
    Calls Try.prog 51 #[.agg #[.int .i64 c, .int .i64 a, .int .i64 n, .slice Ao lo co, .slice As ls cs, .slice Ap lp cp]] w (Makes2 w (pduQ ⟨c, a, n, on, set, fl⟩)) := by
  obtain ⟨hmm, hst, ha, hmany, hparts, hend⟩ := chk_zero hk
  simp only at hmm hst ha hmany hparts hend
  skip
  have H0 := Lib.hid h
  have hx0 := Bx.new w (.cells #[.int .i64 c, .int .i64 a, .int .i64 n, .slice Ao lo co, .slice As ls cs, .slice Ap lp cp] 26)
  have HC := Lib.hid (refCheck_any ⟨c, a, n, on, set, fl⟩ Ao As Ap lo ls lp co cs cp _ (h.upAlloc (.cells #[.int .i64 c, .int .i64 a, .int .i64 n, .slice Ao lo co, .slice As ls cs, .slice Ap lp cp] 26)))
  rw [chkQ_of h, hk] at HC
  have hn : 1 ≤ n ∧ n ≤ 2000 := by rcases hc with rfl | rfl | rfl | rfl <;> simp only [many, mm] at hmany <;> omega
  have HL : Hid (pduQ ⟨c, a, n, on, set, fl⟩ = ([c] ++ wbytes [a]) ++ wbytes [n]) := Lib.hid (by
    show c :: tl c a n on set fl on.length set.length (fl.length / 3) = _
    unfold tl
    rw [if_neg (by omega), if_neg (by omega), if_neg (by omega), if_neg (by omega), if_neg (by omega), wbytes_cons a [n]]; rfl)
  have e1 : IntKind.u8.wrap c = c := by rw [IntKind.wrap_u8]; omega
  have t5 : (c == 5) = false := beq_false_of_ne (by omega)
  have t6 : (c == 6) = false := beq_false_of_ne (by omega)
  have t15 : (c == 15) = false := beq_false_of_ne (by omega)
  have t16 : (c == 16) = false := beq_false_of_ne (by omega)
  have t20 : (c == 20) = false := beq_false_of_ne (by omega)
  rw [HL.out]
  clear hc
  clear h hk hst hmany hparts hend hmm
  go_enter Try.func51, Try.ntmps51
  go_wp2_with fail
  refine HC.out.mono ?_
  rintro e w1 ⟨rfl, b1⟩
  have h9 := hx0.below b1
  have hz1 := h9.lt
  clear b1 hx0 HC
  obtain ⟨d0, d1, d2, d3, d4, d5⟩ := h9.six
  go_wp2_with fail
  clear d0 d1 d2 d3 d4 d5
  refine (refTwo_any _ [c] a (w.heap.size + 1) _ (by exact Own.laid (l := [c]) (heap_alloc_new w1 _) hz1 rfl (by simp [maxLen])) ha (by simp) (by simp; omega)).mono ?_
  rintro e w2 ⟨v2, rfl, own2, g2, _⟩
  have h10 := (h9.alloc (.cells #[.int .u8 c] 5)).grown g2 (by simp [Value.ownBlock]; omega)
  have hz2 := h10.lt
  clear g2 h9
  obtain ⟨d0, d1, d2, d3, d4, d5⟩ := h10.six
  go_wp2_with fail
  clear d0 d1 d2 d3 d4 d5
  refine (refTwo_any v2 ([c] ++ wbytes [a]) n (w.heap.size + 1) _ own2 (by omega) (by rw [List.length_append, wbytes_length]; simp) (by omega)).mono ?_
  rintro e w3 ⟨v3, rfl, own3, g3, _⟩
  have h11 := h10.grown g3 (fun k e => by have := (own2.block k e).1; omega)
  go_wp2
  go_ret2
  exact ⟨_, rfl, own3.mono (by omega), h11.2⟩

set_option maxHeartbeats 1000000 in
set_option maxRecDepth 100000 in
theorem refPut_coil (c a n : Int) (on : List Bool) (set fl : List Int) (Ao As Ap : Option Addr) (lo ls lp co cs cp : Nat) (w : World) (h : Asked w w.heap.size ⟨c, a, n, on, set, fl⟩ Ao As Ap lo ls lp) (hk : chkQ ⟨c, a, n, on, set, fl⟩ = 0) (hc : c = 5) :
    Calls Try.prog 51 #[.agg #[.int .i64 c, .int .i64 a, .int .i64 n, .slice Ao lo co, .slice As ls cs, .slice Ap lp cp]] w (Makes2 w (pduQ ⟨c, a, n, on, set, fl⟩)) := by
  obtain ⟨hmm, hst, ha, hmany, hparts, hend⟩ := chk_zero hk
  simp only at hmm hst ha hmany hparts hend
  subst hc
  have H0 := Lib.hid h
  have hx0 := Bx.new w (.cells #[.int .i64 5, .int .i64 a, .int .i64 n, .slice Ao lo co, .slice As ls cs, .slice Ap lp cp] 26)
  have HC := Lib.hid (refCheck_any ⟨5, a, n, on, set, fl⟩ Ao As Ap lo ls lp co cs cp _ (h.upAlloc (.cells #[.int .i64 5, .int .i64 a, .int .i64 n, .slice Ao lo co, .slice As ls cs, .slice Ap lp cp] 26)))
  rw [chkQ_of h, hk] at HC
  have hl : lo = 1 := by have h1 := H0.out.lo; have h2 : 1 ≤ (on.length : Int) ∧ (on.length : Int) ≤ 1 := hmany; simp only at h1; omega
  have HL : Hid (pduQ ⟨5, a, n, on, set, fl⟩ = ([5] ++ wbytes [a]) ++ wbytes [if L.nth on 0 = true then 65280 else 0]) := Lib.hid (by
    have e : pduQ ⟨5, a, n, on, set, fl⟩ = 5 :: wbytes [a, if L.nth on 0 = true then 65280 else 0] := rfl
    rw [e, wbytes_cons a]; rfl)
  have hlt : (0 : Int) < (lo : Int) := by omega
  have hl0 : 0 < lo := by omega
  have hlo : lo ≤ 1 := by omega
  obtain ⟨b, o, hAd, hb1, hcell⟩ := h.on.at_ (i := 0) (by have := H0.out.lo; simp only at this ⊢; omega)
  rw [Nat.add_zero] at hcell
  have HAd := Lib.hid hAd
  have HCell := Lib.hid hcell
  obtain ⟨vv, hvv⟩ : ∃ vv : Int, Hid ((if L.nth on 0 = true then 65280 else 0) = vv) := ⟨_, Lib.hid rfl⟩
  rw [HL.out, hvv.out]
  simp only at HCell
  clear HL
  generalize L.nth on 0 = bit at *
  clear hcell hAd hl
  clear h hk hst hmany hparts hend hmm
  go_enter Try.func51, Try.ntmps51
  go_wp2_with fail
  refine HC.out.mono ?_
  rintro e w1 ⟨rfl, b1⟩
  have h9 := hx0.below b1
  have hz1 := h9.lt
  clear b1 hx0 HC
  obtain ⟨d0, d1, d2, d3, d4, d5⟩ := h9.six
  go_wp2_with fail
  clear d0 d1 d2 d3 d4 d5
  refine (refTwo_any _ [5] a (w.heap.size + 1) _ (by exact Own.laid (l := [5]) (heap_alloc_new w1 _) hz1 rfl (by simp [maxLen])) ha (by simp) (by simp; omega)).mono ?_
  rintro e w2 ⟨v2, rfl, own2, g2, _⟩
  have h10 := (h9.alloc (.cells #[.int .u8 5] 5)).grown g2 (by simp [Value.ownBlock]; omega)
  have hz2 := h10.lt
  clear g2 h9
  obtain ⟨d0, d1, d2, d3, d4, d5⟩ := h10.six
  have hcw : w2.cell? ⟨b, o, none⟩ = some (.bool bit) := h10.old hb1 HCell.out
  obtain rfl := HAd.out
  cases bit
  · obtain rfl : vv = 0 := hvv.out.symm
    go_wp2_with fail
    clear d0 d1 d2 d3 d4 d5
    refine (refTwo_any v2 ([5] ++ wbytes [a]) 0 (w.heap.size + 1) _ own2 (by omega) (by rw [List.length_append, wbytes_length]; simp) (by omega)).mono ?_
    rintro e w3 ⟨v3, rfl, own3, g3, _⟩
    have h11 := h10.grown g3 (fun k e => by have := (own2.block k e).1; omega)
    go_wp2
    go_ret2
    exact ⟨_, rfl, own3.mono (by omega), h11.2⟩
  · obtain rfl : vv = 65280 := hvv.out.symm
    go_wp2_with fail
    clear d0 d1 d2 d3 d4 d5
    refine (refTwo_any v2 ([5] ++ wbytes [a]) 65280 (w.heap.size + 1) _ own2 (by omega) (by rw [List.length_append, wbytes_length]; simp) (by omega)).mono ?_
    rintro e w3 ⟨v3, rfl, own3, g3, _⟩
    have h11 := h10.grown g3 (fun k e => by have := (own2.block k e).1; omega)
    go_wp2
    go_ret2
    exact ⟨_, rfl, own3.mono (by omega), h11.2⟩

set_option maxHeartbeats 1000000 in
set_option maxRecDepth 100000 in
theorem refPut_reg (c a n : Int) (on : List Bool) (set fl : List Int) (Ao As Ap : Option Addr) (lo ls lp co cs cp : Nat) (w : World) (h : Asked w w.heap.size ⟨c, a, n, on, set, fl⟩ Ao As Ap lo ls lp) (hk : chkQ ⟨c, a, n, on, set, fl⟩ = 0) (hc : c = 6) :
    Calls Try.prog 51 #[.agg #[.int .i64 c, .int .i64 a, .int .i64 n, .slice Ao lo co, .slice As ls cs, .slice Ap lp cp]] w (Makes2 w (pduQ ⟨c, a, n, on, set, fl⟩)) := by
  obtain ⟨hmm, hst, ha, hmany, hparts, hend⟩ := chk_zero hk
  simp only at hmm hst ha hmany hparts hend
  subst hc
  have H0 := Lib.hid h
  have hx0 := Bx.new w (.cells #[.int .i64 6, .int .i64 a, .int .i64 n, .slice Ao lo co, .slice As ls cs, .slice Ap lp cp] 26)
  have HC := Lib.hid (refCheck_any ⟨6, a, n, on, set, fl⟩ Ao As Ap lo ls lp co cs cp _ (h.upAlloc (.cells #[.int .i64 6, .int .i64 a, .int .i64 n, .slice Ao lo co, .slice As ls cs, .slice Ap lp cp] 26)))
  rw [chkQ_of h, hk] at HC
  have hl : ls = 1 := by have h1 := H0.out.ls; have h2 : 1 ≤ (set.length : Int) ∧ (set.length : Int) ≤ 1 := hmany; simp only at h1; omega
  have HL : Hid (pduQ ⟨6, a, n, on, set, fl⟩ = ([6] ++ wbytes [a]) ++ wbytes [nth set 0]) := Lib.hid (by
    have e : pduQ ⟨6, a, n, on, set, fl⟩ = 6 :: wbytes [a, nth set 0] := rfl
    rw [e, wbytes_cons a]; rfl)
  have hlt : (0 : Int) < (ls : Int) := by omega
  have hl0 : 0 < ls := by omega
  have hlo : ls ≤ 1 := by omega
  obtain ⟨b, o, hAd, hb1, hcell⟩ := h.set.at_ (i := 0) (by have := H0.out.ls; simp only at this ⊢; omega)
  have hvb := wf_u16 (h.set.wf_at (i := 0) (by have := H0.out.ls; simp only at this ⊢; omega))
  rw [Nat.add_zero] at hcell
  have HAd := Lib.hid hAd
  have HCell := Lib.hid hcell
  rw [HL.out]
  simp only at HCell hvb
  generalize nth set 0 = v at *
  have e0 : IntKind.i64.wrap v = v := IntWalk.i64_in _ (by omega)
  clear hcell hAd hl
  clear h hk hst hmany hparts hend hmm
  go_enter Try.func51, Try.ntmps51
  go_wp2_with fail
  refine HC.out.mono ?_
  rintro e w1 ⟨rfl, b1⟩
  have h9 := hx0.below b1
  have hz1 := h9.lt
  clear b1 hx0 HC
  obtain ⟨d0, d1, d2, d3, d4, d5⟩ := h9.six
  go_wp2_with fail
  clear d0 d1 d2 d3 d4 d5
  refine (refTwo_any _ [6] a (w.heap.size + 1) _ (by exact Own.laid (l := [6]) (heap_alloc_new w1 _) hz1 rfl (by simp [maxLen])) ha (by simp) (by simp; omega)).mono ?_
  rintro e w2 ⟨v2, rfl, own2, g2, _⟩
  have h10 := (h9.alloc (.cells #[.int .u8 6] 5)).grown g2 (by simp [Value.ownBlock]; omega)
  have hz2 := h10.lt
  clear g2 h9
  obtain ⟨d0, d1, d2, d3, d4, d5⟩ := h10.six
  have hcw : w2.cell? ⟨b, o, none⟩ = some (.int .u16 v) := h10.old hb1 HCell.out
  obtain rfl := HAd.out
  go_wp2_with fail
  clear d0 d1 d2 d3 d4 d5
  refine (refTwo_any v2 ([6] ++ wbytes [a]) v (w.heap.size + 1) _ own2 hvb (by rw [List.length_append, wbytes_length]; simp) (by omega)).mono ?_
  rintro e w3 ⟨v3, rfl, own3, g3, _⟩
  have h11 := h10.grown g3 (fun k e => by have := (own2.block k e).1; omega)
  go_wp2
  go_ret2
  exact ⟨_, rfl, own3.mono (by omega), h11.2⟩
end Go.Proofs.Ytfdikjfbmfibjaa
namespace Go.Proofs.Ytfdikjfbmfibjaa
open Go.RowKit
set_option linter.unusedVariables false

set_option maxHeartbeats 1000000 in
set_option maxRecDepth 100000 in
theorem refPut_bits (c a n : Int) (on : List Bool) (set fl : List Int) (Ao As Ap : Option Addr) (lo ls lp co cs cp : Nat) (w : World) (h : Asked w w.heap.size ⟨c, a, n, on, set, fl⟩ Ao As Ap lo ls lp) (hk : chkQ ⟨c, a, n, on, set, fl⟩ = 0) (hc : c = 15) :
    Calls Try.prog 51 #[.agg #[.int .i64 c, .int .i64 a, .int .i64 n, .slice Ao lo co, .slice As ls cs, .slice Ap lp cp]] w (Makes2 w (pduQ ⟨c, a, n, on, set, fl⟩)) := by
  obtain ⟨hmm, hst, ha, hmany, hparts, hend⟩ := chk_zero hk
  simp only at hmm hst ha hmany hparts hend
  subst hc
  have H0 := Lib.hid h
  have hx0 := Bx.new w (.cells #[.int .i64 15, .int .i64 a, .int .i64 n, .slice Ao lo co, .slice As ls cs, .slice Ap lp cp] 26)
  have HC := Lib.hid (refCheck_any ⟨15, a, n, on, set, fl⟩ Ao As Ap lo ls lp co cs cp _ (h.upAlloc (.cells #[.int .i64 15, .int .i64 a, .int .i64 n, .slice Ao lo co, .slice As ls cs, .slice Ap lp cp] 26)))
  rw [chkQ_of h, hk] at HC
  have hl : lo ≤ 1968 := by have h1 := H0.out.lo; have h2 : 1 ≤ (on.length : Int) ∧ (on.length : Int) ≤ 1968 := hmany; simp only at h1; omega
  have hd2 : need lo ≤ 246 := by unfold need; omega
  obtain ⟨d, hd⟩ : ∃ d, Hid (need lo = d) := ⟨_, Lib.hid rfl⟩
  have HL : Hid (pduQ ⟨15, a, n, on, set, fl⟩ = (([15] ++ wbytes [a]) ++ wbytes [(lo : Int)] ++ [(d : Int)]) ++ pk on d) := Lib.hid (by
    have e : pduQ ⟨15, a, n, on, set, fl⟩ = 15 :: (wbytes [a, (on.length : Int)] ++ ((need on.length : Nat) : Int) :: pk on (need on.length)) := rfl
    have h1 := H0.out.lo
    simp only at h1
    rw [e, h1, hd.out, wbytes_cons a]; simp)
  have HD : Hid (pk on (need lo) = pk on d) := Lib.hid (by rw [hd.out])
  rw [hd.out] at hd2
  have hwf := Lib.hid (pk_wf on d)
  have hpl := Lib.hid (pk_length on d)
  have e1 : IntKind.u8.wrap (d : Int) = (d : Int) := by rw [IntKind.wrap_u8]; omega
  rw [HL.out]
  clear h hk hst hmany hparts hend hmm
  go_enter Try.func51, Try.ntmps51
  go_wp2_with fail
  refine HC.out.mono ?_
  rintro e w1 ⟨rfl, b1⟩
  have h9 := hx0.below b1
  have hz1 := h9.lt
  clear b1 hx0 HC
  obtain ⟨d0, d1, d2, d3, d4, d5⟩ := h9.six
  go_wp2_with fail
  clear d0 d1 d2 d3 d4 d5
  refine (refTwo_any _ [15] a (w.heap.size + 1) _ (by exact Own.laid (l := [15]) (heap_alloc_new w1 _) hz1 rfl (by simp [maxLen])) ha (by simp) (by simp; omega)).mono ?_
  rintro e w2 ⟨v2, rfl, own2, g2, _⟩
  have h10 := (h9.alloc (.cells #[.int .u8 15] 5)).grown g2 (by simp [Value.ownBlock]; omega)
  have hz2 := h10.lt
  clear g2 h9
  obtain ⟨d0, d1, d2, d3, d4, d5⟩ := h10.six
  go_wp2_with fail
  clear d0 d1 d2 d3 d4 d5
  have hP := Packed_any Ao lo co on w2 ((H0.out.on.below h10.2).more (Nat.le_of_lt hz2)) H0.out.lo (by omega)
  rw [HD.out, hd.out] at hP
  refine hP.mono ?_
  rintro e w3 ⟨rfl, g3, b3⟩
  have own3 := own2.below b3 (Nat.le_refl _)
  have ob2 := Lib.hid own2.block
  have h11 := h10.below b3
  have hz3 := b3.size
  have hlt3 := block_lt g3
  have G3 := Lib.hid g3
  clear hP own2 h10 b3 g3
  obtain ⟨d0, d1, d2, d3, d4, d5⟩ := h11.six
  go_wp2_with fail
  clear d0 d1 d2 d3 d4 d5
  refine (refTwo_any v2 ([15] ++ wbytes [a]) (lo : Int) (w.heap.size + 1) _ own3 (by omega) (by rw [List.length_append, wbytes_length]; simp) (by omega)).mono ?_
  rintro e w4 ⟨v4, rfl, own4, g4, at4⟩
  have h12 := h11.grown g4 (fun k e => by have := (own3.block k e).1; omega)
  have G4 := Lib.hid ((g4.block w2.heap.size hlt3 (fun e => by have := (ob2.out _ e.symm).2; omega)).trans G3.out)
  have hv4 := Lib.hid (fun (g : Nat) (hg : v4.ownBlock = some g) => show g ≠ w2.heap.size from by
    rcases at4 g hg with h | h
    · have := (ob2.out _ h).2; omega
    · omega)
  have hz4 := h12.lt
  have hlt4 : w2.heap.size < w4.heap.size := block_lt G4.out
  have L4 : Hid (([15] ++ wbytes [a] ++ wbytes [(lo : Int)]).length = 5) := Lib.hid (by simp [wbytes_length])
  clear own3 h11 G3 g4 at4 hlt3 ob2 hz3
  go_wp2_with (first
    | (at_builtin; refine wpList_append_row2 _ rfl (.tmp 99) (.tmp 103) 36 rfl (w.heap.size + 1) .u8 5 1 Try.underlying36 info_u8 v4 ([15] ++ wbytes [a] ++ wbytes [(lo : Int)]) rfl (own4.alloc _) _ _ 1 1 [(d : Int)] rfl (Row.one_at .u8 _ 5 (d : Int) (wf_byte d (by omega)) rfl) rfl (by rw [L4.out]; omega) (by rw [L4.out]; simp [maxLen]) (by simp; omega) ?_
       intro v5 w5 own5 g5 at5
       have h13 := (h12.alloc (.cells #[.int .u8 (d : Int)] 5)).grown g5 (fun k e => by have := (own4.block k e).1; omega)
       have G5 := Lib.hid ((g5.block w2.heap.size (by simp; omega) (fun e => hv4.out _ e.symm rfl)).trans ((heap_alloc_old w4 _ hlt4).trans G4.out))
       have hz5 := h13.lt)
    | (at_builtin; refine wpList_append_row2 _ rfl (.tmp 104) (.tmp 105) 36 rfl (w.heap.size + 1) .u8 5 1 Try.underlying36 info_u8 v5 ([15] ++ wbytes [a] ++ wbytes [(lo : Int)] ++ [(d : Int)]) rfl own5 _ _ d d (pk on d) rfl (Row.of_block G5.out (pk on d) hwf.out (List.prefix_refl _)) hpl.out (by rw [List.length_append, L4.out]; simp; omega) (by rw [List.length_append, L4.out]; simp [maxLen]; omega) (by omega) ?_
       intro v6 w6 own6 g6 at6
       have h14 := h13.grown g6 (fun k e => by have := (own5.block k e).1; omega)))
  go_ret2
  exact ⟨_, rfl, own6.mono (by omega), h14.2⟩

set_option maxHeartbeats 1000000 in
set_option maxRecDepth 100000 in
theorem refPut_words (c a n : Int) (on : List Bool) (set fl : List Int) (Ao As Ap : Option Addr) (lo ls lp co cs cp : Nat) (w : World) (h : Asked w w.heap.size ⟨c, a, n, on, set, fl⟩ Ao As Ap lo ls lp) (hk : chkQ ⟨c, a, n, on, set, fl⟩ = 0) (hc : c = 16) :
    Calls Try.prog 51 #[.agg #[.int .i64 c, .int .i64 a, .int .i64 n, .slice Ao lo co, .slice As ls cs, .slice Ap lp cp]] w (Makes2 w (pduQ ⟨c, a, n, on, set, fl⟩)) := by
  obtain ⟨hmm, hst, ha, hmany, hparts, hend⟩ := chk_zero hk
  simp only at hmm hst ha hmany hparts hend
  subst hc
  have H0 := Lib.hid h
  have hx0 := Bx.new w (.cells #[.int .i64 16, .int .i64 a, .int .i64 n, .slice Ao lo co, .slice As ls cs, .slice Ap lp cp] 26)
  have HC := Lib.hid (refCheck_any ⟨16, a, n, on, set, fl⟩ Ao As Ap lo ls lp co cs cp _ (h.upAlloc (.cells #[.int .i64 16, .int .i64 a, .int .i64 n, .slice Ao lo co, .slice As ls cs, .slice Ap lp cp] 26)))
  rw [chkQ_of h, hk] at HC
  have hl : ls ≤ 123 := by have h1 := H0.out.ls; have h2 : 1 ≤ (set.length : Int) ∧ (set.length : Int) ≤ 123 := hmany; simp only at h1; omega
  have HL : Hid (pduQ ⟨16, a, n, on, set, fl⟩ = (([16] ++ wbytes [a]) ++ wbytes [(ls : Int)] ++ [2 * (ls : Int)]) ++ wbytes set) := Lib.hid (by
    have e : pduQ ⟨16, a, n, on, set, fl⟩ = 16 :: (wbytes [a, (set.length : Int)] ++ ((2 * set.length : Nat) : Int) :: wbytes set) := rfl
    have h1 := H0.out.ls
    simp only at h1
    rw [e, h1, wbytes_cons a]; simp)
  have e1 : IntKind.u8.wrap (2 * (ls : Int)) = 2 * (ls : Int) := by rw [IntKind.wrap_u8]; omega
  have e2 : IntKind.i64.wrap (2 * (ls : Int)) = 2 * (ls : Int) := IntWalk.i64_in _ (by omega)
  have hwf2 : Hid ((Lit.int .u8 (2 * (ls : Int))).wf = true) := Lib.hid (by have := wf_byte (2 * ls) (by omega); rwa [show ((2 * ls : Nat) : Int) = 2 * (ls : Int) by omega] at this)
  rw [HL.out]
  clear h hk hst hmany hparts hend hmm
  go_enter Try.func51, Try.ntmps51
  go_wp2_with fail
  refine HC.out.mono ?_
  rintro e w1 ⟨rfl, b1⟩
  have h9 := hx0.below b1
  have hz1 := h9.lt
  clear b1 hx0 HC
  obtain ⟨d0, d1, d2, d3, d4, d5⟩ := h9.six
  go_wp2_with fail
  clear d0 d1 d2 d3 d4 d5
  refine (refTwo_any _ [16] a (w.heap.size + 1) _ (by exact Own.laid (l := [16]) (heap_alloc_new w1 _) hz1 rfl (by simp [maxLen])) ha (by simp) (by simp; omega)).mono ?_
  rintro e w2 ⟨v2, rfl, own2, g2, _⟩
  have h10 := (h9.alloc (.cells #[.int .u8 16] 5)).grown g2 (by simp [Value.ownBlock]; omega)
  have hz2 := h10.lt
  clear g2 h9
  obtain ⟨d0, d1, d2, d3, d4, d5⟩ := h10.six
  have L2 : Hid (([16] ++ wbytes [a]).length = 3) := Lib.hid (by simp [wbytes_length])
  have L3 : Hid (([16] ++ wbytes [a] ++ wbytes [(ls : Int)]).length = 5) := Lib.hid (by simp [wbytes_length])
  have ob2 := Lib.hid own2.block
  clear d0 d1 d2 d3 d4 d5
  obtain ⟨d0, _, _, _, _, _⟩ := h10.six
  go_wp2_with fail
  clear d0
  go_region_held3 (fun w' => Bx w w.heap.size (.cells #[.int .i64 16, .int .i64 a, .int .i64 n, .slice Ao lo co, .slice As ls cs, .slice Ap lp cp] 26) w' ∧ w'.cell? ⟨w.heap.size, 0, none⟩ = some (.int .i64 16) ∧ w'.cell? ⟨w.heap.size, 1, none⟩ = some (.int .i64 a) ∧ w'.cell? ⟨w.heap.size, 2, none⟩ = some (.int .i64 n) ∧ w'.cell? ⟨w.heap.size, 3, none⟩ = some (.slice Ao lo co) ∧ w'.cell? ⟨w.heap.size, 4, none⟩ = some (.slice As ls cs) ∧ w'.cell? ⟨w.heap.size, 5, none⟩ = some (.slice Ap lp cp))
    ((first
      | exact ⟨h12, h12.six⟩
      | exact ⟨h11, h11.six⟩
      | exact ⟨h11.alloc _, (h11.alloc _).six⟩
      | exact ⟨h10.drew, h10.drew.six⟩
      | exact ⟨h10, h10.six⟩
      | exact ⟨(h10.alloc _).drew, (h10.alloc _).drew.six⟩))
    (first
      | (go_at_call 91
         refine (refTwo_any v2 ([16] ++ wbytes [a]) (ls : Int) (w.heap.size + 1) _ (by first | exact own2.alloc _ | exact own2) (by omega) (by rw [L2.out]; omega) (by simp <;> omega)).mono ?_
         rintro e w3 ⟨v3, rfl, own3, g3, at3⟩
         have h11 : Bx w w.heap.size (.cells #[.int .i64 16, .int .i64 a, .int .i64 n, .slice Ao lo co, .slice As ls cs, .slice Ap lp cp] 26) w3 := by first | exact (h10.alloc _).drew.grown g3 (fun k e => by have := (ob2.out k e).1; omega) | exact h10.drew.grown g3 (fun k e => by have := (ob2.out k e).1; omega)
         have hz3 := h11.lt)
      | (refine step_append_row w3 rfl _ _ 36 rfl (w.heap.size + 1) .u8 5 1 Try.underlying36 info_u8 v3 ([16] ++ wbytes [a] ++ wbytes [(ls : Int)]) rfl own3 (w2.heap.size + 1) (some ⟨w2.heap.size, 0, none⟩) 1 1 [2 * (ls : Int)] rfl (Row.of_block (l := [2 * (ls : Int)]) ((g3.block w2.heap.size (by simp) (fun e => by have := (ob2.out _ e.symm).2; omega)).trans (heap_alloc_new w2 _)) [2 * (ls : Int)] (by intro x hx; simp only [List.mem_singleton] at hx; subst hx; exact hwf2.out) (List.prefix_refl _)) rfl (by rw [L3.out]; omega) (by rw [L3.out]; simp [maxLen]) (by omega) ?_
         intro v4 w4 own4 g4
         have h12 := h11.grown g4 (fun k e => by have := (own3.block k e).1; omega))
      | (refine step_append_row (w3.alloc (.cells #[.int .u8 (2 * (ls : Int))] 5)) rfl _ _ 36 rfl (w.heap.size + 1) .u8 5 1 Try.underlying36 info_u8 v3 ([16] ++ wbytes [a] ++ wbytes [(ls : Int)]) rfl (own3.alloc _) (w3.heap.size + 1) (some ⟨w3.heap.size, 0, none⟩) 1 1 [2 * (ls : Int)] rfl (Row.one .u8 w3 5 (2 * (ls : Int)) hwf2.out) rfl (by rw [L3.out]; omega) (by rw [L3.out]; simp [maxLen]) (by simp; omega) ?_
         intro v4 w4 own4 g4
         have h12 := (h11.alloc (.cells #[.int .u8 (2 * (ls : Int))] 5)).grown g4 (fun k e => by have := (own3.block k e).1; omega)))
  all_goals
    have hz4 := h12.lt
    have H12 := Lib.hid h12
    have O4 := Lib.hid own4
    have HS := Lib.hid H0.out.set
    have HSN := Lib.hid H0.out.ls
    clear h12 own4 g4 h11 own3 g3 at3 h10 own2 ob2 hz3
    obtain ⟨d0, _, _, _, _, _⟩ := H12.out.six
    go_wp2_with fail
    clear d0
    go_loopw [5, 9] (fun v i wr => ∃ k : Nat, k ≤ ls ∧ i = .int .i64 k ∧ Own .u8 5 wr (w.heap.size + 1) v ([16] ++ wbytes [a] ++ wbytes [(ls : Int)] ++ [2 * (ls : Int)] ++ wbytes (set.take k)) ∧ Bx w w.heap.size (.cells #[.int .i64 16, .int .i64 a, .int .i64 n, .slice Ao lo co, .slice As ls cs, .slice Ap lp cp] 26) wr) (fun _ i _ => ls - (intOf i).toNat)
    case atStart => exact ⟨0, by omega, rfl, by simpa [wbytes] using O4.out, H12.out⟩
    case round =>
      obtain ⟨k, hk, rfl, hown, hbx⟩ := hrel
      obtain ⟨d0, d1, d2, d3, d4, d5⟩ := hbx.six
      have hzr := hbx.lt
      by_cases hlt : k < ls
      · obtain ⟨b, o, hAd, hb1, hcell⟩ := HS.out.at_ (i := k) (by have := HSN.out; omega)
        have hvb := wf_u16 (HS.out.wf_at (i := k) (by have := HSN.out; omega))
        subst hAd
        have hc1 := hbx.old hb1 hcell
        have HT := Lib.hid (take_step set k (by have := HSN.out; omega))
        have HLn : Hid (([16] ++ wbytes [a] ++ wbytes [(ls : Int)] ++ [2 * (ls : Int)] ++ wbytes (set.take k)).length ≤ 1000) := Lib.hid (by simp [wbytes_length]; omega)
        have HWS := Lib.hid (wbytes_snoc (set.take k) (nth set k))
        have HW1 : Hid (wbytes [nth set k] = be 2 (nth set k).toNat) := Lib.hid (by simp [wbytes])
        generalize nth set k = v at *
        have e0 : IntKind.i64.wrap v = v := IntWalk.i64_in _ (by omega)
        clear hcell
        go_wp2_with fail
        clear d0 d1 d2 d3 d4 d5
        refine (refTwo_any _ _ v (w.heap.size + 1) _ hown hvb HLn.out (by omega)).mono ?_
        rintro e w5 ⟨v5, rfl, own5, g5, _⟩
        have h13 := hbx.grown g5 (fun k e => by have := (hown.block k e).1; omega)
        have own6 : Own .u8 5 w5 (w.heap.size + 1) v5 ([16] ++ wbytes [a] ++ wbytes [(ls : Int)] ++ [2 * (ls : Int)] ++ wbytes (set.take (k + 1))) := by
          rw [HT.out, HWS.out, ← HW1.out, ← List.append_assoc]; exact own5
        clear g5 hown hbx own5
        go_wp2
        go_roundw
        case rel => exact ⟨k + 1, by omega, by go_num, own6, h13⟩
        case measure => simp [intOf]; omega
      · obtain rfl : k = ls := by omega
        have hx : Hid (set.take k = set) := Lib.hid (List.take_of_length_le (by have := HSN.out; omega))
        rw [hx.out] at hown
        go_wp2
        go_ret2
        exact ⟨_, rfl, hown.mono (by omega), hbx.2⟩
end Go.Proofs.Ytfdikjfbmfibjaa
namespace Go.Proofs.Ytfdikjfbmfibjaa
open Go.RowKit
set_option linter.unusedVariables false
/-- Where a part lies, in whatever world a box above it is kept. -/
theorem Bx.parts {w0 w : World} {g : Nat} {t : TypeId} {v0 v1 v2 v3 v4 v5 p0 p1 p2 : Value} {b i : Nat} (h : Bx w0 g (.cells #[v0, v1, v2, v3, v4, v5] t (0, 0)) w) (hb : b < g) (h0 : w0.cell? ⟨b, i, none⟩ = some p0) (h1 : w0.cell? ⟨b, i + 1, none⟩ = some p1) (h2 : w0.cell? ⟨b, i + 2, none⟩ = some p2) :
    w.cell? ⟨b, i, none⟩ = some p0 ∧ w.cell? ⟨b, i + 1, none⟩ = some p1 ∧ w.cell? ⟨b, i + 2, none⟩ = some p2 ∧ w.cell? ⟨g, 0, none⟩ = some v0 ∧ w.cell? ⟨g, 1, none⟩ = some v1 ∧ w.cell? ⟨g, 2, none⟩ = some v2 ∧ w.cell? ⟨g, 3, none⟩ = some v3 ∧ w.cell? ⟨g, 4, none⟩ = some v4 ∧ w.cell? ⟨g, 5, none⟩ = some v5 :=
  ⟨h.old hb h0, h.old hb h1, h.old hb h2, h.six⟩

set_option maxHeartbeats 1000000 in
set_option maxRecDepth 100000 in
theorem refPut_file (c a n : Int) (on : List Bool) (set fl : List Int) (Ao As Ap : Option Addr) (lo ls lp co cs cp : Nat) (w : World) (h : Asked w w.heap.size ⟨c, a, n, on, set, fl⟩ Ao As Ap lo ls lp) (hk : chkQ ⟨c, a, n, on, set, fl⟩ = 0) (hc : c = 20) :
    Calls Try.prog 51 #[.agg #[.int .i64 c, .int .i64 a, .int .i64 n, .slice Ao lo co, .slice As ls cs, .slice Ap lp cp]] w (Makes2 w (pduQ ⟨c, a, n, on, set, fl⟩)) := by
  obtain ⟨hmm, hst, ha, hmany, hparts, hend⟩ := chk_zero hk
  simp only at hmm hst ha hmany hparts hend
  subst hc
  have H0 := Lib.hid h
  have hx0 := Bx.new w (.cells #[.int .i64 20, .int .i64 a, .int .i64 n, .slice Ao lo co, .slice As ls cs, .slice Ap lp cp] 26)
  have HC := Lib.hid (refCheck_any ⟨20, a, n, on, set, fl⟩ Ao As Ap lo ls lp co cs cp _ (h.upAlloc (.cells #[.int .i64 20, .int .i64 a, .int .i64 n, .slice Ao lo co, .slice As ls cs, .slice Ap lp cp] 26)))
  rw [chkQ_of h, hk] at HC
  have hl : lp ≤ 35 := by have h1 := H0.out.lp; have h2 : 1 ≤ ((fl.length / 3 : Nat) : Int) ∧ ((fl.length / 3 : Nat) : Int) ≤ 35 := hmany; simp only at h1; omega
  have hok : Hid (allOk fl lp = true) := Lib.hid (by
    have h1 := (hparts rfl).1
    have h2 := H0.out.lp
    simp only at h2
    rwa [show fl.length / 3 = lp by omega] at h1)
  have HL : Hid (pduQ ⟨20, a, n, on, set, fl⟩ = ([20] ++ [7 * (lp : Int)]) ++ pbytes fl lp) := Lib.hid (by
    have h1 := H0.out.lp
    simp only at h1
    have e : ∀ m, fl.length / 3 = m → pduQ ⟨20, a, n, on, set, fl⟩ = 20 :: ((7 * m : Nat) : Int) :: pbytes fl m := fun m hm => by subst hm; rfl
    rw [e lp (by omega), show ((7 * lp : Nat) : Int) = 7 * (lp : Int) by omega]; rfl)
  have e1 : IntKind.u8.wrap (7 * (lp : Int)) = 7 * (lp : Int) := by rw [IntKind.wrap_u8]; omega
  have e2 : IntKind.i64.wrap (7 * (lp : Int)) = 7 * (lp : Int) := IntWalk.i64_in _ (by omega)
  have hwf2 : Hid ((Lit.int .u8 (7 * (lp : Int))).wf = true) := Lib.hid (by have := wf_byte (7 * lp) (by omega); rwa [show ((7 * lp : Nat) : Int) = 7 * (lp : Int) by omega] at this)
  have HS := Lib.hid H0.out.fl
  have HSN := Lib.hid H0.out.lp
  simp only at HS HSN
  rw [HL.out]
  clear h hk hst hmany hparts hend hmm
  go_enter Try.func51, Try.ntmps51
  go_wp2_with fail
  refine HC.out.mono ?_
  rintro e w1 ⟨rfl, b1⟩
  have h9 := hx0.below b1
  have hz1 := h9.lt
  clear b1 hx0 HC
  obtain ⟨d0, d1, d2, d3, d4, d5⟩ := h9.six
  go_wp2_with (at_builtin; refine wpList_append_row _ rfl (.tmp 22) (.tmp 28) 36 rfl (w.heap.size + 1) .u8 5 1 Try.underlying36 info_u8 (.slice (some ⟨w1.heap.size, 0, none⟩) 1 1) [20] rfl ((Own.laid (k := .u8) (l := [20]) (heap_alloc_new w1 _) hz1 rfl (by simp [maxLen])).alloc _) _ _ 1 1 [7 * (lp : Int)] rfl (Row.one_at .u8 _ 5 (7 * (lp : Int)) hwf2.out (by simp)) rfl (by simp) (by simp [maxLen]) (by simp; omega) ?_; intro v2 w2 own2 g2)
  have h10 := ((h9.alloc (.cells #[.int .u8 20] 5)).alloc (.cells #[.int .u8 (7 * (lp : Int))] 5)).grown g2 (by simp [Value.ownBlock]; omega)
  clear d0 d1 d2 d3 d4 d5 h9 g2
  go_loopw [5, 6] (fun v i wr => ∃ k : Nat, k ≤ lp ∧ i = .int .i64 k ∧ Own .u8 5 wr (w.heap.size + 1) v ([20] ++ [7 * (lp : Int)] ++ pbytes fl k) ∧ Bx w w.heap.size (.cells #[.int .i64 20, .int .i64 a, .int .i64 n, .slice Ao lo co, .slice As ls cs, .slice Ap lp cp] 26) wr) (fun _ i _ => lp - (intOf i).toNat)
  case atStart => exact ⟨0, by omega, rfl, by simpa [pbytes] using own2, h10⟩
  case round =>
    clear own2 h10
    obtain ⟨k, hk, rfl, hown, hbx⟩ := hrel
    have hzr := hbx.lt
    by_cases hlt : k < lp
    · obtain ⟨b, o, hAd, hb1, hc1, hc2, hc3⟩ := HS.out.three (k := k) (by have := HSN.out; omega)
      subst hAd
      have hin := (inPl_iff _ _ _).1 (allOk_le hok.out k hlt)
      have HP : Hid (pbytes fl (k + 1) = pbytes fl k ++ (6 :: wbytes [nth fl (3 * k), nth fl (3 * k + 1), nth fl (3 * k + 2)])) := Lib.hid rfl
      have HLn : Hid ((pbytes fl k).length = 7 * k) := Lib.hid (pbytes_length fl k)
      generalize nth fl (3 * k) = x at *
      generalize nth fl (3 * k + 1) = y at *
      generalize nth fl (3 * k + 2) = z at *
      obtain ⟨P, hP⟩ : ∃ P, Hid (pbytes fl k = P) := ⟨_, Lib.hid rfl⟩
      rw [hP.out] at hown HP HLn
      have HX : Hid (pbytes fl (k + 1) = ((P ++ [6]) ++ wbytes [x] ++ wbytes [y]) ++ wbytes [z]) := Lib.hid (by rw [HP.out, wbytes_cons x, wbytes_cons y]; simp)
      have C1 := Lib.hid hc1
      have C2 := Lib.hid hc2
      have C3 := Lib.hid hc3
      have M1 : Hid (([20] ++ [7 * (lp : Int)] ++ P).length ≤ 300) := Lib.hid (by simp [HLn.out]; omega)
      have M2 : Hid (([20] ++ [7 * (lp : Int)] ++ P ++ [6]).length ≤ 301) := Lib.hid (by rw [List.length_append]; have := M1.out; simp at this ⊢; omega)
      have M3 : Hid (([20] ++ [7 * (lp : Int)] ++ P ++ [6] ++ wbytes [x]).length ≤ 303) := Lib.hid (by rw [List.length_append, wbytes_length]; have := M2.out; simp at this ⊢; omega)
      have M4 : Hid (([20] ++ [7 * (lp : Int)] ++ P ++ [6] ++ wbytes [x] ++ wbytes [y]).length ≤ 305) := Lib.hid (by rw [List.length_append, wbytes_length]; have := M3.out; simp at this ⊢; omega)
      have ob := Lib.hid hown.block
      clear hc1 hc2 hc3 HP
      obtain ⟨d0, d1, d2, d3, d4, d5⟩ := hbx.six
      go_wp2_with fail
      clear d0 d1 d2 d3 d4 d5
      go_region_held3 (fun w' => Bx w w.heap.size (.cells #[.int .i64 20, .int .i64 a, .int .i64 n, .slice Ao lo co, .slice As ls cs, .slice (some ⟨b, o, none⟩) lp cp] 26) w' ∧ w'.cell? ⟨b, o + k * 3, none⟩ = some (.int .i64 x) ∧ w'.cell? ⟨b, o + k * 3 + 1, none⟩ = some (.int .i64 y) ∧ w'.cell? ⟨b, o + k * 3 + 2, none⟩ = some (.int .i64 z) ∧ w'.cell? ⟨w.heap.size, 0, none⟩ = some (.int .i64 20) ∧ w'.cell? ⟨w.heap.size, 1, none⟩ = some (.int .i64 a) ∧ w'.cell? ⟨w.heap.size, 2, none⟩ = some (.int .i64 n) ∧ w'.cell? ⟨w.heap.size, 3, none⟩ = some (.slice Ao lo co) ∧ w'.cell? ⟨w.heap.size, 4, none⟩ = some (.slice As ls cs) ∧ w'.cell? ⟨w.heap.size, 5, none⟩ = some (.slice (some ⟨b, o, none⟩) lp cp))
        ((first
          | exact ⟨h15, h15.parts hb1 C1.out C2.out C3.out⟩
          | exact ⟨h14, h14.parts hb1 C1.out C2.out C3.out⟩
          | exact ⟨h13, h13.parts hb1 C1.out C2.out C3.out⟩
          | exact ⟨h12, h12.parts hb1 C1.out C2.out C3.out⟩
          | exact ⟨hbx.drew, hbx.drew.parts hb1 C1.out C2.out C3.out⟩
          | exact ⟨hbx, hbx.parts hb1 C1.out C2.out C3.out⟩
          | exact ⟨(hbx.alloc _).drew, (hbx.alloc _).drew.parts hb1 C1.out C2.out C3.out⟩))
        (first
          | (go_at_call_of 91 (Value.int .i64 x); refine (refTwo_any v4 ([20] ++ [7 * (lp : Int)] ++ P ++ [6]) x (w.heap.size + 1) _ own4 (by omega) (by have := M2.out; omega) (by omega)).mono ?_
             rintro e w5 ⟨v5, rfl, own5, g5, _⟩
             have h13 := h12.grown g5 (fun k e => by have := (own4.block k e).1; omega)
             have hz5 := h13.lt)
          | (go_at_call_of 91 (Value.int .i64 y); refine (refTwo_any v5 ([20] ++ [7 * (lp : Int)] ++ P ++ [6] ++ wbytes [x]) y (w.heap.size + 1) _ own5 (by omega) (by have := M3.out; omega) (by omega)).mono ?_
             rintro e w6 ⟨v6, rfl, own6, g6, _⟩
             have h14 := h13.grown g6 (fun k e => by have := (own5.block k e).1; omega)
             have hz6 := h14.lt)
          | (go_at_call_of 91 (Value.int .i64 z); refine (refTwo_any v6 ([20] ++ [7 * (lp : Int)] ++ P ++ [6] ++ wbytes [x] ++ wbytes [y]) z (w.heap.size + 1) _ own6 (by omega) (by have := M4.out; omega) (by omega)).mono ?_
             rintro e w7 ⟨v7, rfl, own7, g7, _⟩
             have h15 := h14.grown g7 (fun k e => by have := (own6.block k e).1; omega))
          | (refine step_append_row (World.drew (wr.alloc (.cells (blk .u8 [6]) 5))) rfl _ _ 36 rfl (w.heap.size + 1) .u8 5 1 Try.underlying36 info_u8 _ ([20] ++ [7 * (lp : Int)] ++ P) rfl (hown.alloc _) (wr.heap.size + 1) (some ⟨wr.heap.size, 0, none⟩) 1 1 [6] rfl (Row.one .u8 wr 5 6 (by decide)) rfl (by have := M1.out; omega) (by have := M1.out; simp only [maxLen]; omega) (by show _ ≤ (wr.alloc _).heap.size; simp; omega) ?_
             intro v4 w4 own4 g4
             have h12 := (hbx.alloc (.cells #[.int .u8 6] 5)).drew.grown g4 (fun k e => by have := (ob.out k e).1; omega)
             have hz4 := h12.lt))
      have own8 : Own .u8 5 w7 (w.heap.size + 1) v7 ([20] ++ [7 * (lp : Int)] ++ pbytes fl (k + 1)) := by
        have e : [20] ++ [7 * (lp : Int)] ++ pbytes fl (k + 1) = [20] ++ [7 * (lp : Int)] ++ P ++ [6] ++ wbytes [x] ++ wbytes [y] ++ wbytes [z] := by rw [HX.out]; simp only [List.append_assoc]
        rw [e]; exact own7
      go_wp2
      go_roundw
      case rel => exact ⟨k + 1, by omega, by go_num, own8, h15⟩
      case measure => simp [intOf]; omega
    · obtain rfl : k = lp := by omega
      obtain ⟨d0, d1, d2, d3, d4, d5⟩ := hbx.six
      go_wp2
      go_ret2
      exact ⟨_, rfl, hown.mono (by omega), hbx.2⟩

theorem refPut_no (q : Req) (Ao As Ap : Option Addr) (lo ls lp co cs cp : Nat) (w : World) (h : Asked w w.heap.size q Ao As Ap lo ls lp) (hk : chkQ q ≠ 0) :
    Calls Try.prog 51 #[.agg #[.int .i64 q.c, .int .i64 q.a, .int .i64 q.n, .slice Ao lo co, .slice As ls cs, .slice Ap lp cp]] w (GivesOwn w [] (chkQ q)) := by
  have HC := Lib.hid (refCheck_any q Ao As Ap lo ls lp co cs cp _ (h.upAlloc (.cells #[.int .i64 q.c, .int .i64 q.a, .int .i64 q.n, .slice Ao lo co, .slice As ls cs, .slice Ap lp cp] 26)))
  rw [chkQ_of h] at HC
  generalize chkQ q = r at *
  have b1 : (r != 0) = true := by simpa using hk
  have b2 : (r == 0) = false := beq_false_of_ne hk
  clear h hk
  go_enter Try.func51, Try.ntmps51
  go_wp2_with fail
  refine HC.out.mono ?_
  rintro e w1 ⟨rfl, bel⟩
  go_wp2
  go_ret2
  exact ⟨_, rfl, Own.nil _ _ _ _, (bel_alloc w _).trans (bel.mono (by simp))⟩
set_option maxRecDepth 100000 in
/-- The document's Put, of any request. -/
theorem refPut_any (q : Req) (Ao As Ap : Option Addr) (lo ls lp co cs cp : Nat) (w : World) (h : Asked w w.heap.size q Ao As Ap lo ls lp) :
    Calls Try.prog 51 #[.agg #[.int .i64 q.c, .int .i64 q.a, .int .i64 q.n, .slice Ao lo co, .slice As ls cs, .slice Ap lp cp]] w (GivesOwn w (putL q) (chkQ q)) := by
  by_cases hk : chkQ q = 0
  · rw [hk, putL, if_pos hk]
    obtain ⟨c, a, n, on, set, fl⟩ := q
    have key : Calls Try.prog 51 #[.agg #[.int .i64 c, .int .i64 a, .int .i64 n, .slice Ao lo co, .slice As ls cs, .slice Ap lp cp]] w (Makes2 w (pduQ ⟨c, a, n, on, set, fl⟩)) := by
      rcases (show c = 1 ∨ c = 2 ∨ c = 3 ∨ c = 4 ∨ c = 5 ∨ c = 6 ∨ c = 15 ∨ c = 16 ∨ c = 20 from mm_pos (chk_zero hk).1) with hc | hc | hc | hc | hc | hc | hc | hc | hc
      · exact refPut_plain c a n on set fl Ao As Ap lo ls lp co cs cp w h hk (.inl hc)
      · exact refPut_plain c a n on set fl Ao As Ap lo ls lp co cs cp w h hk (.inr (.inl hc))
      · exact refPut_plain c a n on set fl Ao As Ap lo ls lp co cs cp w h hk (.inr (.inr (.inl hc)))
      · exact refPut_plain c a n on set fl Ao As Ap lo ls lp co cs cp w h hk (.inr (.inr (.inr hc)))
      · exact refPut_coil c a n on set fl Ao As Ap lo ls lp co cs cp w h hk hc
      · exact refPut_reg c a n on set fl Ao As Ap lo ls lp co cs cp w h hk hc
      · exact refPut_bits c a n on set fl Ao As Ap lo ls lp co cs cp w h hk hc
      · exact refPut_words c a n on set fl Ao As Ap lo ls lp co cs cp w h hk hc
      · exact refPut_file c a n on set fl Ao As Ap lo ls lp co cs cp w h hk hc
    exact key.mono fun e w' ⟨v, he, ho, hb⟩ => ⟨v, he, ho, hb⟩
  · rw [putL, if_neg hk]
    exact refPut_no q Ao As Ap lo ls lp co cs cp w h hk
/-- Does a request write? -/
def wrB (c : Int) : Bool := decide (c = 5 ∨ c = 6 ∨ c = 15 ∨ c = 16)
theorem Writes_any (c a n : Int) (Ao As Ap : Option Addr) (lo co ls cs lp cp : Nat) (w : World) :
    Calls Try.prog 111 #[.agg #[.int .i64 c, .int .i64 a, .int .i64 n, .slice Ao lo co, .slice As ls cs, .slice Ap lp cp]] w fun e w' => e = .returned (.bool (wrB c)) ∧ Below w.heap.size w w' := by
  rcases (show c = 5 ∨ c = 6 ∨ c = 15 ∨ c = 16 ∨ (c ≠ 5 ∧ c ≠ 6 ∧ c ≠ 15 ∧ c ≠ 16) by omega) with rfl | rfl | rfl | rfl | ⟨h1, h2, h3, h4⟩
  iterate 4
    · go_enter Try.func111, Try.ntmps111
      go_wp2
      go_ret
      exact ⟨rfl, bel_alloc _ _⟩
  have e : Hid (wrB c = false) := Lib.hid (by simp [wrB, *])
  have b1 := beq_false_of_ne h1
  have b2 := beq_false_of_ne h2
  have b3 := beq_false_of_ne h3
  have b4 := beq_false_of_ne h4
  rw [e.out]
  go_enter Try.func111, Try.ntmps111
  go_wp2
  go_ret
  exact ⟨rfl, bel_alloc _ _⟩
end Go.Proofs.Ytfdikjfbmfibjaa
namespace Go.Proofs.Ytfdikjfbmfibjaa
open Go.RowKit
set_option linter.unusedVariables false

theorem refAt_at (b o n c i : Nat) (z : Int) (hz : z = i) (ys : List Int) (w : World) (B : Nat) (hr : Row .u8 w B (some ⟨b, o, none⟩) ys) (hn : ys.length = n) (hc : n ≤ c) (hb : n ≤ 100000) (hi : i + 2 ≤ n) :
    Calls Try.prog 104 #[.slice (some ⟨b, o, none⟩) n c, .int .i64 z] w fun e w' => e = .returned (.int .i64 (at2 ys i)) ∧ ∃ q, w' = w.drewN q := by
  subst hz
  obtain ⟨b', o', hA, _, hc1⟩ := hr.at_ (i := i) (by omega)
  injection hA with hA
  injection hA with hA1 hA2
  subst hA1 hA2
  obtain ⟨b', o', hA, _, hc2⟩ := hr.at_ (i := i + 1) (by omega)
  injection hA with hA
  injection hA with hA1 hA2
  subst hA1 hA2
  have h1 := wf_u8 (hr.wf_at (i := i) (by omega))
  have h2 := wf_u8 (hr.wf_at (i := i + 1) (by omega))
  have HV : Hid (at2 ys i = nth ys i * 256 + nth ys (i + 1)) := Lib.hid rfl
  generalize nth ys i = x at *
  generalize nth ys (i + 1) = y at *
  have e0 : ((i : Int) + 1).toNat = i + 1 := by omega
  have g1 : (i : Int) < (n : Int) := by omega
  have g2 : (i : Int) + 1 < (n : Int) := by omega
  have g3 : (0 : Int) ≤ (i : Int) + 1 := by omega
  have e1 : IntKind.i64.wrap ((i : Int) + 1) = (i : Int) + 1 := IntWalk.i64_in _ (by omega)
  have e2 : IntKind.i64.wrap x = x := IntWalk.i64_in _ (by omega)
  have e3 : IntKind.i64.wrap y = y := IntWalk.i64_in _ (by omega)
  have e4 : IntKind.i64.wrap (x * 256) = x * 256 := IntWalk.i64_in _ (by omega)
  have e5 : IntKind.i64.wrap (x * 256 + y) = x * 256 + y := IntWalk.i64_in _ (by omega)
  rw [HV.out]
  clear hr hn
  go_enter Try.func104, Try.ntmps104
  go_wp2_with fail
  go_quiet (fail)
  go_wp2
  go_ret
  exact ⟨rfl, nq, rfl⟩

/-- How long a PDU is that begins so, or -1: that can't be told yet. -/
def lenR (ys : List Int) : Int := if (nth ys 0 = 15 ∨ nth ys 0 = 16) ∧ ys.length < 6 then -1 else if nth ys 0 = 20 ∧ ys.length < 2 then -1 else szOf ys
set_option maxHeartbeats 1000000 in
theorem refLength_any (b o n c : Nat) (ys : List Int) (w : World) (B : Nat) (hr : Row .u8 w B (some ⟨b, o, none⟩) ys) (hn : ys.length = n) (h1 : 1 ≤ n) (hb : n ≤ 140737488355328) (hm : 0 < mm (nth ys 0)) :
    Calls Try.prog 70 #[.slice (some ⟨b, o, none⟩) n c] w fun e w' => e = .returned (.int .i64 (lenR ys)) ∧ w = w' := by
  obtain ⟨b', o', hA, _, hc, _⟩ := row_head hr (by omega)
  injection hA with hA
  injection hA with hA1 hA2
  subst hA1 hA2
  have hat : ∀ i, i < n → w.cell? ⟨b, o + i, none⟩ = some (.int .u8 (nth ys i)) ∧ (0 ≤ nth ys i ∧ nth ys i < 256) := by
    intro i hi
    obtain ⟨b', o', hA, _, hc⟩ := hr.at_ (i := i) (by omega)
    injection hA with hA
    injection hA with hA1 hA2
    subst hA1 hA2
    exact ⟨hc, wf_u8 (hr.wf_at (i := i) (by omega))⟩
  obtain ⟨s, hs⟩ : ∃ s, Hid (lenR ys = s) := ⟨_, Lib.hid rfl⟩
  rw [hs.out]
  have HS : Hid ((if (nth ys 0 = 15 ∨ nth ys 0 = 16) ∧ n < 6 then -1 else if nth ys 0 = 20 ∧ n < 2 then -1 else (if nth ys 0 = 15 ∨ nth ys 0 = 16 then (if n < 6 then 6 else 6 + nth ys 5) else if nth ys 0 = 20 then (if n < 2 then 2 else 2 + nth ys 1) else 5)) = s) := Lib.hid (by rw [← hs.out, ← hn]; rfl)
  have HAT := Lib.hid hat
  clear hr hn hs hat
  obtain ⟨v, hv⟩ : ∃ v, nth ys 0 = v := ⟨_, rfl⟩
  rw [hv] at hc hm HS
  clear hv
  rcases mm_pos hm with rfl | rfl | rfl | rfl | rfl | rfl | rfl | rfl | rfl
  iterate 6
    · have hs3 : Hid (s = 5) := Lib.hid (by rw [← HS.out]; simp)
      go_enter Try.func70, Try.ntmps70
      go_wp2
      go_ret
      exact ⟨by rw [hs3.out]; rfl, rfl⟩
  iterate 2
    · by_cases h6 : n < 6
      · have hs3 : Hid (s = -1) := Lib.hid (by rw [← HS.out]; simp [h6])
        go_enter Try.func70, Try.ntmps70
        go_wp2
        go_ret
        exact ⟨by rw [hs3.out]; rfl, rfl⟩
      · have hs3 : Hid (s = 6 + nth ys 5) := Lib.hid (by rw [← HS.out]; simp [h6])
        obtain ⟨hc5, hr5⟩ := HAT.out 5 (by omega)
        generalize nth ys 5 = x at *
        have e0 : IntKind.i64.wrap x = x := IntWalk.i64_in _ (by omega)
        have e1 : IntKind.i64.wrap (6 + x) = 6 + x := IntWalk.i64_in _ (by omega)
        go_enter Try.func70, Try.ntmps70
        go_wp2
        go_ret
        exact ⟨by rw [hs3.out]; rfl, rfl⟩
  · by_cases h2 : n < 2
    · have hs3 : Hid (s = -1) := Lib.hid (by rw [← HS.out]; simp [h2])
      go_enter Try.func70, Try.ntmps70
      go_wp2
      go_ret
      exact ⟨by rw [hs3.out]; rfl, rfl⟩
    · have hs3 : Hid (s = 2 + nth ys 1) := Lib.hid (by rw [← HS.out]; simp [h2])
      obtain ⟨hc5, hr5⟩ := HAT.out 1 (by omega)
      generalize nth ys 1 = x at *
      have e0 : IntKind.i64.wrap x = x := IntWalk.i64_in _ (by omega)
      have e1 : IntKind.i64.wrap (2 + x) = 2 + x := IntWalk.i64_in _ (by omega)
      go_enter Try.func70, Try.ntmps70
      go_wp2
      go_ret
      exact ⟨by rw [hs3.out]; rfl, rfl⟩
end Go.Proofs.Ytfdikjfbmfibjaa
