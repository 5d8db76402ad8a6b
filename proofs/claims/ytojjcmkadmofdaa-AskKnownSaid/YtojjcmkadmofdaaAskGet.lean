/-
  Contract of Get of package ask.
-/
import Derived.Test.YtojjcmkadmofdaaAskRead2
import Derived.Test.YtojjcmkadmofdaaAskSpoil
namespace Go.Proofs.Ytojjcmkadmofdaa
open Go.RowKit
set_option linter.unusedVariables false

/-- What is wrong with a request. -/
def chkQ (q : Req) : Int := chk q.c q.a q.n q.on.length q.set.length (q.fl.length / 3) q.fl
/-- What is wrong with bytes. -/
def getE (ys : List Int) : Int :=
  if ys.length = 0 then 1 else if mm (nth ys 0) ≤ 0 then 20 else if (ys.length : Int) < szOf ys then 1 else if szOf ys < (ys.length : Int) then 2 else if rdOk ys = false then 4 else chkQ (rdQ ys)
def getQ (ys : List Int) : Req := if getE ys = 0 then rdQ ys else Req.zero

theorem Told.zero_ {w w' : World} {err : Int} {e : Ending} (h : e = .returned (.tuple #[.agg #[.int .i64 0, .int .i64 0, .int .i64 0, .slice none 0 0, .slice none 0 0, .slice none 0 0], .int .i64 err])) (hb : Below w.heap.size w w') : Told w Req.zero err e w' :=
  ⟨none, none, 0, 0, w.heap.size, w.heap.size, _, h, .inl ⟨rfl, rfl⟩, .inl ⟨rfl, rfl⟩, POwn.nil _ _ _, ⟨rfl, rfl⟩, ⟨Nat.le_refl _, Nat.le_refl _⟩, hb⟩

set_option maxRecDepth 100000 in
theorem Get_none (A : Option Addr) (c : Nat) (w : World) : Calls Try.prog 22 #[.slice A 0 c] w (Told w Req.zero 1) := by
  go_enter Try.func22, Try.ntmps22
  go_wp2
  (try simp only [Exit.inBlock, Exit.then])
  refine bodyPost_ret (v := .tuple #[.agg #[.int .i64 0, .int .i64 0, .int .i64 0, .slice none 0 0, .slice none 0 0, .slice none 0 0], .int .i64 1]) (by simp [results, Try.results22, go_sem]) rfl ?_
  exact Told.zero_ rfl (bel_alloc w _)
set_option maxRecDepth 100000 in
theorem Get_code (A : Option Addr) (n c : Nat) (ys : List Int) (w : World) (hr : Row .u8 w w.heap.size A ys) (hn : ys.length = n) (hb : n ≤ 140737488355328) (h1 : 1 ≤ n) (hm : mm (nth ys 0) ≤ 0) :
    Calls Try.prog 22 #[.slice A n c] w (Told w Req.zero 20) := by
  obtain ⟨b, o, rfl, hb1, hc1, hrg⟩ := row_head hr (by omega)
  have t0 : ((n : Int) == 0) = false := beq_false_of_ne (by omega)
  have HD : Hid (decide (0 < mm (nth ys 0)) = false) := Lib.hid (decide_eq_false (by omega))
  clear hr hn hm
  generalize nth ys 0 = v at *
  have e0 : IntKind.i64.wrap v = v := IntWalk.i64_in _ (by omega)
  go_enter Try.func22, Try.ntmps22
  go_wp2_with fail
  refine (isCode_any v _).mono ?_
  rintro e w1 ⟨rfl, rfl⟩
  rw [HD.out]
  go_wp2
  (try simp only [Exit.inBlock, Exit.then])
  refine bodyPost_ret (v := .tuple #[.agg #[.int .i64 0, .int .i64 0, .int .i64 0, .slice none 0 0, .slice none 0 0, .slice none 0 0], .int .i64 20]) (by simp [results, Try.results22, go_sem]) rfl ?_
  exact Told.zero_ rfl (bel_alloc w _)
set_option maxRecDepth 100000 in
theorem Get_size (A : Option Addr) (n c : Nat) (ys : List Int) (w : World) (hr : Row .u8 w w.heap.size A ys) (hn : ys.length = n) (hb : n ≤ 140737488355328) (h1 : 1 ≤ n) (hm : 0 < mm (nth ys 0)) (hs : (n : Int) ≠ szOf ys) :
    Calls Try.prog 22 #[.slice A n c] w (Told w Req.zero (if (n : Int) < szOf ys then 1 else 2)) := by
  obtain ⟨b, o, rfl, hb1, hc1, hrg⟩ := row_head hr (by omega)
  have t0 : ((n : Int) == 0) = false := beq_false_of_ne (by omega)
  have HD : Hid (decide (0 < mm (nth ys 0)) = true) := Lib.hid (decide_eq_true (by omega))
  have HR := Lib.hid hr
  have HN := Lib.hid hn
  clear hr hn hm
  generalize nth ys 0 = v at *
  have e0 : IntKind.i64.wrap v = v := IntWalk.i64_in _ (by omega)
  by_cases hlt : (n : Int) < szOf ys
  · rw [if_pos hlt]
    go_enter Try.func22, Try.ntmps22
    go_wp2_with fail
    refine (isCode_any v _).mono ?_
    rintro e w1 ⟨rfl, rfl⟩
    rw [HD.out]
    go_wp2_with fail
    refine (size_any b o n c ys _ w.heap.size (HR.out.alloc (Nat.le_refl _) _) HN.out h1 hb).mono ?_
    rintro e w1 ⟨rfl, rfl⟩
    generalize szOf ys = s at *
    go_wp2
    (try simp only [Exit.inBlock, Exit.then])
    refine bodyPost_ret (v := .tuple #[.agg #[.int .i64 0, .int .i64 0, .int .i64 0, .slice none 0 0, .slice none 0 0, .slice none 0 0], .int .i64 1]) (by simp [results, Try.results22, go_sem]) rfl ?_
    exact Told.zero_ rfl (bel_alloc w _)
  · rw [if_neg hlt]
    have hgt : szOf ys < (n : Int) := by omega
    go_enter Try.func22, Try.ntmps22
    go_wp2_with fail
    refine (isCode_any v _).mono ?_
    rintro e w1 ⟨rfl, rfl⟩
    rw [HD.out]
    go_wp2_with fail
    refine (size_any b o n c ys _ w.heap.size (HR.out.alloc (Nat.le_refl _) _) HN.out h1 hb).mono ?_
    rintro e w1 ⟨rfl, rfl⟩
    generalize szOf ys = s at *
    go_wp2
    (try simp only [Exit.inBlock, Exit.then])
    refine bodyPost_ret (v := .tuple #[.agg #[.int .i64 0, .int .i64 0, .int .i64 0, .slice none 0 0, .slice none 0 0, .slice none 0 0], .int .i64 2]) (by simp [results, Try.results22, go_sem]) rfl ?_
    exact Told.zero_ rfl (bel_alloc w _)

theorem POwn.row_at {e : TypeId} {w : World} {base n c : Nat} {A : Option Addr} {fl : List Int} (h : POwn e w base (.slice A n c) fl) (hw : ∀ x ∈ fl, (Lit.int .i64 x).wf = true) : Row .i64 w w.heap.size A fl ∧ fl.length = 3 * n := by
  obtain ⟨A', n', c', hv, hr, hl, _⟩ := h.row hw
  injection hv with h1 h2 h3
  subst h1 h2
  exact ⟨hr, hl⟩
theorem wf_i64_16 {x : Int} (h : 0 ≤ x ∧ x < 65536) : (Lit.int .i64 x).wf = true := by
  simp [Lit.wf, IntKind.min, IntKind.max, IntKind.signed, IntKind.bits]; omega
/-- What the lists of the request that bytes say hold. -/
theorem rdQ_wf (ys : List Int) (hw : ∀ x ∈ ys, (Lit.int .u8 x).wf = true) (h5 : nth ys 0 ≠ 20 → 5 ≤ ys.length) : (∀ x ∈ (rdQ ys).set, (Lit.int .u16 x).wf = true) ∧ ∀ x ∈ (rdQ ys).fl, (Lit.int .i64 x).wf = true := by
  unfold rdQ
  split
  · exact ⟨by simp, fun x hx => wf_i64_16 (flOf_wf _ (fun x hx => hw x (List.mem_of_mem_drop hx)) _ (by omega) x hx)⟩
  · split
    · exact ⟨by simp, by simp⟩
    · split
      · refine ⟨fun x hx => ?_, by simp⟩
        simp only [List.mem_singleton] at hx
        subst hx
        exact wf_word16 (at2_range ys hw 3 (h5 (by omega)))
      · split
        · exact ⟨by simp, by simp⟩
        · split
          · exact ⟨wwords_wf _ (fun x hx => hw x (List.mem_of_mem_drop hx)), by simp⟩
          · exact ⟨by simp, by simp⟩
theorem Told.asked {w : World} {q : Req} {A1 A2 A3 : Option Addr} {m1 m2 g1 g2 n3 c3 base : Nat} (h1 : L.Li w A1 m1 g1 q.on []) (h2 : W.Li w A2 m2 g2 q.set []) (h3 : POwn 47 w base (.slice A3 n3 c3) q.fl) (hl : q.on.length = m1 ∧ q.set.length = m2) (hw : (∀ x ∈ q.set, (Lit.int .u16 x).wf = true) ∧ ∀ x ∈ q.fl, (Lit.int .i64 x).wf = true) :
    Asked w w.heap.size q A1 A2 A3 m1 m2 n3 :=
  ⟨h1.row hl.1 (fun _ _ => rfl), h2.row hl.2 hw.1, (h3.row_at hw.2).1, hl.1, hl.2, (h3.row_at hw.2).2⟩
theorem szOf_le (ys : List Int) (hw : ∀ x ∈ ys, (Lit.int .u8 x).wf = true) : szOf ys ≤ 300 := by
  unfold szOf
  split
  · split
    · omega
    · have := wf_u8 (hw _ (nth_mem ys 5 (by omega))); omega
  · split
    · split
      · omega
      · have := wf_u8 (hw _ (nth_mem ys 1 (by omega))); omega
    · omega
theorem szOf_five (ys : List Int) (hw : ∀ x ∈ ys, (Lit.int .u8 x).wf = true) (hs : (ys.length : Int) = szOf ys) : nth ys 0 ≠ 20 → 5 ≤ ys.length := by
  intro h20
  unfold szOf at hs
  rw [if_neg h20] at hs
  split at hs
  · split at hs
    · omega
    · have := wf_u8 (hw _ (nth_mem ys 5 (by omega))); omega
  · omega

set_option maxHeartbeats 600000 in
set_option maxRecDepth 100000 in
theorem Get_rest (A : Option Addr) (n c : Nat) (ys : List Int) (w : World) (hr : Row .u8 w w.heap.size A ys) (hn : ys.length = n) (hc : n ≤ c) (h1 : 1 ≤ n) (hm : 0 < mm (nth ys 0)) (hs : (n : Int) = szOf ys) :
    Calls Try.prog 22 #[.slice A n c] w (Told w (if rdOk ys = false then Req.zero else if chkQ (rdQ ys) = 0 then rdQ ys else Req.zero) (if rdOk ys = false then 4 else chkQ (rdQ ys))) := by
  have hle := szOf_le ys hr.1
  have hwfq := Lib.hid (rdQ_wf ys hr.1 (szOf_five ys hr.1 (by rw [hn]; exact hs)))
  have hrd := Lib.hid (fun (W : World) (hR : Row .u8 W W.heap.size A ys) => read_any A n c ys W hR hn hc h1 (by omega) hm hs)
  obtain ⟨b, o, rfl, hb1, hc1, hrg⟩ := row_head hr (by omega)
  have t0 : ((n : Int) == 0) = false := beq_false_of_ne (by omega)
  have HD : Hid (decide (0 < mm (nth ys 0)) = true) := Lib.hid (decide_eq_true (by omega))
  have HR := Lib.hid hr
  have HN := Lib.hid hn
  have hn3 : n ≤ 300 := by omega
  have HS : Hid (szOf ys = (n : Int)) := Lib.hid hs.symm
  clear hr hn hm hs hle
  obtain ⟨q', hq'⟩ : ∃ q', Hid ((if rdOk ys = false then Req.zero else if chkQ (rdQ ys) = 0 then rdQ ys else Req.zero) = q') := ⟨_, Lib.hid rfl⟩
  obtain ⟨E', hE'⟩ : ∃ E', Hid ((if rdOk ys = false then 4 else chkQ (rdQ ys)) = E') := ⟨_, Lib.hid rfl⟩
  rw [hq'.out, hE'.out]
  generalize nth ys 0 = v at *
  have e0 : IntKind.i64.wrap v = v := IntWalk.i64_in _ (by omega)
  go_enter Try.func22, Try.ntmps22
  go_wp2_with fail
  refine (isCode_any v _).mono ?_
  rintro e w1 ⟨rfl, rfl⟩
  rw [HD.out]
  go_wp2_with fail
  refine (size_any b o n c ys _ w.heap.size (HR.out.alloc (Nat.le_refl _) _) HN.out h1 (by omega)).mono ?_
  rintro e w1 ⟨rfl, rfl⟩
  rw [HS.out]
  go_wp2_with fail
  refine (hrd.out _ (by exact (HR.out.alloc (Nat.le_refl _) _).more (by simp))).mono ?_
  rintro e w1 ⟨q, E, ⟨A1, A2, m1, m2, g1, g2, vp, rfl, li1, li2, own1, hl, hg, b1⟩, hok⟩
  obtain ⟨A3, n3, c3, rfl⟩ := own1.form
  have hz : (w.alloc (.cells #[.int .i64 0, .int .i64 0, .int .i64 0, .slice none 0 0, .slice none 0 0, .slice none 0 0] 26)).heap.size = w.heap.size + 1 := by simp
  rw [hz] at hg own1 b1
  have ret1 : Hid (w1.heap[w.heap.size]? = some (.cells #[.int .i64 0, .int .i64 0, .int .i64 0, .slice none 0 0, .slice none 0 0, .slice none 0 0] 26 (0, 0))) := Lib.hid ((b1.block w.heap.size (by omega)).trans (heap_alloc_new w _))
  have bel1 : Below w.heap.size w w1 := (bel_alloc w _).trans (b1.mono (by omega))
  have hs1 : w.heap.size < w1.heap.size := by have := b1.size; rw [hz] at this; omega
  have HOK := Lib.hid hok
  have L1 := Lib.hid li1
  have L2 := Lib.hid li2
  have O1 := Lib.hid own1
  have HL := Lib.hid hl
  clear hok li1 li2 own1 b1 hz hl hrd HD HS t0 e0
  cases hrk : rdOk ys with
  | false =>
    have hE : Hid (E = 4) := Lib.hid (by
      rcases HOK.out with ⟨h, _⟩ | ⟨_, h⟩
      · rw [hrk] at h; cases h
      · exact h)
    obtain rfl := hE.out
    have hsz : w.heap.size < (put6 w1 w.heap.size (.int .i64 0) (.int .i64 0) (.int .i64 0) (.slice none 0 0) (.slice none 0 0) (.slice none 0 0)).heap.size := by simpa [put6, World.setCell] using hs1
    have P4 := Lib.hid ((below_put6 bel1 (g := w.heap.size) (Nat.le_refl _) (.int .i64 0) (.int .i64 0) (.int .i64 0) (.slice none 0 0) (.slice none 0 0) (.slice none 0 0)).alloc (Nat.le_of_lt hsz) (.cells #[.int .i64 q.c, .int .i64 q.a, .int .i64 q.n, .slice A1 m1 m1, .slice A2 m2 m2, .slice A3 n3 c3] 26))
    have P5 := Lib.hid ((heap_alloc_old (put6 w1 w.heap.size (.int .i64 0) (.int .i64 0) (.int .i64 0) (.slice none 0 0) (.slice none 0 0) (.slice none 0 0)) (.cells #[.int .i64 q.c, .int .i64 q.a, .int .i64 q.n, .slice A1 m1 m1, .slice A2 m2 m2, .slice A3 n3 c3] 26) hsz).trans (put6_heap ret1.out (.int .i64 0) (.int .i64 0) (.int .i64 0) (.slice none 0 0) (.slice none 0 0) (.slice none 0 0)))
    clear hsz
    have hrk' := Lib.hid hrk
    clear hrk hg
    obtain ⟨⟨d10, d11, d12⟩, ⟨d13, d14, d15⟩, d16⟩ := cells6 ret1.out
    go_wp2
    (try simp only [Exit.inBlock, Exit.then])
    show bodyPost _ _ _ _ _ ((put6 w1 w.heap.size (.int .i64 0) (.int .i64 0) (.int .i64 0) (.slice none 0 0) (.slice none 0 0) (.slice none 0 0)).alloc (.cells #[.int .i64 q.c, .int .i64 q.a, .int .i64 q.n, .slice A1 m1 m1, .slice A2 m2 m2, .slice A3 n3 c3] 26))
    generalize (put6 w1 w.heap.size (.int .i64 0) (.int .i64 0) (.int .i64 0) (.slice none 0 0) (.slice none 0 0) (.slice none 0 0)).alloc (.cells #[.int .i64 q.c, .int .i64 q.a, .int .i64 q.n, .slice A1 m1 m1, .slice A2 m2 m2, .slice A3 n3 c3] 26) = w6 at *
    clear d10 d11 d12 d13 d14 d15 d16
    obtain ⟨⟨d10, d11, d12⟩, ⟨d13, d14, d15⟩, d16⟩ := cells6 P5.out
    refine bodyPost_ret (v := .tuple #[.agg #[.int .i64 0, .int .i64 0, .int .i64 0, .slice none 0 0, .slice none 0 0, .slice none 0 0], .int .i64 4]) (by simp [results, Try.results22, go_sem, d10, d11, d12, d13, d14, d15]) rfl ?_
    rw [← hq'.out, ← hE'.out, if_pos hrk'.out, if_pos hrk'.out]
    exact Told.zero_ rfl P4.out
  | true =>
    obtain ⟨hq, hE⟩ : Hid (q = rdQ ys) ∧ Hid (E = 0) := by
      rcases HOK.out with ⟨_, h1, h2⟩ | ⟨h, _⟩
      · exact ⟨Lib.hid h1, Lib.hid h2⟩
      · rw [hrk] at h; cases h
    obtain rfl := hE.out
    have hrk' := Lib.hid hrk
    have hwq : Hid ((∀ x ∈ q.set, (Lit.int .u16 x).wf = true) ∧ ∀ x ∈ q.fl, (Lit.int .i64 x).wf = true) := Lib.hid (by rw [hq.out]; exact hwfq.out)
    have HA := Lib.hid ((Told.asked L1.out L2.out O1.out HL.out hwq.out).upAlloc (.cells #[.int .i64 q.c, .int .i64 q.a, .int .i64 q.n, .slice A1 m1 m1, .slice A2 m2 m2, .slice A3 n3 c3] 26))
    have hk : Hid (chk q.c q.a q.n m1 m2 n3 q.fl = chkQ (rdQ ys)) := Lib.hid (by
      rw [← hq.out, chkQ, HL.out.1, HL.out.2, HA.out.lp, Nat.mul_div_cancel_left n3 (by omega)])
    obtain ⟨r, hr⟩ : ∃ r, Hid (chkQ (rdQ ys) = r) := ⟨_, Lib.hid rfl⟩
    rw [hr.out] at hk
    have HC := Lib.hid (Check_any q A1 A2 A3 m1 m2 n3 m1 m2 c3 (w1.alloc (.cells #[.int .i64 q.c, .int .i64 q.a, .int .i64 q.n, .slice A1 m1 m1, .slice A2 m2 m2, .slice A3 n3 c3] 26)) HA.out)
    rw [hk.out] at HC
    have bxn := Lib.hid (heap_alloc_new w1 (.cells #[.int .i64 q.c, .int .i64 q.a, .int .i64 q.n, .slice A1 m1 m1, .slice A2 m2 m2, .slice A3 n3 c3] 26))
    have hz1 : (w1.alloc (.cells #[.int .i64 q.c, .int .i64 q.a, .int .i64 q.n, .slice A1 m1 m1, .slice A2 m2 m2, .slice A3 n3 c3] 26)).heap.size = w1.heap.size + 1 := by simp
    have K1 := Lib.hid (L1.out.below (bel_alloc w1 (.cells #[.int .i64 q.c, .int .i64 q.a, .int .i64 q.n, .slice A1 m1 m1, .slice A2 m2 m2, .slice A3 n3 c3] 26)))
    have K2 := Lib.hid (L2.out.below (bel_alloc w1 (.cells #[.int .i64 q.c, .int .i64 q.a, .int .i64 q.n, .slice A1 m1 m1, .slice A2 m2 m2, .slice A3 n3 c3] 26)))
    have K3 := Lib.hid (O1.out.below (bel_alloc w1 (.cells #[.int .i64 q.c, .int .i64 q.a, .int .i64 q.n, .slice A1 m1 m1, .slice A2 m2 m2, .slice A3 n3 c3] 26)) (Nat.le_refl _))
    have HG := Lib.hid hg
    clear hrk hg HA
    go_wp2_with fail
    refine HC.out.mono ?_
    rintro e w2 ⟨rfl, b2⟩
    have ret2 : Hid (w2.heap[w.heap.size]? = some (.cells #[.int .i64 0, .int .i64 0, .int .i64 0, .slice none 0 0, .slice none 0 0, .slice none 0 0] 26 (0, 0))) := Lib.hid ((b2.block w.heap.size (by rw [hz1]; omega)).trans ((heap_alloc_old w1 _ hs1).trans ret1.out))
    have box2 := Lib.hid ((b2.block w1.heap.size (by rw [hz1]; omega)).trans bxn.out)
    have bel2 : Below w.heap.size w w2 := (bel1.alloc (by omega) _).trans (b2.mono (by rw [hz1]; omega))
    have J1 := Lib.hid (K1.out.below b2)
    have J2 := Lib.hid (K2.out.below b2)
    have J3 := Lib.hid (K3.out.below b2 (Nat.le_refl _))
    clear b2 bxn HC hz1 K1 K2 K3 bel1 ret1 L1 L2 O1
    obtain ⟨⟨d10, d11, d12⟩, ⟨d13, d14, d15⟩, d16⟩ := cells6 ret2.out
    by_cases hr0 : r = 0
    · have hr' := Lib.hid hr0
      obtain rfl := hr0
      have P4 := Lib.hid (below_put6 bel2 (g := w.heap.size) (Nat.le_refl _) (.int .i64 q.c) (.int .i64 q.a) (.int .i64 q.n) (.slice A1 m1 m1) (.slice A2 m2 m2) (.slice A3 n3 c3))
      have P5 := Lib.hid (put6_heap ret2.out (.int .i64 q.c) (.int .i64 q.a) (.int .i64 q.n) (.slice A1 m1 m1) (.slice A2 m2 m2) (.slice A3 n3 c3))
      have P1 := Lib.hid (J1.out.put6 (g' := w.heap.size) (by have := HG.out; omega) (.int .i64 q.c) (.int .i64 q.a) (.int .i64 q.n) (.slice A1 m1 m1) (.slice A2 m2 m2) (.slice A3 n3 c3))
      have P2 := Lib.hid (J2.out.put6 (g' := w.heap.size) (by have := HG.out; omega) (.int .i64 q.c) (.int .i64 q.a) (.int .i64 q.n) (.slice A1 m1 m1) (.slice A2 m2 m2) (.slice A3 n3 c3))
      have P3 := Lib.hid ((J3.out.put6 (g := w.heap.size) (by omega) (.int .i64 q.c) (.int .i64 q.a) (.int .i64 q.n) (.slice A1 m1 m1) (.slice A2 m2 m2) (.slice A3 n3 c3)).mono (base' := w.heap.size) (by omega))
      obtain ⟨⟨c10, c11, c12⟩, ⟨c13, c14, c15⟩, c16⟩ := cells6 box2.out
      go_wp2
      (try simp only [Exit.inBlock, Exit.then])
      show bodyPost _ _ _ _ _ (put6 (w2) w.heap.size (.int .i64 q.c) (.int .i64 q.a) (.int .i64 q.n) (.slice A1 m1 m1) (.slice A2 m2 m2) (.slice A3 n3 c3))
      generalize put6 (w2) w.heap.size (.int .i64 q.c) (.int .i64 q.a) (.int .i64 q.n) (.slice A1 m1 m1) (.slice A2 m2 m2) (.slice A3 n3 c3) = w6 at *
      clear d10 d11 d12 d13 d14 d15 d16 c10 c11 c12 c13 c14 c15 c16
      obtain ⟨⟨d10, d11, d12⟩, ⟨d13, d14, d15⟩, d16⟩ := cells6 P5.out
      refine bodyPost_ret (v := .tuple #[.agg #[.int .i64 q.c, .int .i64 q.a, .int .i64 q.n, .slice A1 m1 m1, .slice A2 m2 m2, .slice A3 n3 c3], .int .i64 0]) (by simp [results, Try.results22, go_sem, d10, d11, d12, d13, d14, d15]) rfl ?_
      have eq1 : q' = q := by rw [← hq'.out, if_neg (by rw [hrk'.out]; simp), hr.out, if_pos rfl, ← hq.out]
      have eE1 : E' = 0 := by rw [← hE'.out, if_neg (by rw [hrk'.out]; simp), hr.out]
      rw [eq1, eE1]
      exact ⟨A1, A2, m1, m2, g1, g2, _, rfl, P1.out, P2.out, P3.out, HL.out, by have := HG.out; omega, P4.out⟩
    · have b1 : (r != 0) = true := by simpa using hr0
      have b2 : (r == 0) = false := beq_false_of_ne hr0
      have hr0' := Lib.hid hr0
      have P4 := Lib.hid (below_put6 bel2 (g := w.heap.size) (Nat.le_refl _) (.int .i64 0) (.int .i64 0) (.int .i64 0) (.slice none 0 0) (.slice none 0 0) (.slice none 0 0))
      have P5 := Lib.hid (put6_heap ret2.out (.int .i64 0) (.int .i64 0) (.int .i64 0) (.slice none 0 0) (.slice none 0 0) (.slice none 0 0))
      clear hr0
      go_wp2
      (try simp only [Exit.inBlock, Exit.then])
      show bodyPost _ _ _ _ _ (put6 (w2) w.heap.size (.int .i64 0) (.int .i64 0) (.int .i64 0) (.slice none 0 0) (.slice none 0 0) (.slice none 0 0))
      generalize put6 (w2) w.heap.size (.int .i64 0) (.int .i64 0) (.int .i64 0) (.slice none 0 0) (.slice none 0 0) (.slice none 0 0) = w6 at *
      clear d10 d11 d12 d13 d14 d15 d16
      obtain ⟨⟨d10, d11, d12⟩, ⟨d13, d14, d15⟩, d16⟩ := cells6 P5.out
      refine bodyPost_ret (v := .tuple #[.agg #[.int .i64 0, .int .i64 0, .int .i64 0, .slice none 0 0, .slice none 0 0, .slice none 0 0], .int .i64 r]) (by simp [results, Try.results22, go_sem, d10, d11, d12, d13, d14, d15]) rfl ?_
      have eq1 : q' = Req.zero := by rw [← hq'.out, if_neg (by rw [hrk'.out]; simp), hr.out, if_neg hr0'.out]
      have eE1 : E' = r := by rw [← hE'.out, if_neg (by rw [hrk'.out]; simp), hr.out]
      rw [eq1, eE1]
      exact Told.zero_ rfl P4.out

/-- Get, of any bytes. -/
theorem Get_any (A : Option Addr) (n c : Nat) (ys : List Int) (w : World) (hr : Row .u8 w w.heap.size A ys) (hn : ys.length = n) (hc : n ≤ c) (hb : n ≤ 140737488355328) :
    Calls Try.prog 22 #[.slice A n c] w (Told w (getQ ys) (getE ys)) := by
  subst hn
  rw [getQ]
  by_cases h0 : ys.length = 0
  · have e : getE ys = 1 := by rw [getE, if_pos h0]
    rw [e, if_neg (by omega), h0]
    exact Get_none A c w
  · by_cases hm : mm (nth ys 0) ≤ 0
    · have e : getE ys = 20 := by rw [getE, if_neg h0, if_pos hm]
      rw [e, if_neg (by omega)]
      exact Get_code A _ c ys w hr rfl hb (by omega) hm
    · by_cases hs : (ys.length : Int) = szOf ys
      · have e : getE ys = if rdOk ys = false then 4 else chkQ (rdQ ys) := by rw [getE, if_neg h0, if_neg hm, if_neg (by omega), if_neg (by omega)]
        have h := Get_rest A _ c ys w hr rfl hc (by omega) (by omega) hs
        rw [← e] at h
        have e2 : (if getE ys = 0 then rdQ ys else Req.zero) = (if rdOk ys = false then Req.zero else if chkQ (rdQ ys) = 0 then rdQ ys else Req.zero) := by
          rw [e]
          cases rdOk ys <;> simp
        rw [e2]
        exact h
      · have e : getE ys = if (ys.length : Int) < szOf ys then 1 else 2 := by
          rw [getE, if_neg h0, if_neg hm]
          split
          · rfl
          · rw [if_pos (by omega)]
        rw [e, if_neg (by split <;> omega)]
        exact Get_size A _ c ys w hr rfl hb (by omega) (by omega) hs
end Go.Proofs.Ytojjcmkadmofdaa
