/-
  Contracts of the document's Get of layer 5: a right frame.
-/
import Derived.Test.YtmbjcmagadekpaaFrRefGet
import Derived.Test.YtmbjcmagadekpaaFrGet4
namespace Go.Proofs.Ytmbjcmagadekpaa
open Go.RowKit
set_option linter.unusedVariables false

theorem Bx.set3 {w0 w : World} {g j : Nat} {o : Obj} (h : Bx w0 g o w) (hg : g < j) (v0 v1 v2 : Value) : Bx w0 g o (((w.setCell ⟨j, 0, none⟩ v0).setCell ⟨j, 1, none⟩ v1).setCell ⟨j, 2, none⟩ v2) := Bx.put3 h hg v0 v1 v2
/-- 'append' of a row that is not empty to a slice of a block of no cells, in any world. -/
theorem append_gen (b o n c : Nat) (xs : List Int) (W : World) (B g z : Nat) (hz : W.heap.size = z) (hg : W.heap[g]? = some (.cells #[] 5 (0, 0))) (hr : Row .u8 W B (some ⟨b, o, none⟩) xs) (hn : xs.length = n) (h1 : 1 ≤ n) (hb : n ≤ 140737488351232) :
    ∃ cap w', (∀ ty, (Builtin.append_ #[34, 34] ty #[.slice (some ⟨g, 0, none⟩) 0 0, .slice (some ⟨b, o, none⟩) n c]).run Try.prog W = .ok (.slice (some ⟨z, 0, none⟩) n cap) w') ∧ KOwn .u8 5 w' z (.slice (some ⟨z, 0, none⟩) n cap) xs ∧ Below z W w' := by
  subst hz
  have h := run_append_full (P := Try.prog) W 34 .u8 5 1 Try.underlying34 info_u8 g 0 [] hg rfl _ _ n c xs hr hn h1 (by omega) (by simp only [maxLen]; omega)
  obtain ⟨cap, h2, h3, h4⟩ := h
  simp only [Nat.zero_add, List.nil_append] at h2
  refine ⟨cap, _, h2, ?_, (below_drew (Below.refl _ _)).alloc (Nat.le_refl _) _⟩
  exact .inr ⟨_, n, cap, List.replicate (cap - n) 0, rfl, Nat.le_refl _, hn, heap_alloc_new W.drew _, by omega, h4, by rw [List.length_replicate]; omega, zeros_wf _⟩
set_option maxHeartbeats 2000000 in
set_option maxRecDepth 100000 in
theorem refGet_yes (b0 o0 n c : Nat) (b : List Int) (w : World) (hr : Row .u8 w w.heap.size (some ⟨b0, o0, none⟩) b) (hn : b.length = n) (hc : n ≤ c) (hmx : n ≤ 140737488351232) (h7 : 7 ≤ n) (hbad : ¬ frBad b) (hs6 : ¬ (b.length : Int) - 6 < frSays b) :
    Calls Try.prog 38 #[.slice (some ⟨b0, o0, none⟩) n c] w (FrGotP w b) := by
  have HE : Hid (frErr b = 0) := Lib.hid (by rw [frErr, if_neg (by omega), if_neg hbad, if_neg hs6])
  have bx := Bx.new w (.cells #[.int .u16 0, .int .u8 0, .slice none 0 0] 57)
  have HN := Lib.hid hn
  have HR := Lib.hid hr
  have hcl : ∀ i, i < n → ∀ W, Below w.heap.size w W → W.cell? ⟨b0, o0 + i, none⟩ = some (.int .u8 (nth b i)) := by
    intro i hi W hb
    obtain ⟨b9, o9, e9, hlt9, hc9⟩ := hr.at_ (i := i) (by omega)
    injection e9 with e9
    injection e9 with e91 e92
    subst e91 e92
    exact (hb.cell (p := ⟨b0, o0 + i, none⟩) hlt9).trans hc9
  have HCL := Lib.hid hcl
  have d2 := hcl 2 (by omega) _ bx.2
  have d3 := hcl 3 (by omega) _ bx.2
  have d4 := hcl 4 (by omega) _ bx.2
  have d5 := hcl 5 (by omega) _ bx.2
  have q2 := wf_nth8 hr.1 2
  have q3 := wf_nth8 hr.1 3
  have q4 := wf_nth8 hr.1 4
  have q5 := wf_nth8 hr.1 5
  have e1 : IntKind.i64.wrap (nth b 4 * 256) = nth b 4 * 256 := IntWalk.i64_in _ (by omega)
  have e3 : IntKind.i64.wrap (nth b 4) = nth b 4 := IntWalk.i64_in _ (by omega)
  have e4 : IntKind.i64.wrap (nth b 5) = nth b 5 := IntWalk.i64_in _ (by omega)
  have j4 : (4 : Int) < (n : Int) := by omega
  have j5 : (5 : Int) < (n : Int) := by omega
  have j3 : (3 : Int) < (n : Int) := by omega
  have j2 : (2 : Int) < (n : Int) := by omega
  have hcases : nth b 2 = 0 ∧ nth b 3 = 0 ∧ ¬ nth b 4 * 256 + nth b 5 < 2 ∧ ¬ 254 < nth b 4 * 256 + nth b 5 ∧ ¬ (n : Int) - 6 < nth b 4 * 256 + nth b 5 := by
    unfold frBad at hbad
    unfold frSays at hbad hs6
    omega
  obtain ⟨h2, h3, hs0, hs1, hs2⟩ := hcases
  have H2 := Lib.hid h2
  have H3 := Lib.hid h3
  obtain ⟨k, e5⟩ := Int.eq_ofNat_of_zero_le (show 0 ≤ nth b 4 * 256 + nth b 5 by omega)
  have e2 : IntKind.i64.wrap (nth b 4 * 256 + nth b 5) = (k : Int) := by rw [e5]; exact IntWalk.i64_in _ (by omega)
  have hk : 2 ≤ k ∧ k ≤ 254 := by omega
  have hkn : 6 + k ≤ n := by omega
  rw [e5] at hs0 hs1 hs2
  have HSY : Hid ((frSays b).toNat = k) := Lib.hid (by unfold frSays; omega)
  have HLEN : Hid (frLen b = 6 + k) := Lib.hid (by rw [frLen, if_pos HE.out, HSY.out])
  have HG : Hid (frGot b = ⟨nth b 0 * 256 + nth b 1, nth b 6, (b.take (6 + k)).drop 7⟩) := Lib.hid (by rw [frGot, if_pos HE.out, HSY.out])
  have HL : Hid (((b.take (6 + k)).drop 7).length = k - 1) := Lib.hid (by rw [List.length_drop, List.length_take]; omega)
  have HW : Hid (∀ x ∈ (b.take (6 + k)).drop 7, (Lit.int .u8 x).wf = true) := Lib.hid (fun x hx => hr.1 x (List.mem_of_mem_take (List.mem_of_mem_drop hx)))
  have HRR : Hid (∀ W, Below w.heap.size w W → Row .u8 W W.heap.size (some ⟨b0, o0 + 7, none⟩) ((b.take (6 + k)).drop 7)) := Lib.hid (fun W hb => ((((hr.front (6 + k)).drop 7).below hb).more hb.size))
  have q0 := wf_nth8 hr.1 0
  have q1 := wf_nth8 hr.1 1
  have q6 := wf_nth8 hr.1 6
  have f0 : IntKind.u16.wrap (nth b 0) = nth b 0 := by rw [IntKind.wrap_u16]; omega
  have f1 : IntKind.u16.wrap (nth b 1) = nth b 1 := by rw [IntKind.wrap_u16]; omega
  have f2 : IntKind.u16.wrap (nth b 0 * 256) = nth b 0 * 256 := by rw [IntKind.wrap_u16]; omega
  have f3 : IntKind.u16.wrap (nth b 0 * 256 + nth b 1) = nth b 0 * 256 + nth b 1 := by rw [IntKind.wrap_u16]; omega
  have f4 : IntKind.i64.wrap (6 + (k : Int)) = 6 + (k : Int) := IntWalk.i64_in _ (by omega)
  have f5 : IntKind.i64.wrap ((n : Int) - 6) = (n : Int) - 6 := IntWalk.i64_in _ (by omega)
  have i6 : (7 : Int) ≤ 6 + (k : Int) := by omega
  have i7 : 6 + (k : Int) ≤ (c : Int) := by omega
  have i8 : ¬ c = 7 := by omega
  have i9 : (6 : Int) < (n : Int) := by omega
  have i10 : (0 : Int) < (n : Int) := by omega
  have i12 : 0 < n := by omega
  have i11 : (1 : Int) < (n : Int) := by omega
  have hk1 : 1 ≤ k - 1 := by omega
  have hk8 : (6 + (k : Int)).toNat - 7 = k - 1 := by omega
  have HC9 : Hid (∀ W, Bx w w.heap.size (.cells #[.int .u16 0, .int .u8 0, .slice none 0 0] 57 (0, 0)) W → Bx w w.heap.size (.cells #[.int .u16 0, .int .u8 0, .slice none 0 0] 57 (0, 0)) W ∧ W.cell? ⟨b0, o0, none⟩ = some (.int .u8 (nth b 0)) ∧ W.cell? ⟨b0, o0 + 1, none⟩ = some (.int .u8 (nth b 1)) ∧ W.cell? ⟨b0, o0 + 6, none⟩ = some (.int .u8 (nth b 6))) := Lib.hid (fun W hb => ⟨hb, HCL.out 0 (by omega) W hb.2, HCL.out 1 (by omega) W hb.2, HCL.out 6 (by omega) W hb.2⟩)
  clear hcl h2 h3 hr hn hbad hs6 q0 q1 q2 q3 q4 q5 q6 hk
  go_enter Try.func38, Try.ntmps38
  go_wp2
  go_quiet (fail)
  have bx2 := bx.drewN nq
  have P5 := Lib.hid (put3_heap bx2.1 (.int .u16 0) (.int .u8 0) (.slice none 0 0))
  have B5 := Lib.hid (below_put3 bx2.2 (Nat.le_refl _) (.int .u16 0) (.int .u8 0) (.slice none 0 0))
  have d2 := HCL.out 2 (by omega) _ bx2.2
  have d3 := HCL.out 3 (by omega) _ bx2.2
  obtain ⟨z0, z1, z2⟩ := cells3 bx2.1
  have zf := fun i => block_frozen _ _ i _ _ bx2.1
  generalize (w.alloc (.cells #[.int .u16 0, .int .u8 0, .slice none 0 0] 57)).drewN nq = w2 at *
  rw [H2.out] at d2
  rw [H3.out] at d3
  clear z0 z1 z2 zf
  go_wp2_with fail
  clear d2 d3 d4 d5
  have bxd := bx2.drew
  have c1 := (bx2.alloc (.cells #[] 5)).drew
  have c2 := ((bx2.alloc (.cells #[] 5)).alloc (.cells #[.int .u16 0, .int .u8 0, .slice none 0 0] 57)).drew
  have c3 := ((bx2.alloc (.cells #[.int .u16 0, .int .u8 0, .slice none 0 0] 57)).alloc (.cells #[] 5)).drew
  obtain ⟨cap1, w51, hap1, own51, b51⟩ := append_gen b0 (o0 + 7) (k - 1) (c - 7) ((b.take (6 + k)).drop 7) ((w2.alloc (.cells #[] 5)).drew) _ w2.heap.size (w2.heap.size + 1) (by show (w2.alloc _).heap.size = _; simp) (heap_alloc_new w2 _) (HRR.out _ c1.2) HL.out hk1 (by omega)
  obtain ⟨cap2, w52, hap2, own52, b52⟩ := append_gen b0 (o0 + 7) (k - 1) (c - 7) ((b.take (6 + k)).drop 7) (((w2.alloc (.cells #[] 5)).alloc (.cells #[.int .u16 0, .int .u8 0, .slice none 0 0] 57)).drew) _ w2.heap.size (w2.heap.size + 2) (by show ((w2.alloc _).alloc _).heap.size = _; simp) ((heap_alloc_old (w2.alloc (.cells #[] 5)) _ (by simp)).trans (heap_alloc_new w2 _)) (HRR.out _ c2.2) HL.out hk1 (by omega)
  obtain ⟨cap3, w53, hap3, own53, b53⟩ := append_gen b0 (o0 + 7) (k - 1) (c - 7) ((b.take (6 + k)).drop 7) (((w2.alloc (.cells #[.int .u16 0, .int .u8 0, .slice none 0 0] 57)).alloc (.cells #[] 5)).drew) _ (w2.heap.size + 1) (w2.heap.size + 2) (by show ((w2.alloc _).alloc _).heap.size = _; simp) (heap_alloc_two w2 _ _) (HRR.out _ c3.2) HL.out hk1 (by omega)
  have bx51 := Bx.below2 c1 b51 (by have := bx2.lt; omega)
  have bx52 := Bx.below2 c2 b52 (by have := bx2.lt; omega)
  have bx53 := Bx.below2 c3 b53 (by have := bx2.lt; omega)
  have hb2 : w52.heap[w2.heap.size + 1]? = some (.cells #[.int .u16 0, .int .u8 0, .slice none 0 0] 57 (0, 0)) := (b52.block _ (by omega)).trans (heap_alloc_two w2 _ _)
  have hb3 : w53.heap[w2.heap.size]? = some (.cells #[.int .u16 0, .int .u8 0, .slice none 0 0] 57 (0, 0)) := (b53.block _ (by omega)).trans ((heap_alloc_old (w2.alloc (.cells #[.int .u16 0, .int .u8 0, .slice none 0 0] 57)) _ (by simp)).trans (heap_alloc_new w2 _))
  obtain ⟨p20, p21, p22⟩ := cells3 hb2
  have p23 := fun i => block_frozen _ _ i _ _ hb2
  obtain ⟨p30, p31, p32⟩ := cells3 hb3
  have p33 := fun i => block_frozen _ _ i _ _ hb3
  have h92 : w.heap.size < w2.heap.size + 1 := by have := bx2.lt; omega
  have h93 : w.heap.size < w2.heap.size := bx2.lt
  have HAP1 := Lib.hid hap1
  have HAP2 := Lib.hid hap2
  have HAP3 := Lib.hid hap3
  have HB2 := Lib.hid hb2
  have HB3 := Lib.hid hb3
  clear hap1 hap2 hap3 c1 c2 c3 hb2 hb3
  go_region_held3 (fun w' => Bx w w.heap.size (.cells #[.int .u16 0, .int .u8 0, .slice none 0 0] 57 (0, 0)) w' ∧ w'.cell? ⟨b0, o0, none⟩ = some (.int .u8 (nth b 0)) ∧ w'.cell? ⟨b0, o0 + 1, none⟩ = some (.int .u8 (nth b 1)) ∧ w'.cell? ⟨b0, o0 + 6, none⟩ = some (.int .u8 (nth b 6)))
    ((refine HC9.out _ ?_
      with_reducible first
      | exact bxd
      | exact bx2.drewN _
      | exact (bx2.alloc _).drew
      | exact (bx2.alloc _).drewN _
      | exact ((bx2.alloc _).alloc _).drew
      | exact ((bx2.alloc _).alloc _).drewN _
      | exact bx51
      | exact bx52
      | exact bx53
      | exact bx51.alloc _
      | exact Bx.set3 bx52 h92 _ _ _
      | exact Bx.set3 bx53 h93 _ _ _))
    (first
      | ((with_reducible show if _ then Oper.wp _ _ _ ((w2.alloc (.cells #[] 5)).drew) _ _ else _); refine step_append_run ((w2.alloc (.cells #[] 5)).drew) rfl _ _ 34 rfl _ _ _ w51 rfl rfl HAP1.out ?_)
      | ((with_reducible show if _ then Oper.wp _ _ _ (((w2.alloc (.cells #[] 5)).alloc (.cells #[.int .u16 0, .int .u8 0, .slice none 0 0] 57)).drew) _ _ else _); refine step_append_run (((w2.alloc (.cells #[] 5)).alloc (.cells #[.int .u16 0, .int .u8 0, .slice none 0 0] 57)).drew) rfl _ _ 34 rfl _ _ _ w52 rfl rfl HAP2.out ?_)
      | ((with_reducible show if _ then Oper.wp _ _ _ (((w2.alloc (.cells #[.int .u16 0, .int .u8 0, .slice none 0 0] 57)).alloc (.cells #[] 5)).drew) _ _ else _); refine step_append_run (((w2.alloc (.cells #[.int .u16 0, .int .u8 0, .slice none 0 0] 57)).alloc (.cells #[] 5)).drew) rfl _ _ 34 rfl _ _ _ w53 rfl rfl HAP3.out ?_))
  · have bx7 := bx51.alloc (.cells #[.int .u16 (nth b 0 * 256 + nth b 1), .int .u8 (nth b 6), .slice (some ⟨w2.heap.size + 1, 0, none⟩) (k - 1) cap1] 57)
    have y := cells3 (heap_alloc_new w51 (.cells #[.int .u16 (nth b 0 * 256 + nth b 1), .int .u8 (nth b 6), .slice (some ⟨w2.heap.size + 1, 0, none⟩) (k - 1) cap1] 57))
    have own7 := Lib.hid ((own51.below (bel_alloc w51 (.cells #[.int .u16 (nth b 0 * 256 + nth b 1), .int .u8 (nth b 6), .slice (some ⟨w2.heap.size + 1, 0, none⟩) (k - 1) cap1] 57)) (Nat.le_refl _)).mono (base' := w.heap.size + 1) (by omega))
    show Exit.then _ _ _ _ (w51.alloc (.cells #[.int .u16 (nth b 0 * 256 + nth b 1), .int .u8 (nth b 6), .slice (some ⟨w2.heap.size + 1, 0, none⟩) (k - 1) cap1] 57))
    generalize w51.alloc (.cells #[.int .u16 (nth b 0 * 256 + nth b 1), .int .u8 (nth b 6), .slice (some ⟨w2.heap.size + 1, 0, none⟩) (k - 1) cap1] 57) = w7 at *
    obtain ⟨y0, y1, y2⟩ := y
    obtain ⟨d0, d1, d2⟩ := cells3 bx7.1
    have fz := fun i => block_frozen _ _ i _ _ bx7.1
    have P6 := Lib.hid (put3_heap bx7.1 (.int .u16 (nth b 0 * 256 + nth b 1)) (.int .u8 (nth b 6)) (.slice (some ⟨w2.heap.size + 1, 0, none⟩) (k - 1) cap1))
    have B6 := Lib.hid (below_put3 bx7.2 (Nat.le_refl _) (.int .u16 (nth b 0 * 256 + nth b 1)) (.int .u8 (nth b 6)) (.slice (some ⟨w2.heap.size + 1, 0, none⟩) (k - 1) cap1))
    have O6 := Lib.hid (own7.out.put3 (g := w.heap.size) (Nat.lt_succ_self _) (.int .u16 (nth b 0 * 256 + nth b 1)) (.int .u8 (nth b 6)) (.slice (some ⟨w2.heap.size + 1, 0, none⟩) (k - 1) cap1))
    have HCAST : Hid (((6 + k : Nat) : Int) = 6 + (k : Int)) := Lib.hid (by omega)
    clear own7 bx7 bx51 bx52 bx53 b51 b52 b53 own51 own52 own53 p20 p21 p22 p23 p30 p31 p32 p33 bx2 bxd
    go_wp2
    (try simp only [Exit.inBlock, Exit.then])
    show bodyPost _ _ _ _ _ (put3 w7 w.heap.size (.int .u16 (nth b 0 * 256 + nth b 1)) (.int .u8 (nth b 6)) (.slice (some ⟨w2.heap.size + 1, 0, none⟩) (k - 1) cap1))
    generalize put3 w7 w.heap.size (.int .u16 (nth b 0 * 256 + nth b 1)) (.int .u8 (nth b 6)) (.slice (some ⟨w2.heap.size + 1, 0, none⟩) (k - 1) cap1) = w9 at *
    obtain ⟨x0, x1, x2⟩ := cells3 P6.out
    refine bodyPost_ret (v := .tuple #[.agg #[.int .u16 (nth b 0 * 256 + nth b 1), .int .u8 (nth b 6), .slice (some ⟨w2.heap.size + 1, 0, none⟩) (k - 1) cap1], .int .i64 (6 + (k : Int)), .int .i64 0]) (by simp [results, Try.results38, go_sem, x0, x1, x2]) rfl ?_
    exact ⟨_, by rw [HG.out, HLEN.out, HE.out, HCAST.out], by rw [HG.out]; exact O6.out.mono (Nat.le_succ _), B6.out⟩
  · have bx7 := Bx.put3 bx52 h92 (.int .u16 (nth b 0 * 256 + nth b 1)) (.int .u8 (nth b 6)) (.slice (some ⟨w2.heap.size + 2, 0, none⟩) (k - 1) cap2)
    have y := cells3 (put3_heap HB2.out (.int .u16 (nth b 0 * 256 + nth b 1)) (.int .u8 (nth b 6)) (.slice (some ⟨w2.heap.size + 2, 0, none⟩) (k - 1) cap2))
    have own7 := Lib.hid ((own52.put3 (g := w2.heap.size + 1) (by omega) (.int .u16 (nth b 0 * 256 + nth b 1)) (.int .u8 (nth b 6)) (.slice (some ⟨w2.heap.size + 2, 0, none⟩) (k - 1) cap2)).mono (base' := w.heap.size + 1) (by omega))
    show Exit.then _ _ _ _ (put3 w52 (w2.heap.size + 1) (.int .u16 (nth b 0 * 256 + nth b 1)) (.int .u8 (nth b 6)) (.slice (some ⟨w2.heap.size + 2, 0, none⟩) (k - 1) cap2))
    generalize put3 w52 (w2.heap.size + 1) (.int .u16 (nth b 0 * 256 + nth b 1)) (.int .u8 (nth b 6)) (.slice (some ⟨w2.heap.size + 2, 0, none⟩) (k - 1) cap2) = w7 at *
    obtain ⟨y0, y1, y2⟩ := y
    obtain ⟨d0, d1, d2⟩ := cells3 bx7.1
    have fz := fun i => block_frozen _ _ i _ _ bx7.1
    have P6 := Lib.hid (put3_heap bx7.1 (.int .u16 (nth b 0 * 256 + nth b 1)) (.int .u8 (nth b 6)) (.slice (some ⟨w2.heap.size + 2, 0, none⟩) (k - 1) cap2))
    have B6 := Lib.hid (below_put3 bx7.2 (Nat.le_refl _) (.int .u16 (nth b 0 * 256 + nth b 1)) (.int .u8 (nth b 6)) (.slice (some ⟨w2.heap.size + 2, 0, none⟩) (k - 1) cap2))
    have O6 := Lib.hid (own7.out.put3 (g := w.heap.size) (Nat.lt_succ_self _) (.int .u16 (nth b 0 * 256 + nth b 1)) (.int .u8 (nth b 6)) (.slice (some ⟨w2.heap.size + 2, 0, none⟩) (k - 1) cap2))
    have HCAST : Hid (((6 + k : Nat) : Int) = 6 + (k : Int)) := Lib.hid (by omega)
    clear own7 bx7 bx51 bx52 bx53 b51 b52 b53 own51 own52 own53 p20 p21 p22 p23 p30 p31 p32 p33 bx2 bxd
    go_wp2
    (try simp only [Exit.inBlock, Exit.then])
    show bodyPost _ _ _ _ _ (put3 w7 w.heap.size (.int .u16 (nth b 0 * 256 + nth b 1)) (.int .u8 (nth b 6)) (.slice (some ⟨w2.heap.size + 2, 0, none⟩) (k - 1) cap2))
    generalize put3 w7 w.heap.size (.int .u16 (nth b 0 * 256 + nth b 1)) (.int .u8 (nth b 6)) (.slice (some ⟨w2.heap.size + 2, 0, none⟩) (k - 1) cap2) = w9 at *
    obtain ⟨x0, x1, x2⟩ := cells3 P6.out
    refine bodyPost_ret (v := .tuple #[.agg #[.int .u16 (nth b 0 * 256 + nth b 1), .int .u8 (nth b 6), .slice (some ⟨w2.heap.size + 2, 0, none⟩) (k - 1) cap2], .int .i64 (6 + (k : Int)), .int .i64 0]) (by simp [results, Try.results38, go_sem, x0, x1, x2]) rfl ?_
    exact ⟨_, by rw [HG.out, HLEN.out, HE.out, HCAST.out], by rw [HG.out]; exact O6.out.mono (Nat.le_succ _), B6.out⟩
  · have bx7 := Bx.put3 bx53 h93 (.int .u16 (nth b 0 * 256 + nth b 1)) (.int .u8 (nth b 6)) (.slice (some ⟨w2.heap.size + 2, 0, none⟩) (k - 1) cap3)
    have y := cells3 (put3_heap HB3.out (.int .u16 (nth b 0 * 256 + nth b 1)) (.int .u8 (nth b 6)) (.slice (some ⟨w2.heap.size + 2, 0, none⟩) (k - 1) cap3))
    have own7 := Lib.hid ((own53.put3 (g := w2.heap.size) (by omega) (.int .u16 (nth b 0 * 256 + nth b 1)) (.int .u8 (nth b 6)) (.slice (some ⟨w2.heap.size + 2, 0, none⟩) (k - 1) cap3)).mono (base' := w.heap.size + 1) (by omega))
    show Exit.then _ _ _ _ (put3 w53 (w2.heap.size) (.int .u16 (nth b 0 * 256 + nth b 1)) (.int .u8 (nth b 6)) (.slice (some ⟨w2.heap.size + 2, 0, none⟩) (k - 1) cap3))
    generalize put3 w53 (w2.heap.size) (.int .u16 (nth b 0 * 256 + nth b 1)) (.int .u8 (nth b 6)) (.slice (some ⟨w2.heap.size + 2, 0, none⟩) (k - 1) cap3) = w7 at *
    obtain ⟨y0, y1, y2⟩ := y
    obtain ⟨d0, d1, d2⟩ := cells3 bx7.1
    have fz := fun i => block_frozen _ _ i _ _ bx7.1
    have P6 := Lib.hid (put3_heap bx7.1 (.int .u16 (nth b 0 * 256 + nth b 1)) (.int .u8 (nth b 6)) (.slice (some ⟨w2.heap.size + 2, 0, none⟩) (k - 1) cap3))
    have B6 := Lib.hid (below_put3 bx7.2 (Nat.le_refl _) (.int .u16 (nth b 0 * 256 + nth b 1)) (.int .u8 (nth b 6)) (.slice (some ⟨w2.heap.size + 2, 0, none⟩) (k - 1) cap3))
    have O6 := Lib.hid (own7.out.put3 (g := w.heap.size) (Nat.lt_succ_self _) (.int .u16 (nth b 0 * 256 + nth b 1)) (.int .u8 (nth b 6)) (.slice (some ⟨w2.heap.size + 2, 0, none⟩) (k - 1) cap3))
    have HCAST : Hid (((6 + k : Nat) : Int) = 6 + (k : Int)) := Lib.hid (by omega)
    clear own7 bx7 bx51 bx52 bx53 b51 b52 b53 own51 own52 own53 p20 p21 p22 p23 p30 p31 p32 p33 bx2 bxd
    go_wp2
    (try simp only [Exit.inBlock, Exit.then])
    show bodyPost _ _ _ _ _ (put3 w7 w.heap.size (.int .u16 (nth b 0 * 256 + nth b 1)) (.int .u8 (nth b 6)) (.slice (some ⟨w2.heap.size + 2, 0, none⟩) (k - 1) cap3))
    generalize put3 w7 w.heap.size (.int .u16 (nth b 0 * 256 + nth b 1)) (.int .u8 (nth b 6)) (.slice (some ⟨w2.heap.size + 2, 0, none⟩) (k - 1) cap3) = w9 at *
    obtain ⟨x0, x1, x2⟩ := cells3 P6.out
    refine bodyPost_ret (v := .tuple #[.agg #[.int .u16 (nth b 0 * 256 + nth b 1), .int .u8 (nth b 6), .slice (some ⟨w2.heap.size + 2, 0, none⟩) (k - 1) cap3], .int .i64 (6 + (k : Int)), .int .i64 0]) (by simp [results, Try.results38, go_sem, x0, x1, x2]) rfl ?_
    exact ⟨_, by rw [HG.out, HLEN.out, HE.out, HCAST.out], by rw [HG.out]; exact O6.out.mono (Nat.le_succ _), B6.out⟩
theorem refGet_any (A : Option Addr) (n c : Nat) (b : List Int) (w : World) (hr : Row .u8 w w.heap.size A b) (hn : b.length = n) (hc : n ≤ c) (hmx : n ≤ 140737488351232) :
    Calls Try.prog 38 #[.slice A n c] w (FrGotP w b) := by
  by_cases h7 : n < 7
  · exact refGet_small A n c b w hn h7
  · obtain ⟨b0, o0, rfl, _, _⟩ := hr.at_ (i := 0) (by omega)
    by_cases hb : frBad b
    · exact refGet_form b0 o0 n c b w hr hn hc (by omega) hb
    · by_cases hs : (b.length : Int) - 6 < frSays b
      · exact refGet_part b0 o0 n c b w hr hn hc (by omega) hb hs
      · exact refGet_yes b0 o0 n c b w hr hn hc hmx (by omega) hb hs
end Go.Proofs.Ytmbjcmagadekpaa
