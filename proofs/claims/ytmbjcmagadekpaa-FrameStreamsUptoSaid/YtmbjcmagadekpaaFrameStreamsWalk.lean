/-
  The walk of FrameStreams, of streams that a machine can hold.
-/
import Derived.Test.YtmbjcmagadekpaaFrRefSplit
import Derived.Test.YtmbjcmagadekpaaTcKit2
import Derived.Test.YtmbjcmagadekpaaFrPutK
namespace Go.Proofs.Ytmbjcmagadekpaa
open Go.RowKit
set_option linter.unusedVariables false

theorem TOwnR.keptFar {w w' : World} {br bp : Nat} {v : Value} {fs : List Tc} (h : TOwnR w br bp v fs) {row : Option Nat} (hg : w.grownBy w' row) (h1 : ∀ q, row = some q → q < br) (h2 : ∀ q, row = some q → q < bp) : TOwnR w' br bp v fs := by
  obtain ⟨L, e, k2, k3⟩ := h
  refine ⟨L, e, k2.kept hg ?_, fun p hp => ⟨(k3 p hp).1.kept hg ?_, (k3 p hp).2⟩⟩
  · cases hv : v.ownBlock with
    | none => exact .inl rfl
    | some g => exact .inr (fun e => by have a := (World.ownsRow.lt k2 g hv).1; have b := h1 g e.symm; omega)
  · cases hv : p.2.ownBlock with
    | none => exact .inl rfl
    | some g => exact .inr (fun e => by have a := ((k3 p hp).1.block g hv).1; have b := h2 g e.symm; omega)
theorem frPut_short (f : Tc) : (frPut f).length ≤ 300 := by
  unfold frPut
  split
  · rename_i h
    have := frChk_le h
    rw [List.length_append, frHead_length]; omega
  · simp
theorem Bk.grown {w w' : World} {g : Nat} {l : List Int} {row : Option Nat} (h : Bk w g l) (hg : w.grownBy w' row) (hne : row ≠ some g) : Bk w' g l := (hg.block g h.lt (fun e => hne e.symm)).trans h
/-- A list of the call's own and a lent one share no memory. -/
theorem apart2K_u8 (w : World) (base B : Nat) (v : Value) (xs : List Int) (g m : Nat) (l : List Int) (t : TypeId) (h : KOwn .u8 5 w base v xs) (h3 : Bk w g (l ++ marks5)) (hw : ∀ x ∈ xs, (Lit.int .u8 x).wf = true) (hm : xs.length ≤ 140737488355328) (f3 : ∀ x ∈ l, (Lit.int .u8 x).wf = true) (n3 : l.length = m) (q3 : m ≤ 140737488351232) (hg : g < base) (hB : B ≤ g) (hBw : B ≤ w.heap.size) :
    Calls Try.prog 22 #[.slice (some ⟨w.heap.size, 0, none⟩) 2 2] (w.alloc (.cells #[v, .slice (some ⟨g, 0, none⟩) m (m + 5)] t)) fun e w' => e = .returned (.bool true) ∧ Below B w w' := by
  obtain ⟨E, hE, ok, hb⟩ := h.entK hw hm (B := B) (by omega)
  have hfar : [E, ⟨some g, [], m, m + 5, l ++ marks5, []⟩].Pairwise EntK.Far := by
    refine List.pairwise_cons.2 ⟨fun e he => ?_, List.pairwise_singleton _ _⟩
    simp only [List.mem_singleton] at he
    subst he
    intro q h5 h4
    have h4 : some g = some q := h4
    injection h4 with h4
    have := hb q h5
    omega
  have hok : ∀ e ∈ [E, ⟨some g, [], m, m + 5, l ++ marks5, []⟩], e.Ok w B := by
    intro e he
    simp only [List.mem_cons, List.not_mem_nil, or_false] at he
    rcases he with rfl | rfl
    · exact ok
    · exact ⟨⟨by show m ≤ m + 5; omega, ⟨by show m + 5 ≤ _; omega, by show m ≤ _; omega⟩, by show (l ++ marks5).length = m + 5; rw [List.length_append, n3]; rfl⟩, wf_append f3 (by decide), .inr ⟨_, rfl, hB, by rw [List.append_nil, List.nil_append]; exact h3⟩⟩
  have h := apartK_list_u8 w B _ t hok hfar hBw (by simp)
  simp only [List.map_cons, List.map_nil, hE] at h
  exact h

set_option maxHeartbeats 8000000 in
set_option maxRecDepth 100000 in
theorem walk_FrameStreams (id u : Int) (l : List Int) (A : Option Addr) (n c : Nat) (a1 : Option Addr) (l1 c1 : Nat) (x1 : List Int) (w : World) (w0 : Row .u8 w w.heap.size A l) (n0 : l.length = n) (s0 : n ≤ c) (m0 : c ≤ 140737488351232) (wi : (Lit.int .u16 id).wf = true) (wu : (Lit.int .u8 u).wf = true)
    (w1 : Row .u8 w w.heap.size a1 x1) (n1 : x1.length = l1) (s1 : l1 ≤ c1) (m1 : c1 ≤ 140737488351232) (hmx : l1 ≤ 30000000000000) :
    Calls Try.prog 8 #[.agg #[.int .u16 id, .int .u8 u, .slice A n c], .slice a1 l1 c1] w fun e w' => e = .returned (.bool true) ∧ Below w.heap.size w w' := by
  have bx0 := Bx.new w (.cells #[.int .u16 id, .int .u8 u, .slice A n c] 57)
  have HN := Lib.hid n0
  have HN1 := Lib.hid n1
  have hwf := Lib.hid w0.1
  have hwf1 := Lib.hid w1.1
  have W0 := Lib.hid w0
  have W1 := Lib.hid w1
  have hi := wf_u16 wi
  have hu := wf_u8 wu
  have HFP : Hid (∀ x ∈ frPut ⟨id, u, l⟩, (Lit.int .u8 x).wf = true) := Lib.hid (frPut_wf ⟨hi, hu, w0.1⟩)
  obtain ⟨P, hP⟩ : ∃ P, Hid (frPut ⟨id, u, l⟩ = P) := ⟨_, Lib.hid rfl⟩
  obtain ⟨E, hE⟩ : ∃ E, Hid (frChk l = E) := ⟨_, Lib.hid rfl⟩
  obtain ⟨mp, hmp⟩ : ∃ m, Hid (P.length = m) := ⟨_, Lib.hid rfl⟩
  have hmp2 : mp ≤ 300 := by rw [← hmp.out, ← hP.out]; exact frPut_short _
  rw [hP.out] at HFP
  clear wi wu n0 n1 w0 w1
  go_enter Try.func8, Try.ntmps8
  go_wp2_with fail
  generalize w.alloc (.cells #[.int .u16 id, .int .u8 u, .slice A n c] 57) = wb at *
  refine (lent_u8 A n c l wb ((W0.out.below bx0.2).more (Nat.le_of_lt bx0.lt)) HN.out (by omega)).mono ?_
  rintro e w' ⟨rfl, rfl⟩
  have k2 : Bk (wb.alloc (.cells (blk .u8 (l ++ marks5)) 5)) wb.heap.size (l ++ marks5) := heap_alloc_new wb _
  have bl2 : Below wb.heap.size wb (wb.alloc (.cells (blk .u8 (l ++ marks5)) 5)) := bel_alloc wb _
  have hgb := bx0.lt
  generalize wb.alloc (.cells (blk .u8 (l ++ marks5)) 5) = w2 at *
  have bx2 := bx0.below bl2
  have hk2 := k2.lt
  clear bx0 bl2
  obtain ⟨d0, d1, d2⟩ := cells3 bx2.1
  go_wp2_with fail
  clear d0 d1 d2
  refine (frPutK_any id u (some ⟨wb.heap.size, 0, none⟩) n (n + 5) l w2 (k2.row l hwf.out (List.prefix_append _ _)) HN.out hi hu).mono ?_
  rintro e w3 ⟨v3, rfl, o3, b3⟩
  rw [hE.out]
  rw [hP.out] at o3
  have bx3 := bx2.below b3
  have k3 := k2.below b3
  clear bx2 b3 k2
  obtain ⟨d0, d1, d2⟩ := cells3 bx3.1
  go_wp2_with fail
  clear d0 d1 d2
  refine (refFrPut_any id u A n c l w3 ((W0.out.below bx3.2).more (Nat.le_of_lt bx3.lt)) HN.out hi hu).mono ?_
  rintro e w4 ⟨v4, rfl, o4, b4⟩
  rw [hE.out]
  rw [hP.out] at o4
  have bx4 := bx3.below b4
  have k4 := k3.below b4
  have p4 := o3.below b4 (Nat.le_refl _)
  clear bx3 b4 k3 o3
  obtain ⟨Ap, cp, hv3, rp, _, _⟩ := p4.row HFP.out
  obtain ⟨Aq, cq, hv4, rq, _, _⟩ := o4.row HFP.out
  rw [hmp.out] at hv3 hv4
  subst hv3 hv4
  have RP := Lib.hid rp
  have RQ := Lib.hid rq
  have tE : (E != E) = false := by simp
  clear rp rq o4
  go_wp2_with fail
  refine (same_yes_u8 _ _ _ _ _ P _ _ _ RP.out RQ.out hmp.out (by omega)).mono ?_
  rintro e w5 ⟨rfl, m5, hw5⟩
  have b5 : Below w4.heap.size w4 w5 := by rw [hw5]; exact bel_drewN _ _
  have bx5 := bx4.below b5
  have k5 := k4.below b5
  have p5 := p4.below b5 (Nat.le_refl _)
  clear bx4 b5 k4 p4 hw5 RP RQ
  obtain ⟨d0, d1, d2⟩ := cells3 bx5.1
  go_wp2_with fail
  clear d0 d1 d2
  refine (kept_u8 A n c wb.heap.size l _ _ (W0.out.below bx5.2) HN.out (by omega) k5).mono ?_
  rintro e w6 ⟨rfl, m6, hw6⟩
  have b6 : Below w5.heap.size w5 w6 := by rw [hw6]; exact bel_drewN _ _
  have bx6 := bx5.below b6
  have k6 := k5.below b6
  have p6 := p5.below b6 (Nat.le_refl _)
  clear bx5 b6 k5 p5 hw6
  have HAP := Lib.hid (apart2K_u8 w6 w2.heap.size wb.heap.size _ P wb.heap.size n l 34 p6 k6 HFP.out (by have := hmp.out; omega) hwf.out HN.out (by omega) hk2 (Nat.le_refl _) (Nat.le_of_lt k6.lt))
  clear k6 p6
  go_wp2_with fail
  refine HAP.out.mono ?_
  rintro e w7 ⟨rfl, b7⟩
  have bel7 : Below w.heap.size w w7 := bx6.2.trans (b7.mono (Nat.le_of_lt hgb))
  clear HAP b7 bx6
  go_wp2_with fail
  refine (lent_u8 a1 l1 c1 x1 w7 ((W1.out.below bel7).more bel7.size) HN1.out (by omega)).mono ?_
  rintro e w' ⟨rfl, rfl⟩
  have k8 : Bk (w7.alloc (.cells (blk .u8 (x1 ++ marks5)) 5)) w7.heap.size (x1 ++ marks5) := heap_alloc_new w7 _
  have bel8 := bel7.alloc bel7.size (.cells (blk .u8 (x1 ++ marks5)) 5)
  have HZ7 : Hid (w.heap.size ≤ w7.heap.size) := Lib.hid bel7.size
  generalize w7.alloc (.cells (blk .u8 (x1 ++ marks5)) 5) = w8 at *
  have hk8 := k8.lt
  clear bel7
  obtain ⟨f, hf⟩ : ∃ f, Hid (frGot x1 = f) := ⟨_, Lib.hid rfl⟩
  obtain ⟨N, hN⟩ : ∃ N, Hid (frLen x1 = N) := ⟨_, Lib.hid rfl⟩
  obtain ⟨G, hG⟩ : ∃ G, Hid (frErr x1 = G) := ⟨_, Lib.hid rfl⟩
  have HFW : Hid f.Wf := Lib.hid (by rw [← hf.out]; exact frGot_wf hwf1.out)
  have hfl : Hid (f.l.length ≤ 140737488351232) := Lib.hid (by
    rw [← hf.out]; unfold frGot; split
    · show ((x1.take _).drop 7).length ≤ _
      rw [List.length_drop, List.length_take]; have := HN1.out; omega
    · simp [Tc.zero])
  go_wp2_with fail
  refine (frGet_any (some ⟨w7.heap.size, 0, none⟩) l1 (l1 + 5) x1 w8 (k8.row x1 hwf1.out (List.prefix_append _ _)) HN1.out (by omega)).mono ?_
  rintro e w9 ⟨v9, rfl, o9, b9⟩
  rw [hf.out] at o9 ⊢
  rw [hN.out, hG.out]
  have k9 := k8.below b9
  have bel9 := bel8.trans (b9.mono bel8.size)
  obtain ⟨A9, c9, hv9, r9, _, _⟩ := o9.row HFW.out.l
  subst hv9
  have HX9 := Lib.hid o9.block
  obtain ⟨id9, u9, l9⟩ := f
  have bA := bel_alloc w9 (.cells #[.int .u16 id9, .int .u8 u9, .slice A9 l9.length c9] 57)
  have yA : (w9.alloc (.cells #[.int .u16 id9, .int .u8 u9, .slice A9 l9.length c9] 57)).heap[w9.heap.size]? = some (.cells #[.int .u16 id9, .int .u8 u9, .slice A9 l9.length c9] 57 (0, 0)) := heap_alloc_new w9 _
  have kA := k9.below bA
  have oA := o9.below bA (Nat.le_refl _)
  have belA := bel9.alloc bel9.size (.cells #[.int .u16 id9, .int .u8 u9, .slice A9 l9.length c9] 57)
  have hzA : w9.heap.size < (w9.alloc (.cells #[.int .u16 id9, .int .u8 u9, .slice A9 l9.length c9] 57)).heap.size := by simp
  have hz9 : w8.heap.size ≤ w9.heap.size := b9.size
  have hz7 : w.heap.size ≤ w7.heap.size := HZ7.out
  clear b9 k8 bel8 k9 o9 r9 bel9 bA
  go_wp2_with fail
  generalize w9.alloc (.cells #[.int .u16 id9, .int .u8 u9, .slice A9 l9.length c9] 57) = wA at *
  refine (refGet_any a1 l1 c1 x1 wA ((W1.out.below belA).more belA.size) HN1.out s1 (by omega)).mono ?_
  rintro e wB ⟨vB, rfl, oB, bB⟩
  rw [hf.out] at oB ⊢
  rw [hN.out, hG.out]
  have kB := kA.below bB
  have belB := belA.trans (bB.mono belA.size)
  have oA2 := oA.below bB (Nat.le_refl _)
  have yB := (bB.block w9.heap.size hzA).trans yA
  obtain ⟨AB, cB, hvB, rB, _, _⟩ := oB.row HFW.out.l
  subst hvB
  have hzB : wA.heap.size ≤ wB.heap.size := bB.size
  have bC := bel_alloc wB (.cells #[.int .u16 id9, .int .u8 u9, .slice AB l9.length cB] 57)
  have zC : (wB.alloc (.cells #[.int .u16 id9, .int .u8 u9, .slice AB l9.length cB] 57)).heap[wB.heap.size]? = some (.cells #[.int .u16 id9, .int .u8 u9, .slice AB l9.length cB] 57 (0, 0)) := heap_alloc_new wB _
  have kC := kB.below bC
  have oC := oA2.below bC (Nat.le_refl _)
  have rC := (rB.below bC).more bC.size
  have belC := belB.alloc belB.size (.cells #[.int .u16 id9, .int .u8 u9, .slice AB l9.length cB] 57)
  have yC := (bC.block w9.heap.size (by omega)).trans yB
  have hzC : wB.heap.size < (wB.alloc (.cells #[.int .u16 id9, .int .u8 u9, .slice AB l9.length cB] 57)).heap.size := by simp
  clear bB kA oA yA belA kB oA2 yB oB rB belB bC
  go_wp2_with fail
  generalize wB.alloc (.cells #[.int .u16 id9, .int .u8 u9, .slice AB l9.length cB] 57) = wC at *
  refine (split_any (some ⟨w7.heap.size, 0, none⟩) l1 (l1 + 5) x1 wC (kC.row x1 hwf1.out (List.prefix_append _ _)) HN1.out (by omega) hmx).mono ?_
  rintro e wD ⟨fs, kk, EE, vD, spl, rfl, oD, bD⟩
  have SPL := Lib.hid spl
  have kD := kC.below bD
  have belD := belC.trans (bD.mono belC.size)
  have xD := oC.below bD (Nat.le_refl _)
  have rD := (rC.below bD).more bD.size
  have yD := (bD.block w9.heap.size (by omega)).trans yC
  have zD := (bD.block wB.heap.size hzC).trans zC
  have hzD := bD.size
  clear bD kC oC rC yC zC belC spl
  go_wp2_with fail
  refine (refSplit_any a1 l1 c1 x1 wD ((W1.out.below belD).more belD.size) HN1.out s1 hmx).mono ?_
  rintro e wE ⟨fs', kk', EE', vE, spl', rfl, oE, bE⟩
  obtain ⟨q1, q2, q3⟩ := spl'.one SPL.out
  subst q1 q2 q3
  have kE := kD.below bE
  have belE := belD.trans (bE.mono belD.size)
  have xE := xD.below bE (Nat.le_refl _)
  have rE := (rD.below bE).more bE.size
  have yE := (bE.block w9.heap.size (by omega)).trans yD
  have zE := (bE.block wB.heap.size (by omega)).trans zD
  have lE := (oD.below bE (Nat.le_refl _)).toR
  have pE := oE.toR
  have hzE := bE.size
  have hfs : fs'.length ≤ 4000000000000 := by have h1 := SPL.out.le; have h2 := HN1.out; omega
  clear bE kD belD xD rD yD zD oD oE spl'
  obtain ⟨AL, cL, rfl, hcL⟩ := lE.len
  obtain ⟨AO, cO, rfl, hcO⟩ := pE.len
  obtain ⟨y0, y1, y2⟩ := cells3 yE
  obtain ⟨z0, z1, z2⟩ := cells3 zE
  obtain ⟨A9', c9', hv9, r9, _, _⟩ := xE.row HFW.out.l
  injection hv9 with e1 e2 e3
  subst e1 e3
  clear e2
  have t1 : ((N : Int) != (N : Int)) = false := by simp
  have t2 : (G != G) = false := by simp
  have t3 : ((kk' : Int) != (kk' : Int)) = false := by simp
  have t4 : (EE' != EE') = false := by simp
  have R9 := Lib.hid r9
  have RE := Lib.hid rE
  clear r9 rE
  go_wp2_with fail
  clear y0 y1 y2 z0 z1 z2
  refine (same5_yes id9 u9 l9 A9 AB l9.length c9 cB wE _ _ R9.out RE.out rfl (by have := hfl.out; omega) (Nat.le_refl _) (Nat.le_refl _)).mono ?_
  rintro e wF ⟨rfl, bF⟩
  have lF := lE.below bF (Nat.le_refl _)
  have pF := pE.below bF (Nat.le_refl _)
  have kF := kE.below bF
  have xF := xE.below bF (Nat.le_refl _)
  have yF := (bF.block w9.heap.size (by omega)).trans yE
  have belF := belE.trans (bF.mono belE.size)
  have hzF := bF.size
  clear bF lE pE kE xE yE zE belE R9 RE
  have HSM : Hid (∀ f ∈ fs', f.Wf ∧ f.l.length ≤ 253) := Lib.hid (fun f hf => ⟨SPL.out.wf hwf1.out f hf, (frChk_le (SPL.out.chk hwf1.out f hf)).2⟩)
  go_wp2_with fail
  refine (sameAll_yes _ _ _ _ _ _ fs' wF lF pF HSM.out hfs).mono ?_
  rintro e wG ⟨rfl, bG⟩
  have lG := lF.below bG (Nat.le_refl _)
  have pG := pF.below bG (Nat.le_refl _)
  have kG := kF.below bG
  have xG := xF.below bG (Nat.le_refl _)
  have yG := (bG.block w9.heap.size (by omega)).trans yF
  have belG := belF.trans (bG.mono belF.size)
  have hzG := bG.size
  clear bG lF pF kF xF yF belF
  obtain ⟨y0, y1, y2⟩ := cells3 yG
  go_wp2_with fail
  clear y0 y1 y2
  refine (spoil_kown _ _ l9 wG xG).mono ?_
  rintro e wH ⟨rfl, gH, hsH⟩
  have lH := lG.keptFar gH (fun q e => by have := (HX9.out q e).2; omega) (fun q e => by have := (HX9.out q e).2; omega)
  have pH := pG.keptFar gH (fun q e => by have := (HX9.out q e).2; omega) (fun q e => by have := (HX9.out q e).2; omega)
  have kH := kG.grown gH (fun e => by have := (HX9.out _ e).1; omega)
  have belH := belG.grown gH belG.size (fun q e => by have := (HX9.out q e).1; omega)
  clear lG pG kG xG yG belG gH hsH
  rcases Nat.eq_zero_or_pos fs'.length with h0 | h0
  · obtain rfl : fs' = [] := List.eq_nil_of_length_eq_zero h0
    clear lH pH h0
    go_wp2
    go_quiet (fail)
    have kI := kH.drewN nq
    have belI := below_drewN belH nq
    clear kH belH
    generalize wH.drewN nq = wI at *
    go_wp2_with fail
    refine (kept_u8 a1 l1 c1 w7.heap.size x1 wI w.heap.size (W1.out.below belI) HN1.out (by omega) kI).mono ?_
    rintro e wJ ⟨rfl, mJ, rfl⟩
    go_wp2
    go_ret
    exact ⟨rfl, below_drewN belI _⟩
  · obtain ⟨f0, rest, rfl⟩ : ∃ f0 rest, fs' = f0 :: rest := by cases fs' with
      | nil => simp at h0
      | cons f0 rest => exact ⟨f0, rest, rfl⟩
    obtain ⟨g1, d1, B1, m1, e1, hg1, hcc1, a0, a1', a2, kk1⟩ := lH.at_ h0
    obtain ⟨g2, d2, B2, m2, e2, hg2, hcc2, b0, b1, b2, kk2⟩ := pH.at_ h0
    injection e1 with ea eb ec
    injection e2 with ea' eb' ec'
    subst ea ec ea' ec'
    have hw := HSM.out _ (List.getElem_mem h0)
    obtain ⟨⟨id0, u0, l0⟩, hfk⟩ : ∃ f, (f0 :: rest)[0] = f := ⟨_, rfl⟩
    rw [hfk] at a0 a1' a2 b0 b1 b2 kk1 kk2 hw
    simp only at a0 a1' a2 b0 b1 b2 kk1 kk2 hw
    simp only [Nat.zero_mul, Nat.zero_add] at a0 a1' a2 b0 b1 b2
    obtain ⟨B1', m1', ev, r1, _, _⟩ := kk1.row hw.1.l
    injection ev with ev1 ev2 ev3
    subst ev1 ev3
    obtain ⟨B2', m2', ev, r2, _, _⟩ := kk2.row hw.1.l
    injection ev with ev1' ev2' ev3'
    subst ev1' ev3'
    have hl0 := hw.2
    have HS : Hid (∀ p, Calls Try.prog 19 #[.slice B1 l0.length m1, .slice B2 l0.length m2] (wH.drewN p) fun e w' => e = .returned (.bool true) ∧ ∃ n, w' = (wH.drewN p).drewN n) := Lib.hid (fun p => same_yes_u8 _ _ _ _ _ l0 _ _ _ (r1.drewN p) (r2.drewN p) rfl (by omega))
    have t5 : (0 : Int) < ((rest.length : Nat) : Int) + 1 := by omega
    have t6 : 0 < rest.length + 1 := by omega
    clear hfk eb eb' ev2 ev2' kk1 kk2 r1 r2 hw lH pH a0 a1' b0 b1
    go_wp2_with fail
    go_quiet ((go_at_call 19; refine Calls.quiet_of (HS.out _)))
    have kI := kH.drewN nq
    have belI := below_drewN belH nq
    clear kH belH a2 b2 HS
    generalize wH.drewN nq = wI at *
    go_wp2_with fail
    refine (kept_u8 a1 l1 c1 w7.heap.size x1 wI w.heap.size (W1.out.below belI) HN1.out (by omega) kI).mono ?_
    rintro e wJ ⟨rfl, mJ, rfl⟩
    go_wp2
    go_ret
    exact ⟨rfl, below_drewN belI _⟩
end Go.Proofs.Ytmbjcmagadekpaa
